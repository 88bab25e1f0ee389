/- Groups: a map of ints to sets. -/
import Derived.Test.YtofcniodobjopaaGreatLkM
namespace Go.Proofs.YtofcniodobjopaaGreat
open Go.RowKit Go.Maps

/-- Another truth at one pair. -/
def at2 (F : Int → Int → Bool) (a b : Int) (v : Bool) : Int → Int → Bool := at1 F a (at1 (F a) b v)
theorem at2_val (F : Int → Int → Bool) (a b : Int) (v : Bool) (x y : Int) : at2 F a b v x y = if x = a ∧ y = b then v else F x y := by
  unfold at2 at1
  by_cases hx : x = a
  · subst hx
    by_cases hy : y = b <;> simp [hy]
  · simp [hx]

structure GrF (w : World) (g n : Nat) (f : Int → Option Nat) (F : Int → Int → Bool) (P : Nat → Prop) : Prop where
  out : OutB w g n f
  pg : P g
  bnd : ∀ x, P x → x < w.heap.size
  set : ∀ x k, f x = some k → P k ∧ k ≠ g ∧ SetB w k n (F x) ∧ ∃ y, F x y = true
  no : ∀ x, f x = none → ∀ y, F x y = false
  inj : ∀ x x' k, f x = some k → f x' = some k → x = x'
/-- In block g lie groups of at most n members each; whose member is whose: F; all blocks of theirs: P. -/
def Gr (w : World) (g n : Nat) (F : Int → Int → Bool) (P : Nat → Prop) : Prop := ∃ f, GrF w g n f F P

theorem SetB.upP {P : Nat → Prop} {w w' : World} {b n : Nat} {s : Int → Bool} (h : SetB w b n s) (hu : UpP P w w') (hn : ¬ P b) : SetB w' b n s := MapB.upP h hu hn
theorem SetB.le {w : World} {b n m : Nat} {s : Int → Bool} (h : SetB w b n s) (hm : n ≤ m) : SetB w b m s := MapB.le h hm
theorem SetB.lt {w : World} {b n : Nat} {s : Int → Bool} (h : SetB w b n s) : b < w.heap.size := MapB.lt h
theorem OutB.upP {P : Nat → Prop} {w w' : World} {b n : Nat} {f : Int → Option Nat} (h : OutB w b n f) (hu : UpP P w w') (hn : ¬ P b) : OutB w' b n f := MapB.upP h hu hn
theorem OutB.le {w : World} {b n m : Nat} {f : Int → Option Nat} (h : OutB w b n f) (hm : n ≤ m) : OutB w b m f := MapB.le h hm
theorem OutB.lt {w : World} {b n : Nat} {f : Int → Option Nat} (h : OutB w b n f) : b < w.heap.size := MapB.lt h

theorem GrF.mono {w w' : World} {g n : Nat} {f : Int → Option Nat} {F : Int → Int → Bool} {P Q : Nat → Prop} (h : GrF w g n f F P) (hu : UpP Q w w') (hn : ∀ x, P x → ¬ Q x) : GrF w' g n f F P :=
  ⟨h.out.upP hu (hn g h.pg), h.pg, fun x hx => Nat.lt_of_lt_of_le (h.bnd x hx) hu.size, fun x k hx => by obtain ⟨h1, h2, h3, h4⟩ := h.set x k hx; exact ⟨h1, h2, h3.upP hu (hn k h1), h4⟩, h.no, h.inj⟩
theorem Gr.mono {w w' : World} {g n : Nat} {F : Int → Int → Bool} {P Q : Nat → Prop} (h : Gr w g n F P) (hu : UpP Q w w') (hn : ∀ x, P x → ¬ Q x) : Gr w' g n F P := by
  obtain ⟨f, h⟩ := h
  exact ⟨f, h.mono hu hn⟩
theorem Gr.upd {w w' : World} {g n : Nat} {F : Int → Int → Bool} {P : Nat → Prop} (h : Gr w g n F P) (hu : Upd [] w w') : Gr w' g n F P := h.mono (Q := fun _ => False) hu.toN (fun _ _ h => h)
theorem Gr.le {w : World} {g n m : Nat} {F : Int → Int → Bool} {P : Nat → Prop} (h : Gr w g n F P) (hm : n ≤ m) : Gr w g m F P := by
  obtain ⟨f, h⟩ := h
  exact ⟨f, h.out.le hm, h.pg, h.bnd, fun x k hx => by obtain ⟨h1, h2, h3, h4⟩ := h.set x k hx; exact ⟨h1, h2, h3.le hm, h4⟩, h.no, h.inj⟩
theorem Gr.lt {w : World} {g n : Nat} {F : Int → Int → Bool} {P : Nat → Prop} (h : Gr w g n F P) : g < w.heap.size := by
  obtain ⟨f, h⟩ := h
  exact h.out.lt
theorem Gr.pg {w : World} {g n : Nat} {F : Int → Int → Bool} {P : Nat → Prop} (h : Gr w g n F P) : P g := by
  obtain ⟨f, h⟩ := h
  exact h.pg
theorem Gr.bnd {w : World} {g n : Nat} {F : Int → Int → Bool} {P : Nat → Prop} (h : Gr w g n F P) : ∀ x, P x → x < w.heap.size := by
  obtain ⟨f, h⟩ := h
  exact h.bnd
theorem Gr.keys {w : World} {g n : Nat} {F : Int → Int → Bool} {P : Nat → Prop} (h : Gr w g n F P) {x y : Int} (hx : F x y = true) : I64 x ∧ I64 y := by
  obtain ⟨f, h⟩ := h
  cases hf : f x with
  | none => rw [h.no x hf y] at hx; cases hx
  | some k => exact ⟨MapB.keys h.out (by rw [hf]; simp), (h.set x k hf).2.2.1.keys hx⟩
theorem Gr.new (w : World) (g : Nat) (h : g = w.heap.size) : Gr (w.alloc (.map #[] 0)) g 0 (fun _ _ => false) (fun x => x = g) :=
  ⟨fun _ => none, MapB.new w g h, rfl, fun x hx => by rw [hx, h]; simp, fun x k hx => (nomatch hx), fun _ _ _ => rfl, fun x x' k hx _ => (nomatch hx)⟩

set_option maxRecDepth 10000 in
theorem has_any {w : World} {g n : Nat} {F : Int → Int → Bool} {P : Nat → Prop} (h : Gr w g n F P) {a b : Int} (ha : I64 a) (hb : I64 b) :
    Calls Tryz.prog 58 #[.map (some g), .int .i64 a, .int .i64 b] w fun e w' => e = .returned (.bool (F a b)) ∧ Upd [] w w' := by
  obtain ⟨f, h⟩ := h
  have e1 := h.out.look ha
  cases hf : f a with
  | none =>
    rw [hf] at e1
    have e2 := set_look_nil w hb
    have e3 := h.no a hf b
    rw [e3]
    clear h e3
    go_enter Tryz.func58, Tryz.ntmps58
    go_wp2
    go_ret
    exact ⟨rfl, (Upd.refl [] w).alloc _⟩
  | some k =>
    rw [hf] at e1
    have e2 := (h.set a k hf).2.2.1.look hb
    generalize F a b = v at e2 ⊢
    clear h
    go_enter Tryz.func58, Tryz.ntmps58
    go_wp2
    go_ret
    exact ⟨rfl, (Upd.refl [] w).alloc _⟩

end Go.Proofs.YtofcniodobjopaaGreat
