/- Groups: put and take. -/
import Derived.Test.YtofcniodobjopaaGreatLkG
namespace Go.Proofs.YtofcniodobjopaaGreat
open Go.RowKit Go.Maps

/-- P, and what is new from w to w'. -/
def Nw (P : Nat → Prop) (w w' : World) : Nat → Prop := fun x => P x ∨ (w.heap.size ≤ x ∧ x < w'.heap.size)

theorem SetB.new (w : World) (g : Nat) (h : g = w.heap.size) : SetB (w.alloc (.map #[] 0)) g 0 (fun _ => false) := by
  have : (setF fun _ => false) = fun _ => none := by funext x; rfl
  unfold SetB
  rw [this]
  exact MapB.new w g h

/-- One more in a group that is there. -/
theorem GrF.put_there {w w' : World} {g n k : Nat} {f : Int → Option Nat} {F : Int → Int → Bool} {P Q : Nat → Prop} {a b : Int} (h : GrF w g n f F P) (hf : f a = some k) (hS : SetB w' k (n + 1) (at1 (F a) b true)) (hu : UpP (fun x => x = k) w w') (hQ : ∀ x, P x → Q x) (hQb : ∀ x, Q x → x < w'.heap.size) :
    GrF w' g (n + 1) f (at2 F a b true) Q := by
  obtain ⟨h1, h2, h3, h4⟩ := h.set a k hf
  refine ⟨(h.out.upP hu (fun e => h2 e.symm)).le (Nat.le_succ _), hQ _ h.pg, hQb, fun x m hx => ?_, fun x hx y => ?_, h.inj⟩
  · by_cases hxa : x = a
    · subst hxa
      rw [hf] at hx; cases hx
      refine ⟨hQ _ h1, h2, ?_, b, ?_⟩
      · unfold at2; rw [at1_same]; exact hS
      · rw [at2_val]; simp
    · obtain ⟨g1, g2, g3, y, g4⟩ := h.set x m hx
      refine ⟨hQ _ g1, g2, ?_, y, ?_⟩
      · unfold at2; rw [at1_other _ _ hxa]; exact (g3.upP hu (fun e => hxa (h.inj x a k (e ▸ hx) hf))).le (Nat.le_succ _)
      · rw [at2_val, if_neg (fun e => hxa e.1)]; exact g4
  · rw [at2_val, if_neg (fun e => by rw [e.1, hf] at hx; cases hx)]; exact h.no x hx y
/-- The first of a group that was not there. -/
theorem GrF.put_new {w w1 w' : World} {g n m : Nat} {f : Int → Option Nat} {F : Int → Int → Bool} {P Q : Nat → Prop} {a b : Int} (h : GrF w g n f F P) (hf : f a = none) (hm : w.heap.size ≤ m) (hu1 : UpP (fun x => x = g) w w1) (hO : OutB w1 g (n + 1) (at1 f a (some m))) (hS : SetB w' m 1 (at1 (fun _ => false) b true)) (hu : UpP (fun x => x = m) w1 w') (hQ : ∀ x, P x → Q x) (hQm : Q m) (hQb : ∀ x, Q x → x < w'.heap.size) :
    GrF w' g (n + 1) (at1 f a (some m)) (at2 F a b true) Q := by
  have hg : g < w.heap.size := h.out.lt
  have hgm : m ≠ g := by omega
  refine ⟨hO.upP hu (fun e => hgm e.symm), hQ _ h.pg, hQb, fun x k hx => ?_, fun x hx y => ?_, fun x x' k hx hx' => ?_⟩
  · by_cases hxa : x = a
    · subst hxa
      rw [at1_same] at hx; cases hx
      refine ⟨hQm, hgm, ?_, b, ?_⟩
      · have : F x = fun _ => false := by funext y; exact h.no x hf y
        unfold at2; rw [at1_same, this]; exact hS.le (by omega)
      · rw [at2_val]; simp
    · rw [at1_other _ _ hxa] at hx
      obtain ⟨g1, g2, g3, y, g4⟩ := h.set x k hx
      refine ⟨hQ _ g1, g2, ?_, y, ?_⟩
      · have hk := h.bnd k g1
        unfold at2; rw [at1_other _ _ hxa]; exact ((g3.upP hu1 g2).upP hu (fun e => by omega)).le (Nat.le_succ _)
      · rw [at2_val, if_neg (fun e => hxa e.1)]; exact g4
  · have hxa : x ≠ a := fun e => by rw [e, at1_same] at hx; cases hx
    rw [at1_other _ _ hxa] at hx
    rw [at2_val, if_neg (fun e => hxa e.1)]; exact h.no x hx y
  · by_cases hxa : x = a
    · by_cases hxa' : x' = a
      · rw [hxa, hxa']
      · rw [hxa, at1_same] at hx; cases hx
        rw [at1_other _ _ hxa'] at hx'
        have := h.bnd m (h.set x' m hx').1
        omega
    · rw [at1_other _ _ hxa] at hx
      by_cases hxa' : x' = a
      · rw [hxa', at1_same] at hx'; cases hx'
        have := h.bnd m (h.set x m hx).1
        omega
      · rw [at1_other _ _ hxa'] at hx'
        exact h.inj x x' k hx hx'

theorem map_some_nilIn (w : World) (k d : Nat) : (Op.equalIn (d + 1) 90 (.map (some k)) (.map none)).run Tryz.prog w = .ok false w := by
  simp [Op.equalIn, run_underlying und_set]
theorem map_nil_nilIn (w : World) (d : Nat) : (Op.equalIn (d + 1) 90 (.map none) (.map none)).run Tryz.prog w = .ok true w := by
  simp [Op.equalIn, run_underlying und_set]
theorem map_some_nil (w : World) (k : Nat) : (binOp .eql 90 (.map (some k)) (.map none)).run Tryz.prog w = .ok (.bool false) w := by
  simp only [binOp]
  simp [Op.equal, Op.maxDepth, map_some_nilIn w k 9999]
theorem map_nil_nil (w : World) : (binOp .eql 90 (.map none) (.map none)).run Tryz.prog w = .ok (.bool true) w := by
  simp only [binOp]
  simp [Op.equal, Op.maxDepth, map_nil_nilIn w 9999]

set_option maxRecDepth 10000 in
theorem put_any {w : World} {g n : Nat} {F : Int → Int → Bool} {P : Nat → Prop} (h : Gr w g n F P) (hn : n + 1 < maxLen) {a b : Int} (ha : I64 a) (hb : I64 b) :
    Calls Tryz.prog 60 #[.map (some g), .int .i64 a, .int .i64 b] w fun e w' => e = .returned (.tuple #[]) ∧ Gr w' g (n + 1) (at2 F a b true) (Nw P w w') ∧ UpP P w w' := by
  obtain ⟨f, h⟩ := h
  have e1 := h.out.look ha
  have q1 := map_some_nil
  have q2 := map_nil_nil
  cases hf : f a with
  | some k =>
    rw [hf] at e1
    obtain ⟨h1, h2, h3, h4⟩ := h.set a k hf
    obtain ⟨w', e2, hS, ht⟩ := h3.put (by omega) hb
    have hu := turned_upP ht
    have H : Hid (Gr w' g (n + 1) (at2 F a b true) (Nw P w w')) := ⟨f, h.put_there hf hS hu (fun x hx => Or.inl hx) (fun x hx => Or.elim hx (fun hx => Nat.lt_of_lt_of_le (h.bnd x hx) hu.size) (fun hx => hx.2))⟩
    have U : Hid (UpP P w w') := hu.mono (fun x hx => hx ▸ h1)
    clear h hf h1 h2 h3 h4 hS ht hu hn
    go_enter Tryz.func60, Tryz.ntmps60
    go_wp2
    go_end0
    exact ⟨rfl, H.out, U.out⟩
  | none =>
    rw [hf] at e1
    have hmm := @run_makeMap Tryz.prog
    obtain ⟨m, hm⟩ : ∃ m, m = w.heap.size := ⟨_, rfl⟩
    have hO0 : OutB (w.alloc (.map #[] 0)) g n f := h.out.upP (P := fun _ => False) ((Upd.refl [] w).alloc _).toN (fun h => h)
    obtain ⟨w1, e2, hO1, ht1⟩ := hO0.put (by omega) ha m
    have hg : g < w.heap.size := h.out.lt
    have hu1 := turned_upP ht1
    have hS0 : SetB w1 m 0 (fun _ => false) := (SetB.new w m hm).upP hu1 (by omega)
    have e3 : (Instr.lookup 46 (.map (some g)) (.int .i64 a) false).run Tryz.prog w1 = .ok (.map (some m)) w1 := by
      have := hO1.look ha
      rwa [at1_same] at this
    obtain ⟨w', e4, hS, ht⟩ := hS0.put (by unfold maxLen; omega) hb
    have hu := turned_upP ht
    have U1 : UpP (fun x => x = g) w w1 := (UpP.alloc (UpP.refl _ w) _).trans hu1
    have U : Hid (UpP P w w') := (U1.mono (Q := P) (fun x hx => hx ▸ h.pg)).thenP hu (fun x hx => Or.inl (by omega))
    have H : Hid (Gr w' g (n + 1) (at2 F a b true) (Nw P w w')) := ⟨_, h.put_new hf (by omega) U1 hO1 hS hu (fun x hx => Or.inl hx) (Or.inr ⟨by omega, by have := hS.lt; omega⟩) (fun x hx => by
      rcases hx with hx | hx
      · exact Nat.lt_of_lt_of_le (h.bnd x hx) U.out.size
      · exact hx.2)⟩
    clear h hf hO0 hO1 hS0 hS ht1 ht hu1 hu U1 hn hg
    subst hm
    go_enter Tryz.func60, Tryz.ntmps60
    go_wp2
    go_end0
    exact ⟨rfl, H.out, U.out⟩

end Go.Proofs.YtofcniodobjopaaGreat
