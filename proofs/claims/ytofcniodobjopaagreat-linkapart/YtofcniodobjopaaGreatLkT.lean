/- Groups: take. -/
import Derived.Test.YtofcniodobjopaaGreatLkP
namespace Go.Proofs.YtofcniodobjopaaGreat
open Go.RowKit Go.Maps

theorem GrF.take_no {w w' : World} {g n : Nat} {f : Int → Option Nat} {F : Int → Int → Bool} {P : Nat → Prop} {a b : Int} (h : GrF w g n f F P) (hf : f a = none) (hO : OutB w' g n (at1 f a none)) (hu : UpP (fun x => x = g) w w') : GrF w' g n f (at2 F a b false) P := by
  have e1 : at1 f a none = f := by
    funext x
    by_cases hx : x = a
    · subst hx; rw [at1_same, hf]
    · rw [at1_other _ _ hx]
  have e2 : at2 F a b false = F := by
    funext x y
    rw [at2_val]
    by_cases hx : x = a ∧ y = b
    · rw [if_pos hx, hx.1, h.no a hf y]
    · rw [if_neg hx]
  rw [e1] at hO
  rw [e2]
  exact ⟨hO, h.pg, fun x hx => Nat.lt_of_lt_of_le (h.bnd x hx) hu.size, fun x k hx => by obtain ⟨g1, g2, g3, g4⟩ := h.set x k hx; exact ⟨g1, g2, g3.upP hu g2, g4⟩, h.no, h.inj⟩
theorem GrF.take_left {w w' : World} {g n k : Nat} {f : Int → Option Nat} {F : Int → Int → Bool} {P : Nat → Prop} {a b : Int} (h : GrF w g n f F P) (hf : f a = some k) (hS : SetB w' k n (at1 (F a) b false)) (hy : ∃ y, at1 (F a) b false y = true) (hu : UpP (fun x => x = k) w w') : GrF w' g n f (at2 F a b false) P := by
  obtain ⟨h1, h2, h3, h4⟩ := h.set a k hf
  refine ⟨h.out.upP hu (fun e => h2 e.symm), h.pg, fun x hx => Nat.lt_of_lt_of_le (h.bnd x hx) hu.size, fun x m hx => ?_, fun x hx y => ?_, h.inj⟩
  · by_cases hxa : x = a
    · subst hxa
      rw [hf] at hx; cases hx
      unfold at2
      rw [at1_same]
      exact ⟨h1, h2, hS, hy⟩
    · obtain ⟨g1, g2, g3, g4⟩ := h.set x m hx
      unfold at2
      rw [at1_other _ _ hxa]
      exact ⟨g1, g2, g3.upP hu (fun e => hxa (h.inj x a k (e ▸ hx) hf)), g4⟩
  · rw [at2_val, if_neg (fun e => by rw [e.1, hf] at hx; cases hx)]; exact h.no x hx y
theorem GrF.take_last {w w1 w' : World} {g n k : Nat} {f : Int → Option Nat} {F : Int → Int → Bool} {P : Nat → Prop} {a b : Int} (h : GrF w g n f F P) (hf : f a = some k) (hy : ∀ y, at1 (F a) b false y = false) (hu : UpP (fun x => x = k) w w1) (hO : OutB w' g n (at1 f a none)) (hu1 : UpP (fun x => x = g) w1 w') : GrF w' g n (at1 f a none) (at2 F a b false) P := by
  refine ⟨hO, h.pg, fun x hx => Nat.lt_of_lt_of_le (h.bnd x hx) (Nat.le_trans hu.size hu1.size), fun x m hx => ?_, fun x hx y => ?_, fun x x' m hx hx' => ?_⟩
  · have hxa : x ≠ a := fun e => by rw [e, at1_same] at hx; cases hx
    rw [at1_other _ _ hxa] at hx
    obtain ⟨g1, g2, g3, g4⟩ := h.set x m hx
    unfold at2
    rw [at1_other _ _ hxa]
    exact ⟨g1, g2, (g3.upP hu (fun e => hxa (h.inj x a k (e ▸ hx) hf))).upP hu1 g2, g4⟩
  · by_cases hxa : x = a
    · subst hxa
      unfold at2
      rw [at1_same]; exact hy y
    · rw [at1_other _ _ hxa] at hx
      rw [at2_val, if_neg (fun e => hxa e.1)]; exact h.no x hx y
  · have hxa : x ≠ a := fun e => by rw [e, at1_same] at hx; cases hx
    have hxa' : x' ≠ a := fun e => by rw [e, at1_same] at hx'; cases hx'
    rw [at1_other _ _ hxa] at hx
    rw [at1_other _ _ hxa'] at hx'
    exact h.inj x x' m hx hx'

set_option maxRecDepth 10000 in
theorem take_any {w : World} {g n : Nat} {F : Int → Int → Bool} {P : Nat → Prop} (h : Gr w g n F P) {a b : Int} (ha : I64 a) (hb : I64 b) :
    Calls Tryz.prog 64 #[.map (some g), .int .i64 a, .int .i64 b] w fun e w' => e = .returned (.tuple #[]) ∧ Gr w' g n (at2 F a b false) P ∧ UpP P w w' := by
  obtain ⟨f, h⟩ := h
  have e1 := h.out.look ha
  cases hf : f a with
  | none =>
    rw [hf] at e1
    have e2 := set_drop_nil w hb 91
    have e3 := set_len_nil w
    obtain ⟨w', e4, hO, ht⟩ := h.out.drop ha 0
    have hu := turned_upP ht
    have H : Hid (Gr w' g n (at2 F a b false) P) := ⟨f, h.take_no hf hO hu⟩
    have U : Hid (UpP P w w') := hu.mono (fun x hx => hx ▸ h.pg)
    have e2 : ∀ ty, (Builtin.delete_ #[90, 3] ty #[.map none, .int .i64 b]).run Tryz.prog w = .ok (.tuple #[]) w := fun ty => set_drop_nil w hb ty
    have e5 : ∀ ty, ∃ w2, (Builtin.delete_ #[46, 3] ty #[.map (some g), .int .i64 a]).run Tryz.prog w = .ok (.tuple #[]) w2 := fun ty => by obtain ⟨w2, h2, _⟩ := h.out.drop ha ty; exact ⟨w2, h2⟩
    clear h hf hO ht hu e5
    go_enter Tryz.func64, Tryz.ntmps64
    go_wp2
    go_end0
    exact ⟨rfl, H.out, U.out⟩
  | some k =>
    rw [hf] at e1
    obtain ⟨h1, h2, h3, h4⟩ := h.set a k hf
    obtain ⟨w1, e2, hS, ht⟩ := h3.drop hb 0
    have hu := turned_upP ht
    have e3 : (Instr.lookup 46 (.map (some g)) (.int .i64 a) false).run Tryz.prog w1 = .ok (.map (some k)) w1 := by
      have := (h.out.upP hu (fun e => h2 e.symm)).look ha
      rwa [hf] at this
    have hlen : ∀ ty, ∃ z : Nat, (Builtin.len_ #[90] ty #[.map (some k)]).run Tryz.prog w1 = .ok (.int .i64 z) w1 ∧ z ≤ n ∧ (z = 0 ↔ ∀ x, at1 (F a) b false x = false) := fun ty => hS.len ty
    obtain ⟨z, e4, hz, hz0⟩ := hlen 3
    by_cases hzz : z = 0
    · subst hzz
      have hO1 : OutB w1 g n f := h.out.upP hu (fun e => h2 e.symm)
      obtain ⟨w', e5, hO, ht1⟩ := hO1.drop ha 0
      have hu1 := turned_upP ht1
      have H : Hid (Gr w' g n (at2 F a b false) P) := ⟨_, h.take_last hf (hz0.1 rfl) hu hO hu1⟩
      have U : Hid (UpP P w w') := (hu.mono (Q := P) (fun x hx => hx ▸ h1)).trans (hu1.mono (fun x hx => hx ▸ h.pg))
      clear h hf hO ht hu h1 h2 h3 h4 hS hz hz0 hO1 ht1 hu1 hlen
      go_enter Tryz.func64, Tryz.ntmps64
      go_wp2
      go_end0
      exact ⟨rfl, H.out, U.out⟩
    · have hy : ∃ y, at1 (F a) b false y = true := by
        refine Classical.byContradiction fun hno => hzz (hz0.2 fun x => ?_)
        cases hv : at1 (F a) b false x
        · rfl
        · exact absurd ⟨x, hv⟩ hno
      have H : Hid (Gr w1 g n (at2 F a b false) P) := ⟨_, h.take_left hf hS hy hu⟩
      have U : Hid (UpP P w w1) := hu.mono (Q := P) (fun x hx => hx ▸ h1)
      have hzb : ((z : Int) == 0) = false := by simp; omega
      clear h hf ht hu h1 h2 h3 h4 hS hz hz0 hlen hzz hy
      go_enter Tryz.func64, Tryz.ntmps64
      go_wp2
      go_end0
      exact ⟨rfl, H.out, U.out⟩

end Go.Proofs.YtofcniodobjopaaGreat
