/- What the order of right terms is like, said for the statement. -/
import Derived.Test.YtplkcegdmlfhcaaDoorAwkT
import Derived.Test.YtplkcegdmlfhcaaDoorJF
import Derived.Test.YtplkcegdmlfhcaaDoorJL

namespace Go.Proofs.YtplkcegdmlfhcaaDoor
open Go.RowKit

theorem digR_of (I : List Tm) (h : ∀ i (hi : i < I.length), digT I[i]) : digR I := by
  induction I with
  | nil => trivial
  | cons t r ih =>
    refine ⟨h 0 (by simp), ih fun i hi => ?_⟩
    have := h (i + 1) (by simpa using hi)
    simpa using this
theorem In.dig {w : World} : ∀ (d : Nat) (cs : List Value) (t : Tm), In w d cs t → digT t := by
  intro d
  induction d with
  | zero => intro cs t h; exact h.elim
  | succ d ih =>
    intro cs t h
    cases t with
    | mk k num neg L s I T =>
      obtain ⟨a, ai, at', c, ci, ct, rfl, h1, h2, h3, h4⟩ := h
      have row : ∀ (a : Option Addr) (I : List Tm), RowAt (In w d) w a I → digR I := by
        intro a I h
        rcases h with rfl | ⟨b, o, e, hlt, hc⟩
        · trivial
        · refine digR_of I fun i hi => ?_
          obtain ⟨cs, _, _, h⟩ := hc i hi
          exact ih _ _ h
      exact ⟨h2, row _ _ h3, row _ _ h4⟩

/-- What the order tells of three right terms. -/
structure OrdSays (t0 t1 t2 : Tm) (x x' y z : Int) (sm : Bool) : Prop where
  c01 : cmpS t0 t1 = x
  c10 : cmpS t1 t0 = x'
  c12 : cmpS t1 t2 = y
  c02 : cmpS t0 t2 = z
  c00 : cmpS t0 t0 = 0
  s01 : samS t0 t1 = sm
  g01 : samT t0 t1 = sm
  s00 : samS t0 t0 = true
theorem cmpS_ok {t u : Tm} (h : okS t = true) (h' : okS u = true) : cmpS t u = ordT t u := by unfold cmpS; rw [h, h']; rfl
theorem ord_says (t0 t1 t2 : Tm) (h0 : okS t0 = true) (h1 : okS t1 = true) (h2 : okS t2 = true) (d0 : digT t0) (d1 : digT t1) :
    ∃ x x' y z sm, OrdSays t0 t1 t2 x x' y z sm ∧ ((x = -1 ∧ x' = 1 ∧ sm = false) ∨ (x = 0 ∧ x' = 0 ∧ sm = true) ∨ (x = 1 ∧ x' = -1 ∧ sm = false)) ∧ (y = -1 ∨ y = 0 ∨ y = 1) ∧ (z = -1 ∨ z = 0 ∨ z = 1) ∧ (x ≤ 0 → y ≤ 0 → z ≤ 0 ∧ (z = 0 → x = 0 ∧ y = 0)) ∧ (t0.kd < t1.kd → x = -1) := by
  have k0 := okS_ok h0
  have k1 := okS_ok h1
  have k2 := okS_ok h2
  have hn := ordT_neg t0 t1 k0 k1
  have hself := ordT_self t0 k0
  have key : samT t0 t1 = (ordT t0 t1 == 0) := by
    rw [Bool.eq_iff_iff, samT_eq, beq_iff_eq]
    constructor
    · intro e; rw [e]; exact ordT_self t1 k1
    · exact ordT_zero t0 t1 k0 k1 d0 d1
  refine ⟨ordT t0 t1, ordT t1 t0, ordT t1 t2, ordT t0 t2, ordT t0 t1 == 0, ⟨cmpS_ok h0 h1, cmpS_ok h1 h0, cmpS_ok h1 h2, cmpS_ok h0 h2, by rw [cmpS_ok h0 h0]; exact hself, by unfold samS; rw [h0, h1]; rfl, key, by unfold samS; rw [h0, hself]; rfl⟩, ?_, ordT_range t1 t2 k1 k2, ordT_range t0 t2 k0 k2, ?_, ordT_kind t0 t1⟩
  · rcases ordT_range t0 t1 k0 k1 with e | e | e
    · exact Or.inl ⟨e, by omega, by rw [e] <;> decide⟩
    · exact Or.inr (Or.inl ⟨e, by omega, by rw [e] <;> decide⟩)
    · exact Or.inr (Or.inr ⟨e, by omega, by rw [e] <;> decide⟩)
  · intro hx hy
    refine ⟨ordT_trans t0 t1 t2 k0 k1 k2 hx hy, fun hz => ?_⟩
    have h20 := ordT_neg t0 t2 k0 k2
    have h21 := ordT_neg t1 t2 k1 k2
    have e1 : ordT t1 t0 ≤ 0 := ordT_trans t1 t2 t0 k1 k2 k0 hy (by rw [h20, hz]; decide)
    have e2 : ordT t2 t1 ≤ 0 := ordT_trans t2 t0 t1 k2 k0 k1 (by rw [h20, hz]; decide) hx
    omega
end Go.Proofs.YtplkcegdmlfhcaaDoor

/- Text of whatever term, by its contract. -/
namespace Go.Proofs.YtplkcegdmlfhcaaDoor
open Go.RowKit

/-- What Text tells. -/
noncomputable def txS (t : Tm) : List UInt8 := if okS t then txT t else []
set_option maxHeartbeats 4000000 in
set_option maxRecDepth 100000 in
theorem TText_bad (d : Nat) (w : World) (cs : List Value) (t : Tm) (h : In w d cs t) (hok : okS t = false) (hs : tsz t ≤ 1353245080330) :
    Calls Tryd.prog 16 #[.agg cs.toArray] w fun e w' => e = .returned (.string ⟨#[]⟩) ∧ Upd [] w w' := by
  have hsev := h.seven
  have tb0 : Tb (w.alloc (.cells cs.toArray 26)) w.heap.size cs.toArray := Tb.new _ _ _ rfl
  have hU1 : Upd [] w (w.alloc (.cells cs.toArray 26)) := (Upd.refl [] w).alloc _
  have HR : Hid (∀ W, Upd [] w W → Calls Tryd.prog 8 #[.agg cs.toArray] W fun e w' => e = .returned (.bool false) ∧ Upd [] W w') := fun W hU => by
    have := TRight_in d W cs t (In.mono hU _ _ _ h) hs
    rw [hok] at this
    exact this
  clear h hok hs
  obtain ⟨C, hC⟩ : ∃ C, C = cs.toArray := ⟨_, rfl⟩
  rw [← hC] at hsev HR tb0 hU1 ⊢
  clear hC
  go_enter Tryd.func16, Tryd.ntmps16
  go_wp2_with (first | (refine load_T _ rfl _ rfl _ _ rfl tb0 hsev ?_) | fail)
  refine Calls.mono (HR.out _ hU1) ?_
  rintro e w1 ⟨rfl, uw1⟩
  go_wp2
  go_ret
  exact ⟨rfl, hU1.trans uw1⟩
theorem TText_any (d : Nat) (w : World) (cs : List Value) (t : Tm) (h : In w d cs t) (hs : tsz t ≤ 1353245080330) (hG : Glb w) :
    Calls Tryd.prog 16 #[.agg cs.toArray] w fun e w' => e = .returned (.string (str (txS t))) ∧ Upd [] w w' := by
  unfold txS
  cases hok : okS t with
  | true => rw [if_pos rfl]; exact TText_in d w cs t h hok hs (tx_short t hok (In.dig _ _ _ h)) hG
  | false => rw [if_neg (by decide)]; exact TText_bad d w cs t h hok hs
end Go.Proofs.YtplkcegdmlfhcaaDoor
