/- What the order of right terms is like, said for the statement. -/
import Derived.Test.YtedelcgimbclpaaDoorAwkT
import Derived.Test.YtedelcgimbclpaaDoorJF
import Derived.Test.YtedelcgimbclpaaDoorJL
import Derived.Test.YtedelcgimbclpaaDoorSplG
import Derived.Test.YtedelcgimbclpaaDoorTof
import Derived.Test.YtedelcgimbclpaaDoorJS

namespace Go.Proofs.YtedelcgimbclpaaDoor
open Go.RowKit

theorem digR_of (I : List Tm) (h : ∀ i (hi : i < I.length), digT I[i]) : digR I := by
  induction I with
  | nil => trivial
  | cons t r ih =>
    refine ⟨h 0 (by simp), ih fun i hi => ?_⟩
    have := h (i + 1) (by simpa using hi)
    simpa using this
theorem In.dig {w : World} : ∀ (d : Nat) (cs : List Value) (t : Tm), In w d cs t → digT t := by
  intro d
  induction d with
  | zero => intro cs t h; exact h.elim
  | succ d ih =>
    intro cs t h
    cases t with
    | mk k num neg L s I T =>
      obtain ⟨a, ai, at', c, ci, ct, rfl, h1, h2, h3, h4⟩ := h
      have row : ∀ (a : Option Addr) (I : List Tm), RowAt (In w d) w a I → digR I := by
        intro a I h
        rcases h with rfl | ⟨b, o, e, hlt, hc⟩
        · trivial
        · refine digR_of I fun i hi => ?_
          obtain ⟨cs, _, _, h⟩ := hc i hi
          exact ih _ _ h
      exact ⟨h2, row _ _ h3, row _ _ h4⟩

/-- What the order tells of three right terms. -/
structure OrdSays (t0 t1 t2 : Tm) (x x' y z : Int) (sm : Bool) : Prop where
  c01 : cmpS t0 t1 = x
  c10 : cmpS t1 t0 = x'
  c12 : cmpS t1 t2 = y
  c02 : cmpS t0 t2 = z
  c00 : cmpS t0 t0 = 0
  s01 : samS t0 t1 = sm
  g01 : samT t0 t1 = sm
  s00 : samS t0 t0 = true
theorem cmpS_ok {t u : Tm} (h : okS t = true) (h' : okS u = true) : cmpS t u = ordT t u := by unfold cmpS; rw [h, h']; rfl
theorem ord_says (t0 t1 t2 : Tm) (h0 : okS t0 = true) (h1 : okS t1 = true) (h2 : okS t2 = true) (d0 : digT t0) (d1 : digT t1) :
    ∃ x x' y z sm, OrdSays t0 t1 t2 x x' y z sm ∧ ((x = -1 ∧ x' = 1 ∧ sm = false) ∨ (x = 0 ∧ x' = 0 ∧ sm = true) ∨ (x = 1 ∧ x' = -1 ∧ sm = false)) ∧ (y = -1 ∨ y = 0 ∨ y = 1) ∧ (z = -1 ∨ z = 0 ∨ z = 1) ∧ (x ≤ 0 → y ≤ 0 → z ≤ 0 ∧ (z = 0 → x = 0 ∧ y = 0)) ∧ (t0.kd < t1.kd → x = -1) := by
  have k0 := okS_ok h0
  have k1 := okS_ok h1
  have k2 := okS_ok h2
  have hn := ordT_neg t0 t1 k0 k1
  have hself := ordT_self t0 k0
  have key : samT t0 t1 = (ordT t0 t1 == 0) := by
    rw [Bool.eq_iff_iff, samT_eq, beq_iff_eq]
    constructor
    · intro e; rw [e]; exact ordT_self t1 k1
    · exact ordT_zero t0 t1 k0 k1 d0 d1
  refine ⟨ordT t0 t1, ordT t1 t0, ordT t1 t2, ordT t0 t2, ordT t0 t1 == 0, ⟨cmpS_ok h0 h1, cmpS_ok h1 h0, cmpS_ok h1 h2, cmpS_ok h0 h2, by rw [cmpS_ok h0 h0]; exact hself, by unfold samS; rw [h0, h1]; rfl, key, by unfold samS; rw [h0, hself]; rfl⟩, ?_, ordT_range t1 t2 k1 k2, ordT_range t0 t2 k0 k2, ?_, ordT_kind t0 t1⟩
  · rcases ordT_range t0 t1 k0 k1 with e | e | e
    · exact Or.inl ⟨e, by omega, by rw [e] <;> decide⟩
    · exact Or.inr (Or.inl ⟨e, by omega, by rw [e] <;> decide⟩)
    · exact Or.inr (Or.inr ⟨e, by omega, by rw [e] <;> decide⟩)
  · intro hx hy
    refine ⟨ordT_trans t0 t1 t2 k0 k1 k2 hx hy, fun hz => ?_⟩
    have h20 := ordT_neg t0 t2 k0 k2
    have h21 := ordT_neg t1 t2 k1 k2
    have e1 : ordT t1 t0 ≤ 0 := ordT_trans t1 t2 t0 k1 k2 k0 hy (by rw [h20, hz]; decide)
    have e2 : ordT t2 t1 ≤ 0 := ordT_trans t2 t0 t1 k2 k0 k1 (by rw [h20, hz]; decide) hx
    omega
end Go.Proofs.YtedelcgimbclpaaDoor

/- Text of whatever term, by its contract. -/
namespace Go.Proofs.YtedelcgimbclpaaDoor
open Go.RowKit

/-- What Text tells. -/
noncomputable def txS (t : Tm) : List UInt8 := if okS t then txT t else []
set_option maxHeartbeats 4000000 in
set_option maxRecDepth 100000 in
theorem TText_bad (d : Nat) (w : World) (cs : List Value) (t : Tm) (h : In w d cs t) (hok : okS t = false) (hs : tsz t ≤ 1353245080330) :
    Calls Tryd.prog 16 #[.agg cs.toArray] w fun e w' => e = .returned (.string ⟨#[]⟩) ∧ Upd [] w w' := by
  have hsev := h.seven
  have tb0 : Tb (w.alloc (.cells cs.toArray 26)) w.heap.size cs.toArray := Tb.new _ _ _ rfl
  have hU1 : Upd [] w (w.alloc (.cells cs.toArray 26)) := (Upd.refl [] w).alloc _
  have HR : Hid (∀ W, Upd [] w W → Calls Tryd.prog 8 #[.agg cs.toArray] W fun e w' => e = .returned (.bool false) ∧ Upd [] W w') := fun W hU => by
    have := TRight_in d W cs t (In.mono hU _ _ _ h) hs
    rw [hok] at this
    exact this
  clear h hok hs
  obtain ⟨C, hC⟩ : ∃ C, C = cs.toArray := ⟨_, rfl⟩
  rw [← hC] at hsev HR tb0 hU1 ⊢
  clear hC
  go_enter Tryd.func16, Tryd.ntmps16
  go_wp2_with (first | (refine load_T _ rfl _ rfl _ _ rfl tb0 hsev ?_) | fail)
  refine Calls.mono (HR.out _ hU1) ?_
  rintro e w1 ⟨rfl, uw1⟩
  go_wp2
  go_ret
  exact ⟨rfl, hU1.trans uw1⟩
theorem TText_any (d : Nat) (w : World) (cs : List Value) (t : Tm) (h : In w d cs t) (hs : tsz t ≤ 1353245080330) (hG : Glb w) :
    Calls Tryd.prog 16 #[.agg cs.toArray] w fun e w' => e = .returned (.string (str (txS t))) ∧ Upd [] w w' := by
  unfold txS
  cases hok : okS t with
  | true => rw [if_pos rfl]; exact TText_in d w cs t h hok hs (tx_short t hok (In.dig _ _ _ h)) hG
  | false => rw [if_neg (by decide)]; exact TText_bad d w cs t h hok hs
end Go.Proofs.YtedelcgimbclpaaDoor

/- What the walk of TermSplits leans on. -/
namespace Go.Proofs.YtedelcgimbclpaaDoor
open Go.RowKit

mutual
/-- A right term's rows are not longer than it is great. -/
theorem tsz_ok : ∀ t : Tm, okT' t = true → tsz t ≤ szT t
  | .mk k num neg L s I T, h => by
    rw [okT', Bool.and_eq_true, Bool.and_eq_true] at h
    have h1 := tszs_ok I h.1.2
    have h2 := tszs_ok T h.2
    have h3 : L.length / 26 ≤ ownZ k L.length I.length := by
      by_cases hk : k = 1
      · unfold ownZ; rw [if_pos hk]; omega
      · have h4 := h.1.1
        unfold okF at h4
        rw [if_neg hk, Bool.and_eq_true, decide_eq_true_eq] at h4
        rw [h4.1.2]
        simp
    rw [tsz, szT]
    omega
theorem tszs_ok : ∀ I : List Tm, okR I = true → tszs I ≤ szR I
  | [], _ => by simp [tszs, szR]
  | t :: r, h => by
    rw [okR, Bool.and_eq_true] at h
    have h1 := tsz_ok t h.1
    have h2 := tszs_ok r h.2
    have h3 := bel_le r
    have h4 := bel_lt t
    rw [tszs, szR]
    omega
end
theorem okS_tsz {t : Tm} (h : okS t = true) : tsz t ≤ 1353245080330 := by
  rw [okS_iff] at h
  have := tsz_ok t h.1
  omega
theorem zero_tsz : tsz zeroT ≤ 1353245080330 := by decide
theorem In.kdform {w : World} {d : Nat} {cs : List Value} {t : Tm} (h : In w d cs t) : ∃ l1 l2 l3 l4 l5 l6, cs = [.int .u8 t.kd, l1, l2, l3, l4, l5, l6] := by
  cases d with
  | zero => exact h.elim
  | succ d =>
    cases t
    obtain ⟨_, _, _, _, _, _, rfl, _⟩ := h
    exact ⟨_, _, _, _, _, _, rfl⟩
theorem szS_ok {t : Tm} (h : okS t = true) : szS t = szT t := by unfold szS; rw [if_pos h]
theorem nil_okS : okS nilT = true := by decide
theorem nil_sz : szT nilT = 1 := by decide
theorem txS_ok {t : Tm} (h : okS t = true) : txS t = txT t := by unfold txS; rw [if_pos h]
/-- The text of a list of one. -/
theorem tx_one (h : Tm) : txT (consT h [] []) = 91 :: (txT h ++ [93]) := by
  rw [consT, txT]
  simp [txC, txB]
theorem cons_nil (h : Tm) : consI h nilT = consT h [] [] := consI_l h 0 false [] ⟨#[]⟩ [] []
theorem consS_ok {h t : Tm} (hh : okS h = true) (ht : okS t = true) (hc : okS (consI h t) = true) : consS h t = consI h t := by unfold consS; rw [hh, ht, hc]; rfl
theorem consS_no {h t : Tm} (hc : (okS h && okS t && okS (consI h t)) = false) : consS h t = zeroT := by unfold consS; rw [hc]; rfl
theorem consS_tsz (h t : Tm) : tsz (consS h t) ≤ 1353245080330 := by
  cases hc : (okS h && okS t && okS (consI h t)) with
  | true =>
    have h2 := hc
    rw [Bool.and_eq_true, Bool.and_eq_true] at h2
    rw [consS_ok h2.1.1 h2.1.2 h2.2]
    exact okS_tsz h2.2
  | false => rw [consS_no hc]; exact zero_tsz
theorem samT_self (t : Tm) : samT t t = true := (samT_eq t t).2 rfl
/-- A call of SameTerm, of one tree twice. -/
theorem sam_call {d : Nat} {w : World} {cs cs' : List Value} {t : Tm} (h : In w d cs t) (h' : In w d cs' t) (hz : tsz t ≤ 1353245080330) : Calls Tryd.prog 11 #[.agg cs.toArray, .agg cs'.toArray] w fun e w' => e = .returned (.bool true) ∧ Upd [] w w' := by
  have := SamG_all d w cs cs' t t h h' hz hz
  rw [samT_self] at this
  exact this

end Go.Proofs.YtedelcgimbclpaaDoor
