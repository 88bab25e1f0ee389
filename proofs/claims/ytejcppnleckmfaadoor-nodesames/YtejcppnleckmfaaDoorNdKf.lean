/- rightItem, Right, Pattern and Guard of package node, by their contracts. -/
import Derived.Test.YtejcppnleckmfaaDoorNdKe
namespace Go.Proofs.YtejcppnleckmfaaDoor
open Go.RowKit

theorem tab_call : ∀ f ∈ formsL, f.kd = 9 → 1 ≤ f.le := by decide
mutual
theorem isB_call (r : Int) : ∀ t : Nd, isB r t = true → thru callOk t = true
  | .mk k s num pos K => fun h => by
    rw [isB] at h
    cases hf : formAt k r with
    | none => rw [hf] at h; simp at h
    | some f =>
      rw [hf] at h
      simp only [Bool.and_eq_true] at h
      obtain ⟨i, hi, e, h1, h2, _⟩ := formAt_some hf
      rw [thru, Bool.and_eq_true]
      refine ⟨?_, isR_call f.ks K h.2.1⟩
      unfold callOk
      rw [Bool.or_eq_true]
      by_cases hk : k = 9
      · have := tab_call f (e ▸ fm_mem hi) (h2.trans hk)
        have hn := h.1
        simp only [kidsN, Bool.and_eq_true, decide_eq_true_eq] at hn
        exact Or.inr (decide_eq_true (by simp only [Nd.kids]; omega))
      · exact Or.inl (decide_eq_true hk)
theorem isR_call (rs : List Int) : ∀ K : List Nd, isR rs K = true → thrus callOk K = true
  | [] => fun _ => by rw [thrus]
  | n :: K => fun h => by
    rw [isR, Bool.and_eq_true] at h
    rw [thrus, Bool.and_eq_true]
    exact ⟨isB_call _ n h.1, isR_call _ K h.2⟩
end

set_option maxHeartbeats 1000000 in
set_option maxRecDepth 100000 in
theorem ri_no (cs : Array Value) (w : World) (hsev : cs.size = 5) (h0 : ∀ W, Upd [] w W → Calls Tryd.prog 26 #[.agg cs] W fun e w' => e = .returned (.bool false) ∧ Upd [] W w') : Calls Tryd.prog 28 #[.agg cs] w fun e w' => e = .returned (.bool false) ∧ Upd [] w w' := by
  have HU0 : Hid (Upd [] w (w.alloc (.cells cs 25))) := (Upd.refl [] w).alloc _
  have tb0 : Tb (w.alloc (.cells cs 25)) w.heap.size cs := Tb.new _ _ _ rfl
  have H0 : Hid (∀ W, Upd [] w W → Calls Tryd.prog 26 #[.agg cs] W fun e w' => e = .returned (.bool false) ∧ Upd [] W w') := h0
  clear h0
  go_enter Tryd.func28, Tryd.ntmps28
  go_wp2_with (first | (refine load_G _ _ rfl _ _ rfl tb0 hsev rfl ?_) | fail)
  refine (H0.out _ HU0.out).mono ?_
  rintro e v0 ⟨rfl, hu⟩
  have HV0 : Hid (Upd [] w v0) := HU0.out.trans hu
  have tb1 := tb0.mono hu (by simp)
  clear hu tb0
  clear tb1
  go_wp2
  go_ret
  exact ⟨rfl, HV0.out⟩
set_option maxHeartbeats 1000000 in
set_option maxRecDepth 100000 in
theorem ri_go (cs : Array Value) (z : Bool) (w : World) (hsev : cs.size = 5) (h0 : ∀ W, Upd [] w W → Calls Tryd.prog 26 #[.agg cs] W fun e w' => e = .returned (.bool true) ∧ Upd [] W w') (h1 : ∀ W, Upd [] w W → Calls Tryd.prog 27 #[.agg cs, .int .u8 0] W fun e w' => e = .returned (.bool z) ∧ Upd [] W w') : Calls Tryd.prog 28 #[.agg cs] w fun e w' => e = .returned (.bool z) ∧ Upd [] w w' := by
  have HU0 : Hid (Upd [] w (w.alloc (.cells cs 25))) := (Upd.refl [] w).alloc _
  have tb0 : Tb (w.alloc (.cells cs 25)) w.heap.size cs := Tb.new _ _ _ rfl
  have H0 : Hid (∀ W, Upd [] w W → Calls Tryd.prog 26 #[.agg cs] W fun e w' => e = .returned (.bool true) ∧ Upd [] W w') := h0
  clear h0
  have H1 : Hid (∀ W, Upd [] w W → Calls Tryd.prog 27 #[.agg cs, .int .u8 0] W fun e w' => e = .returned (.bool z) ∧ Upd [] W w') := h1
  clear h1
  go_enter Tryd.func28, Tryd.ntmps28
  go_wp2_with (first | (refine load_G _ _ rfl _ _ rfl tb0 hsev rfl ?_) | fail)
  refine (H0.out _ HU0.out).mono ?_
  rintro e v0 ⟨rfl, hu⟩
  have HV0 : Hid (Upd [] w v0) := HU0.out.trans hu
  have tb1 := tb0.mono hu (by simp)
  clear hu tb0
  go_wp2_with (first | (refine load_G _ _ rfl _ _ rfl tb1 hsev rfl ?_) | fail)
  refine (H1.out _ HV0.out).mono ?_
  rintro e v1 ⟨rfl, hu⟩
  have HV1 : Hid (Upd [] w v1) := HV0.out.trans hu
  have tb2 := tb1.mono hu (by simp)
  clear hu tb1
  clear tb2
  go_wp2
  go_ret
  exact ⟨rfl, HV1.out⟩
set_option maxHeartbeats 1000000 in
set_option maxRecDepth 100000 in
theorem rt_no (cs : Array Value) (w : World) (hsev : cs.size = 5) (h0 : ∀ W, Upd [] w W → Calls Tryd.prog 26 #[.agg cs] W fun e w' => e = .returned (.bool false) ∧ Upd [] W w') : Calls Tryd.prog 15 #[.agg cs] w fun e w' => e = .returned (.bool false) ∧ Upd [] w w' := by
  have HU0 : Hid (Upd [] w (w.alloc (.cells cs 25))) := (Upd.refl [] w).alloc _
  have tb0 : Tb (w.alloc (.cells cs 25)) w.heap.size cs := Tb.new _ _ _ rfl
  have H0 : Hid (∀ W, Upd [] w W → Calls Tryd.prog 26 #[.agg cs] W fun e w' => e = .returned (.bool false) ∧ Upd [] W w') := h0
  clear h0
  go_enter Tryd.func15, Tryd.ntmps15
  go_wp2_with (first | (refine load_G _ _ rfl _ _ rfl tb0 hsev rfl ?_) | fail)
  refine (H0.out _ HU0.out).mono ?_
  rintro e v0 ⟨rfl, hu⟩
  have HV0 : Hid (Upd [] w v0) := HU0.out.trans hu
  have tb1 := tb0.mono hu (by simp)
  clear hu tb0
  clear tb1
  go_wp2
  go_ret
  exact ⟨rfl, HV0.out⟩
set_option maxHeartbeats 1000000 in
set_option maxRecDepth 100000 in
theorem rt_it (cs : Array Value) (w : World) (hsev : cs.size = 5) (h0 : ∀ W, Upd [] w W → Calls Tryd.prog 26 #[.agg cs] W fun e w' => e = .returned (.bool true) ∧ Upd [] W w') (h1 : ∀ W, Upd [] w W → Calls Tryd.prog 27 #[.agg cs, .int .u8 0] W fun e w' => e = .returned (.bool true) ∧ Upd [] W w') : Calls Tryd.prog 15 #[.agg cs] w fun e w' => e = .returned (.bool true) ∧ Upd [] w w' := by
  have HU0 : Hid (Upd [] w (w.alloc (.cells cs 25))) := (Upd.refl [] w).alloc _
  have tb0 : Tb (w.alloc (.cells cs 25)) w.heap.size cs := Tb.new _ _ _ rfl
  have H0 : Hid (∀ W, Upd [] w W → Calls Tryd.prog 26 #[.agg cs] W fun e w' => e = .returned (.bool true) ∧ Upd [] W w') := h0
  clear h0
  have H1 : Hid (∀ W, Upd [] w W → Calls Tryd.prog 27 #[.agg cs, .int .u8 0] W fun e w' => e = .returned (.bool true) ∧ Upd [] W w') := h1
  clear h1
  go_enter Tryd.func15, Tryd.ntmps15
  go_wp2_with (first | (refine load_G _ _ rfl _ _ rfl tb0 hsev rfl ?_) | fail)
  refine (H0.out _ HU0.out).mono ?_
  rintro e v0 ⟨rfl, hu⟩
  have HV0 : Hid (Upd [] w v0) := HU0.out.trans hu
  have tb1 := tb0.mono hu (by simp)
  clear hu tb0
  go_wp2_with (first | (refine load_G _ _ rfl _ _ rfl tb1 hsev rfl ?_) | fail)
  refine (H1.out _ HV0.out).mono ?_
  rintro e v1 ⟨rfl, hu⟩
  have HV1 : Hid (Upd [] w v1) := HV0.out.trans hu
  have tb2 := tb1.mono hu (by simp)
  clear hu tb1
  clear tb2
  go_wp2
  go_ret
  exact ⟨rfl, HV1.out⟩
set_option maxHeartbeats 1000000 in
set_option maxRecDepth 100000 in
theorem rt_mo (cs : Array Value) (z : Bool) (w : World) (hsev : cs.size = 5) (h0 : ∀ W, Upd [] w W → Calls Tryd.prog 26 #[.agg cs] W fun e w' => e = .returned (.bool true) ∧ Upd [] W w') (h1 : ∀ W, Upd [] w W → Calls Tryd.prog 27 #[.agg cs, .int .u8 0] W fun e w' => e = .returned (.bool false) ∧ Upd [] W w') (h2 : ∀ W, Upd [] w W → Calls Tryd.prog 27 #[.agg cs, .int .u8 1] W fun e w' => e = .returned (.bool z) ∧ Upd [] W w') : Calls Tryd.prog 15 #[.agg cs] w fun e w' => e = .returned (.bool z) ∧ Upd [] w w' := by
  have HU0 : Hid (Upd [] w (w.alloc (.cells cs 25))) := (Upd.refl [] w).alloc _
  have tb0 : Tb (w.alloc (.cells cs 25)) w.heap.size cs := Tb.new _ _ _ rfl
  have H0 : Hid (∀ W, Upd [] w W → Calls Tryd.prog 26 #[.agg cs] W fun e w' => e = .returned (.bool true) ∧ Upd [] W w') := h0
  clear h0
  have H1 : Hid (∀ W, Upd [] w W → Calls Tryd.prog 27 #[.agg cs, .int .u8 0] W fun e w' => e = .returned (.bool false) ∧ Upd [] W w') := h1
  clear h1
  have H2 : Hid (∀ W, Upd [] w W → Calls Tryd.prog 27 #[.agg cs, .int .u8 1] W fun e w' => e = .returned (.bool z) ∧ Upd [] W w') := h2
  clear h2
  go_enter Tryd.func15, Tryd.ntmps15
  go_wp2_with (first | (refine load_G _ _ rfl _ _ rfl tb0 hsev rfl ?_) | fail)
  refine (H0.out _ HU0.out).mono ?_
  rintro e v0 ⟨rfl, hu⟩
  have HV0 : Hid (Upd [] w v0) := HU0.out.trans hu
  have tb1 := tb0.mono hu (by simp)
  clear hu tb0
  go_wp2_with (first | (refine load_G _ _ rfl _ _ rfl tb1 hsev rfl ?_) | fail)
  refine (H1.out _ HV0.out).mono ?_
  rintro e v1 ⟨rfl, hu⟩
  have HV1 : Hid (Upd [] w v1) := HV0.out.trans hu
  have tb2 := tb1.mono hu (by simp)
  clear hu tb1
  go_wp2_with (first | (refine load_G _ _ rfl _ _ rfl tb2 hsev rfl ?_) | fail)
  refine (H2.out _ HV1.out).mono ?_
  rintro e v2 ⟨rfl, hu⟩
  have HV2 : Hid (Upd [] w v2) := HV1.out.trans hu
  have tb3 := tb2.mono hu (by simp)
  clear hu tb2
  clear tb3
  go_wp2
  go_ret
  exact ⟨rfl, HV2.out⟩
set_option maxHeartbeats 1000000 in
set_option maxRecDepth 100000 in
theorem pt_no (cs : Array Value) (w : World) (hsev : cs.size = 5) (h0 : ∀ W, Upd [] w W → Calls Tryd.prog 28 #[.agg cs] W fun e w' => e = .returned (.bool false) ∧ Upd [] W w') : Calls Tryd.prog 16 #[.agg cs] w fun e w' => e = .returned (.bool false) ∧ Upd [] w w' := by
  have HU0 : Hid (Upd [] w (w.alloc (.cells cs 25))) := (Upd.refl [] w).alloc _
  have tb0 : Tb (w.alloc (.cells cs 25)) w.heap.size cs := Tb.new _ _ _ rfl
  have H0 : Hid (∀ W, Upd [] w W → Calls Tryd.prog 28 #[.agg cs] W fun e w' => e = .returned (.bool false) ∧ Upd [] W w') := h0
  clear h0
  go_enter Tryd.func16, Tryd.ntmps16
  go_wp2_with (first | (refine load_G _ _ rfl _ _ rfl tb0 hsev rfl ?_) | fail)
  refine (H0.out _ HU0.out).mono ?_
  rintro e v0 ⟨rfl, hu⟩
  have HV0 : Hid (Upd [] w v0) := HU0.out.trans hu
  have tb1 := tb0.mono hu (by simp)
  clear hu tb0
  clear tb1
  go_wp2
  go_ret
  exact ⟨rfl, HV0.out⟩
set_option maxHeartbeats 1000000 in
set_option maxRecDepth 100000 in
theorem pt_go (cs : Array Value) (z : Bool) (w : World) (hsev : cs.size = 5) (h0 : ∀ W, Upd [] w W → Calls Tryd.prog 28 #[.agg cs] W fun e w' => e = .returned (.bool true) ∧ Upd [] W w') (h1 : ∀ W, Upd [] w W → Calls Tryd.prog 29 #[.agg cs, .func (.func 30) #[] #[]] W fun e w' => e = .returned (.bool z) ∧ Upd [] W w') : Calls Tryd.prog 16 #[.agg cs] w fun e w' => e = .returned (.bool z) ∧ Upd [] w w' := by
  have HU0 : Hid (Upd [] w (w.alloc (.cells cs 25))) := (Upd.refl [] w).alloc _
  have tb0 : Tb (w.alloc (.cells cs 25)) w.heap.size cs := Tb.new _ _ _ rfl
  have H0 : Hid (∀ W, Upd [] w W → Calls Tryd.prog 28 #[.agg cs] W fun e w' => e = .returned (.bool true) ∧ Upd [] W w') := h0
  clear h0
  have H1 : Hid (∀ W, Upd [] w W → Calls Tryd.prog 29 #[.agg cs, .func (.func 30) #[] #[]] W fun e w' => e = .returned (.bool z) ∧ Upd [] W w') := h1
  clear h1
  go_enter Tryd.func16, Tryd.ntmps16
  go_wp2_with (first | (refine load_G _ _ rfl _ _ rfl tb0 hsev rfl ?_) | fail)
  refine (H0.out _ HU0.out).mono ?_
  rintro e v0 ⟨rfl, hu⟩
  have HV0 : Hid (Upd [] w v0) := HU0.out.trans hu
  have tb1 := tb0.mono hu (by simp)
  clear hu tb0
  go_wp2_with (first | (refine load_G _ _ rfl _ _ rfl tb1 hsev rfl ?_) | fail)
  refine (H1.out _ HV0.out).mono ?_
  rintro e v1 ⟨rfl, hu⟩
  have HV1 : Hid (Upd [] w v1) := HV0.out.trans hu
  have tb2 := tb1.mono hu (by simp)
  clear hu tb1
  clear tb2
  go_wp2
  go_ret
  exact ⟨rfl, HV1.out⟩
set_option maxHeartbeats 1000000 in
set_option maxRecDepth 100000 in
theorem gd_no (cs : Array Value) (w : World) (hsev : cs.size = 5) (h0 : ∀ W, Upd [] w W → Calls Tryd.prog 28 #[.agg cs] W fun e w' => e = .returned (.bool false) ∧ Upd [] W w') : Calls Tryd.prog 17 #[.agg cs] w fun e w' => e = .returned (.bool false) ∧ Upd [] w w' := by
  have HU0 : Hid (Upd [] w (w.alloc (.cells cs 25))) := (Upd.refl [] w).alloc _
  have tb0 : Tb (w.alloc (.cells cs 25)) w.heap.size cs := Tb.new _ _ _ rfl
  have H0 : Hid (∀ W, Upd [] w W → Calls Tryd.prog 28 #[.agg cs] W fun e w' => e = .returned (.bool false) ∧ Upd [] W w') := h0
  clear h0
  go_enter Tryd.func17, Tryd.ntmps17
  go_wp2_with (first | (refine load_G _ _ rfl _ _ rfl tb0 hsev rfl ?_) | fail)
  refine (H0.out _ HU0.out).mono ?_
  rintro e v0 ⟨rfl, hu⟩
  have HV0 : Hid (Upd [] w v0) := HU0.out.trans hu
  have tb1 := tb0.mono hu (by simp)
  clear hu tb0
  clear tb1
  go_wp2
  go_ret
  exact ⟨rfl, HV0.out⟩
set_option maxHeartbeats 1000000 in
set_option maxRecDepth 100000 in
theorem gd_go (cs : Array Value) (z : Bool) (w : World) (hsev : cs.size = 5) (h0 : ∀ W, Upd [] w W → Calls Tryd.prog 28 #[.agg cs] W fun e w' => e = .returned (.bool true) ∧ Upd [] W w') (h1 : ∀ W, Upd [] w W → Calls Tryd.prog 29 #[.agg cs, .func (.func 31) #[] #[]] W fun e w' => e = .returned (.bool z) ∧ Upd [] W w') : Calls Tryd.prog 17 #[.agg cs] w fun e w' => e = .returned (.bool z) ∧ Upd [] w w' := by
  have HU0 : Hid (Upd [] w (w.alloc (.cells cs 25))) := (Upd.refl [] w).alloc _
  have tb0 : Tb (w.alloc (.cells cs 25)) w.heap.size cs := Tb.new _ _ _ rfl
  have H0 : Hid (∀ W, Upd [] w W → Calls Tryd.prog 28 #[.agg cs] W fun e w' => e = .returned (.bool true) ∧ Upd [] W w') := h0
  clear h0
  have H1 : Hid (∀ W, Upd [] w W → Calls Tryd.prog 29 #[.agg cs, .func (.func 31) #[] #[]] W fun e w' => e = .returned (.bool z) ∧ Upd [] W w') := h1
  clear h1
  go_enter Tryd.func17, Tryd.ntmps17
  go_wp2_with (first | (refine load_G _ _ rfl _ _ rfl tb0 hsev rfl ?_) | fail)
  refine (H0.out _ HU0.out).mono ?_
  rintro e v0 ⟨rfl, hu⟩
  have HV0 : Hid (Upd [] w v0) := HU0.out.trans hu
  have tb1 := tb0.mono hu (by simp)
  clear hu tb0
  go_wp2_with (first | (refine load_G _ _ rfl _ _ rfl tb1 hsev rfl ?_) | fail)
  refine (H1.out _ HV0.out).mono ?_
  rintro e v1 ⟨rfl, hu⟩
  have HV1 : Hid (Upd [] w v1) := HV0.out.trans hu
  have tb2 := tb1.mono hu (by simp)
  clear hu tb1
  clear tb2
  go_wp2
  go_ret
  exact ⟨rfl, HV1.out⟩

def itmB (t : Nd) : Bool := fitsN t && isB 0 t
def rgtB (t : Nd) : Bool := fitsN t && (isB 0 t || isB 1 t)
variable (A : Nat → Option Addr) (C : Nat → Nat)
theorem rightItem_in (d : Nat) (w : World) (cs : List Value) (t : Nd) (h : NIn w d cs t) (hs : nsz t ≤ 2199023255488) (hx : nxz t ≤ 140737488355328) (hF : Frm A C w) (hO : Ops w) :
    Calls Tryd.prog 28 #[.agg cs.toArray] w fun e w' => e = .returned (.bool (itmB t)) ∧ Upd [] w w' := by
  have hf := fun W (hu : Upd [] w W) => fits_in d W cs t (NIn.mono hu _ _ _ h) hs
  unfold itmB
  cases hz : fitsN t with
  | false => rw [hz] at hf; exact ri_no _ w h.five hf
  | true => rw [hz] at hf; exact ri_go _ _ w h.five hf (fun W hu => Is_all A C d W cs t 0 (NIn.mono hu _ _ _ h) hs hx (hF.mono hu) (hO.mono hu))
theorem Right_in (d : Nat) (w : World) (cs : List Value) (t : Nd) (h : NIn w d cs t) (hs : nsz t ≤ 2199023255488) (hx : nxz t ≤ 140737488355328) (hF : Frm A C w) (hO : Ops w) :
    Calls Tryd.prog 15 #[.agg cs.toArray] w fun e w' => e = .returned (.bool (rgtB t)) ∧ Upd [] w w' := by
  have hf := fun W (hu : Upd [] w W) => fits_in d W cs t (NIn.mono hu _ _ _ h) hs
  have hi := fun r W (hu : Upd [] w W) => Is_all A C d W cs t r (NIn.mono hu _ _ _ h) hs hx (hF.mono hu) (hO.mono hu)
  unfold rgtB
  cases hz : fitsN t with
  | false => rw [hz] at hf; exact rt_no _ w h.five hf
  | true =>
    rw [hz] at hf
    have h0 := hi 0
    cases hb : isB 0 t with
    | true => rw [hb] at h0; exact rt_it _ w h.five hf h0
    | false => rw [hb] at h0; exact rt_mo _ _ w h.five hf h0 (hi 1)
theorem Pattern_in (d : Nat) (w : World) (cs : List Value) (t : Nd) (h : NIn w d cs t) (hs : nsz t ≤ 2199023255488) (hx : nxz t ≤ 140737488355328) (hF : Frm A C w) (hO : Ops w) :
    Calls Tryd.prog 16 #[.agg cs.toArray] w fun e w' => e = .returned (.bool (itmB t && thru patB t)) ∧ Upd [] w w' := by
  have hr := fun W (hu : Upd [] w W) => rightItem_in A C d W cs t (NIn.mono hu _ _ _ h) hs hx (hF.mono hu) (hO.mono hu)
  cases hz : itmB t with
  | false => rw [hz] at hr; exact pt_no _ w h.five hr
  | true =>
    rw [hz] at hr
    have hc : thru callOk t = true := isB_call 0 t (by unfold itmB at hz; exact (Bool.and_eq_true _ _ ▸ hz).2)
    exact pt_go _ _ w h.five hr (fun W hu => thr_in _ patB Tryd.call30 pat_asks d W cs t (NIn.mono hu _ _ _ h) hs hc)
theorem Guard_in (d : Nat) (w : World) (cs : List Value) (t : Nd) (h : NIn w d cs t) (hs : nsz t ≤ 2199023255488) (hx : nxz t ≤ 140737488355328) (hF : Frm A C w) (hO : Ops w) :
    Calls Tryd.prog 17 #[.agg cs.toArray] w fun e w' => e = .returned (.bool (itmB t && thru grdB t)) ∧ Upd [] w w' := by
  have hr := fun W (hu : Upd [] w W) => rightItem_in A C d W cs t (NIn.mono hu _ _ _ h) hs hx (hF.mono hu) (hO.mono hu)
  cases hz : itmB t with
  | false => rw [hz] at hr; exact gd_no _ w h.five hr
  | true =>
    rw [hz] at hr
    have hc : thru callOk t = true := isB_call 0 t (by unfold itmB at hz; exact (Bool.and_eq_true _ _ ▸ hz).2)
    exact gd_go _ _ w h.five hr (fun W hu => thr_in _ grdB Tryd.call31 grd_asks d W cs t (NIn.mono hu _ _ _ h) hs hc)

end Go.Proofs.YtejcppnleckmfaaDoor
