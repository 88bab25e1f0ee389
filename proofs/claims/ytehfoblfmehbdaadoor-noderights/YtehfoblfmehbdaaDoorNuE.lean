/- The reference's Right, Pattern, Guard. -/
import Derived.Test.YtehfoblfmehbdaaDoorNuD
import Derived.Test.YtehfoblfmehbdaaDoorNuC
namespace Go.Proofs.YtehfoblfmehbdaaDoor
open Go.RowKit

mutual
theorem nxz_cnt : ∀ n : Nd, nxz n ≤ 8 * cntN n
  | .mk _ s _ _ K => by rw [nxz, cntN]; have := nxz_cntL K; omega
theorem nxz_cntL : ∀ K : List Nd, nxzs K ≤ 8 * cntL K
  | [] => by simp [nxzs, cntL]
  | n :: r => by rw [nxzs, cntL]; have := nxz_cnt n; have := nxz_cntL r; omega
end
theorem is0_22 (s : ByteArray) (num pos : Int) (K : List Nd) : isB 0 (.mk 22 s num pos K) = false := isB_none 0 22 s num pos K (by decide +kernel)
theorem is1_no {k : Int} (h : (k == 22) = false) (s : ByteArray) (num pos : Int) (K : List Nd) : isB 1 (.mk k s num pos K) = false := by rw [is1]; simp [h]

set_option maxHeartbeats 4000000 in
set_option maxRecDepth 100000 in
theorem rright (d : Nat) (w : World) (cs : List Value) (t : Nd) (h : NIn w d cs t) (hz : nsz t ≤ 20000) (hx : nxz t ≤ 1000000) (hm : manN t ≤ 20000) :
    Calls Tryd.prog 8 #[.agg cs.toArray] w fun e w' => e = .returned (.bool (rgtB t)) ∧ Upd [] w w' := by
  cases d with
  | zero => exact h.elim
  | succ d =>
  obtain ⟨q0, q1, q2, q3, q4, rfl⟩ := list5 h.len
  have hI := fun W (hu : Upd [] w W) => ItS_all (d + 1) W [q0, q1, q2, q3, q4] t (NIn.mono hu _ _ _ h) hz hx
  have hM := fun W (hu : Upd [] w W) => rmodule d W [q0, q1, q2, q3, q4] t (NIn.mono hu _ _ _ h) hz hx
  have hD := fun W (hu : Upd [] w W) => rdeep_in (d + 1) W [q0, q1, q2, q3, q4] t (NIn.mono hu _ _ _ h) (by omega) (by have := dep_man t; omega)
  have hN := fun W (hu : Upd [] w W) => rmany_in (d + 1) W [q0, q1, q2, q3, q4] t (NIn.mono hu _ _ _ h) (by omega) (by omega)
  obtain ⟨R, hR⟩ : ∃ R, R = rgtB t := ⟨_, rfl⟩
  rw [← hR]
  unfold rgtB fitsN at hR
  obtain ⟨i, hi⟩ : ∃ i, i = isB 0 t := ⟨_, rfl⟩
  obtain ⟨m, hm1⟩ : ∃ m, m = isB 1 t := ⟨_, rfl⟩
  obtain ⟨D, hD1⟩ : ∃ D, D = depN t := ⟨_, rfl⟩
  obtain ⟨M, hM1⟩ : ∃ M, M = manN t := ⟨_, rfl⟩
  rw [← hi, ← hm1, ← hD1, ← hM1] at hR
  rw [← hi] at hI
  rw [← hm1] at hM
  rw [← hD1] at hD
  rw [← hM1] at hN
  have HR : Hid (R = (decide (D ≤ 50) && decide (M ≤ 16384) && (i || m))) := hR
  have HI : Hid (∀ W, Upd [] w W → Calls Tryd.prog 25 #[.agg #[q0, q1, q2, q3, q4]] W fun e w' => e = .returned (.bool i) ∧ Upd [] W w') := hI
  have HM : Hid (∀ W, Upd [] w W → Calls Tryd.prog 26 #[.agg #[q0, q1, q2, q3, q4]] W fun e w' => e = .returned (.bool m) ∧ Upd [] W w') := hM
  have HD : Hid (∀ W, Upd [] w W → Calls Tryd.prog 14 #[.agg #[q0, q1, q2, q3, q4]] W fun e w' => e = .returned (.int .i64 (D : Nat)) ∧ Upd [] W w') := hD
  have HN : Hid (∀ W, Upd [] w W → Calls Tryd.prog 27 #[.agg #[q0, q1, q2, q3, q4]] W fun e w' => e = .returned (.int .i64 (M : Nat)) ∧ Upd [] W w') := hN
  have U0 : Hid (Upd [] w (w.alloc (.cells #[q0, q1, q2, q3, q4] 25))) := (Upd.refl [] w).alloc _
  have T0 : Hid (Tb (w.alloc (.cells #[q0, q1, q2, q3, q4] 25)) w.heap.size #[q0, q1, q2, q3, q4]) := Tb.new w #[q0, q1, q2, q3, q4] _ rfl
  clear h hz hx hm hI hM hD hN hR hi hm1 hD1 hM1 t d
  go_enter Tryd.func8, Tryd.ntmps8
  go_wp2_with (first | (refine load_T _ rfl _ rfl _ _ rfl T0.out rfl ?_) | fail)
  refine Calls.mono (HI.out _ U0.out) ?_
  rintro e w1 ⟨rfl, hu⟩
  have U1 : Hid (Upd [] w w1) := U0.out.trans hu
  have T1 : Hid (Tb w1 w.heap.size #[q0, q1, q2, q3, q4]) := T0.out.mono hu (by simp)
  clear hu U0 T0 HI
  cases i with
  | true =>
    go_wp2_with (first | (refine load_G _ _ rfl _ _ rfl T1.out rfl rfl ?_) | fail)
    refine Calls.mono (HD.out _ U1.out) ?_
    rintro e w2 ⟨rfl, hu⟩
    have U2 : Hid (Upd [] w w2) := U1.out.trans hu
    have T2 : Hid (Tb w2 w.heap.size #[q0, q1, q2, q3, q4]) := T1.out.mono hu (by simp)
    clear hu U1 T1 HD
    by_cases hd : D ≤ 50
    · have hd1 : decide ((D : Int) ≤ 50) = true := decide_eq_true (by omega)
      go_wp2_with (first | (refine load_G _ _ rfl _ _ rfl T2.out rfl rfl ?_) | fail)
      refine Calls.mono (HN.out _ U2.out) ?_
      rintro e w3 ⟨rfl, hu⟩
      have U3 : Hid (Upd [] w w3) := U2.out.trans hu
      have T3 : Hid (Tb w3 w.heap.size #[q0, q1, q2, q3, q4]) := T2.out.mono hu (by simp)
      clear hu U2 T2 HN
      by_cases hn : M ≤ 16384
      · have hn1 : decide ((M : Int) ≤ 16384) = true := decide_eq_true (by omega)
        go_wp2_with fail
        go_ret
        exact ⟨ret_boolN (by rw [HR.out, decide_eq_true hd, decide_eq_true hn]; rfl), U3.out⟩
      · have hn1 : decide ((M : Int) ≤ 16384) = false := decide_eq_false (by omega)
        go_wp2_with fail
        go_ret
        exact ⟨ret_boolN (by rw [HR.out, decide_eq_false hn, Bool.and_false]; rfl), U3.out⟩
    · have hd1 : decide ((D : Int) ≤ 50) = false := decide_eq_false (by omega)
      go_wp2_with fail
      go_ret
      exact ⟨ret_boolN (by rw [HR.out, decide_eq_false hd]; rfl), U2.out⟩
  | false =>
    go_wp2_with (first | (refine load_G _ _ rfl _ _ rfl T1.out rfl rfl ?_) | fail)
    refine Calls.mono (HM.out _ U1.out) ?_
    rintro e w2 ⟨rfl, hu⟩
    have U2 : Hid (Upd [] w w2) := U1.out.trans hu
    have T2 : Hid (Tb w2 w.heap.size #[q0, q1, q2, q3, q4]) := T1.out.mono hu (by simp)
    clear hu U1 T1 HM
    cases m with
    | true =>
      go_wp2_with (first | (refine load_G _ _ rfl _ _ rfl T2.out rfl rfl ?_) | fail)
      refine Calls.mono (HD.out _ U2.out) ?_
      rintro e w3 ⟨rfl, hu⟩
      have U3 : Hid (Upd [] w w3) := U2.out.trans hu
      have T3 : Hid (Tb w3 w.heap.size #[q0, q1, q2, q3, q4]) := T2.out.mono hu (by simp)
      clear hu U2 T2 HD
      by_cases hd : D ≤ 50
      · have hd1 : decide ((D : Int) ≤ 50) = true := decide_eq_true (by omega)
        go_wp2_with (first | (refine load_G _ _ rfl _ _ rfl T3.out rfl rfl ?_) | fail)
        refine Calls.mono (HN.out _ U3.out) ?_
        rintro e w4 ⟨rfl, hu⟩
        have U4 : Hid (Upd [] w w4) := U3.out.trans hu
        have T4 : Hid (Tb w4 w.heap.size #[q0, q1, q2, q3, q4]) := T3.out.mono hu (by simp)
        clear hu U3 T3 HN
        by_cases hn : M ≤ 16384
        · have hn1 : decide ((M : Int) ≤ 16384) = true := decide_eq_true (by omega)
          go_wp2_with fail
          go_ret
          exact ⟨ret_boolN (by rw [HR.out, decide_eq_true hd, decide_eq_true hn]; rfl), U4.out⟩
        · have hn1 : decide ((M : Int) ≤ 16384) = false := decide_eq_false (by omega)
          go_wp2_with fail
          go_ret
          exact ⟨ret_boolN (by rw [HR.out, decide_eq_false hn, Bool.and_false]; rfl), U4.out⟩
      · have hd1 : decide ((D : Int) ≤ 50) = false := decide_eq_false (by omega)
        go_wp2_with fail
        go_ret
        exact ⟨ret_boolN (by rw [HR.out, decide_eq_false hd]; rfl), U3.out⟩
    | false =>
      go_wp2_with fail
      go_ret
      exact ⟨ret_boolN (by rw [HR.out]; simp), U2.out⟩

set_option maxHeartbeats 4000000 in
set_option maxRecDepth 100000 in
theorem rPattern (d : Nat) (w : World) (cs : List Value) (t : Nd) (h : NIn w d cs t) (hz : nsz t ≤ 20000) (hx : nxz t ≤ 1000000) (hm : manN t ≤ 20000) :
    Calls Tryd.prog 10 #[.agg cs.toArray] w fun e w' => e = .returned (.bool (itmB t && thru patB t)) ∧ Upd [] w w' := by
  cases d with
  | zero => exact h.elim
  | succ d =>
  obtain ⟨k, s, num, pos, K⟩ := t
  have hR := fun W (hu : Upd [] w W) => rright (d + 1) W _ _ (NIn.mono hu _ _ _ h) hz hx hm
  have hP := fun W (hu : Upd [] w W) => rpat_all (d + 1) W _ _ (NIn.mono hu _ _ _ h) hz
  obtain ⟨a, c, rfl, -, -⟩ := h
  obtain ⟨i, hi⟩ : ∃ i, i = itmB (.mk k s num pos K) := ⟨_, rfl⟩
  obtain ⟨p, hp⟩ : ∃ p, p = thru patB (.mk k s num pos K) := ⟨_, rfl⟩
  rw [← hi, ← hp]
  rw [← hp] at hP
  have U0 : Hid (Upd [] w (w.alloc (.cells #[.int .u8 k, .string s, .int .i64 num, .int .i64 pos, .slice a K.length c] 25))) := (Upd.refl [] w).alloc _
  have T0 : Hid (Tb (w.alloc (.cells #[.int .u8 k, .string s, .int .i64 num, .int .i64 pos, .slice a K.length c] 25)) w.heap.size #[.int .u8 k, .string s, .int .i64 num, .int .i64 pos, .slice a K.length c]) := Tb.new w #[.int .u8 k, .string s, .int .i64 num, .int .i64 pos, .slice a K.length c] _ rfl
  cases hk : (k == 22) with
  | true =>
    have hi0 : Hid (i = false) := by
      show _ = _
      rw [hi, itmB, eq_of_beq hk, is0_22, Bool.and_false]
    have hk2 : (k != 22) = false := by rw [bne, hk]; rfl
    clear hR hP hz hx hm hi hp
    go_enter Tryd.func10, Tryd.ntmps10
    go_wp2_with fail
    go_ret
    exact ⟨ret_boolN (by rw [hi0.out]; rfl), U0.out⟩
  | false =>
    have hk2 : (k != 22) = true := by rw [bne, hk]; rfl
    have hri : rgtB (.mk k s num pos K) = i := by rw [rgtB, is1_no hk, Bool.or_false, hi, itmB]
    rw [hri] at hR
    have HR : Hid (∀ W, Upd [] w W → Calls Tryd.prog 8 #[.agg #[.int .u8 k, .string s, .int .i64 num, .int .i64 pos, .slice a K.length c]] W fun e w' => e = .returned (.bool i) ∧ Upd [] W w') := hR
    have HP0 : Hid (∀ W, Upd [] w W → Calls Tryd.prog 31 #[.agg #[.int .u8 k, .string s, .int .i64 num, .int .i64 pos, .slice a K.length c]] W fun e w' => e = .returned (.bool p) ∧ Upd [] W w') := hP
    clear hR hP hz hx hm hi hp hri
    go_enter Tryd.func10, Tryd.ntmps10
    go_wp2_with (first | (refine load_G _ _ rfl _ _ rfl T0.out rfl rfl ?_) | fail)
    refine Calls.mono (HR.out _ U0.out) ?_
    rintro e w1 ⟨rfl, hu⟩
    have U1 : Hid (Upd [] w w1) := U0.out.trans hu
    have T1 : Hid (Tb w1 w.heap.size #[.int .u8 k, .string s, .int .i64 num, .int .i64 pos, .slice a K.length c]) := T0.out.mono hu (by simp)
    clear hu U0 T0 HR
    cases i with
    | false =>
      go_wp2_with fail
      go_ret
      exact ⟨ret_boolN (by rfl), U1.out⟩
    | true =>
      have HP : Hid (∀ W, Upd [] w W → Calls Tryd.prog 31 #[.agg #[.int .u8 k, .string s, .int .i64 num, .int .i64 pos, .slice a K.length c]] W fun e w' => e = .returned (.bool p) ∧ Upd [] W w') := HP0.out
      clear HP0
      go_wp2_with (first | (refine load_G _ _ rfl _ _ rfl T1.out rfl rfl ?_) | fail)
      refine Calls.mono (HP.out _ U1.out) ?_
      rintro e w2 ⟨rfl, hu⟩
      have U2 : Hid (Upd [] w w2) := U1.out.trans hu
      have T2 : Hid (Tb w2 w.heap.size #[.int .u8 k, .string s, .int .i64 num, .int .i64 pos, .slice a K.length c]) := T1.out.mono hu (by simp)
      clear hu U1 T1 HP
      go_wp2_with fail
      go_ret
      exact ⟨ret_boolN (by rfl), U2.out⟩

set_option maxHeartbeats 4000000 in
set_option maxRecDepth 100000 in
theorem rGuard (d : Nat) (w : World) (cs : List Value) (t : Nd) (h : NIn w d cs t) (hz : nsz t ≤ 20000) (hx : nxz t ≤ 1000000) (hm : manN t ≤ 20000) :
    Calls Tryd.prog 12 #[.agg cs.toArray] w fun e w' => e = .returned (.bool (itmB t && thru grdB t)) ∧ Upd [] w w' := by
  cases d with
  | zero => exact h.elim
  | succ d =>
  obtain ⟨k, s, num, pos, K⟩ := t
  have hR := fun W (hu : Upd [] w W) => rright (d + 1) W _ _ (NIn.mono hu _ _ _ h) hz hx hm
  have hP := fun (hc : thru callOk (.mk k s num pos K) = true) W (hu : Upd [] w W) => rgrd_all (d + 1) W _ _ (NIn.mono hu _ _ _ h) hz hc
  obtain ⟨a, c, rfl, -, -⟩ := h
  obtain ⟨i, hi⟩ : ∃ i, i = itmB (.mk k s num pos K) := ⟨_, rfl⟩
  obtain ⟨p, hp⟩ : ∃ p, p = thru grdB (.mk k s num pos K) := ⟨_, rfl⟩
  rw [← hi, ← hp]
  rw [← hp] at hP
  have U0 : Hid (Upd [] w (w.alloc (.cells #[.int .u8 k, .string s, .int .i64 num, .int .i64 pos, .slice a K.length c] 25))) := (Upd.refl [] w).alloc _
  have T0 : Hid (Tb (w.alloc (.cells #[.int .u8 k, .string s, .int .i64 num, .int .i64 pos, .slice a K.length c] 25)) w.heap.size #[.int .u8 k, .string s, .int .i64 num, .int .i64 pos, .slice a K.length c]) := Tb.new w #[.int .u8 k, .string s, .int .i64 num, .int .i64 pos, .slice a K.length c] _ rfl
  cases hk : (k == 22) with
  | true =>
    have hi0 : Hid (i = false) := by
      show _ = _
      rw [hi, itmB, eq_of_beq hk, is0_22, Bool.and_false]
    have hk2 : (k != 22) = false := by rw [bne, hk]; rfl
    clear hR hP hz hx hm hi hp
    go_enter Tryd.func12, Tryd.ntmps12
    go_wp2_with fail
    go_ret
    exact ⟨ret_boolN (by rw [hi0.out]; rfl), U0.out⟩
  | false =>
    have hk2 : (k != 22) = true := by rw [bne, hk]; rfl
    have hri : rgtB (.mk k s num pos K) = i := by rw [rgtB, is1_no hk, Bool.or_false, hi, itmB]
    rw [hri] at hR
    have HR : Hid (∀ W, Upd [] w W → Calls Tryd.prog 8 #[.agg #[.int .u8 k, .string s, .int .i64 num, .int .i64 pos, .slice a K.length c]] W fun e w' => e = .returned (.bool i) ∧ Upd [] W w') := hR
    have HP0 : Hid (i = true → ∀ W, Upd [] w W → Calls Tryd.prog 33 #[.agg #[.int .u8 k, .string s, .int .i64 num, .int .i64 pos, .slice a K.length c]] W fun e w' => e = .returned (.bool p) ∧ Upd [] W w') := fun h1 => hP (isB_call 0 _ (by rw [hi, itmB, Bool.and_eq_true] at h1; exact h1.2))
    clear hR hP hz hx hm hi hp hri
    go_enter Tryd.func12, Tryd.ntmps12
    go_wp2_with (first | (refine load_G _ _ rfl _ _ rfl T0.out rfl rfl ?_) | fail)
    refine Calls.mono (HR.out _ U0.out) ?_
    rintro e w1 ⟨rfl, hu⟩
    have U1 : Hid (Upd [] w w1) := U0.out.trans hu
    have T1 : Hid (Tb w1 w.heap.size #[.int .u8 k, .string s, .int .i64 num, .int .i64 pos, .slice a K.length c]) := T0.out.mono hu (by simp)
    clear hu U0 T0 HR
    cases i with
    | false =>
      go_wp2_with fail
      go_ret
      exact ⟨ret_boolN (by rfl), U1.out⟩
    | true =>
      have HP : Hid (∀ W, Upd [] w W → Calls Tryd.prog 33 #[.agg #[.int .u8 k, .string s, .int .i64 num, .int .i64 pos, .slice a K.length c]] W fun e w' => e = .returned (.bool p) ∧ Upd [] W w') := HP0.out rfl
      clear HP0
      go_wp2_with (first | (refine load_G _ _ rfl _ _ rfl T1.out rfl rfl ?_) | fail)
      refine Calls.mono (HP.out _ U1.out) ?_
      rintro e w2 ⟨rfl, hu⟩
      have U2 : Hid (Upd [] w w2) := U1.out.trans hu
      have T2 : Hid (Tb w2 w.heap.size #[.int .u8 k, .string s, .int .i64 num, .int .i64 pos, .slice a K.length c]) := T1.out.mono hu (by simp)
      clear hu U1 T1 HP
      go_wp2_with fail
      go_ret
      exact ⟨ret_boolN (by rfl), U2.out⟩

end Go.Proofs.YtehfoblfmehbdaaDoor
