/- The reference's guard. -/
import Derived.Test.YtehfoblfmehbdaaDoorNuB
namespace Go.Proofs.YtehfoblfmehbdaaDoor
open Go.RowKit

def opQ (k : Int) (s : ByteArray) : Bool := k == 7 && (!(s.toList == [33]) && (!(s.toList == [43, 43]) && !(s.toList == [45, 45])))
def clQ (k : Int) (K : List Nd) : Bool := k == 9 && (headK K == 2)
theorem grd_eq (k : Int) (s : ByteArray) (num pos : Int) (K : List Nd) : grdB (.mk k s num pos K) = (smB k || (opQ k s || clQ k K)) := by
  rw [grdB]
  unfold smB opQ clQ
  by_cases h7 : k = 7
  · subst h7
    simp
  · have h7' : (k == 7) = false := beq_eq_false_iff_ne.2 h7
    rw [h7', if_neg h7, Bool.false_and, Bool.false_or]
    by_cases h9 : k = 9
    · subst h9
      simp
    · have h9' : (k == 9) = false := beq_eq_false_iff_ne.2 h9
      rw [h9', if_neg h9, Bool.false_and, Bool.or_false]
      by_cases h : k = 1 ∨ k = 2 ∨ k = 3 ∨ k = 4 ∨ k = 5 ∨ k = 6
      · rw [if_pos h]
        rcases h with rfl | rfl | rfl | rfl | rfl | rfl <;> rfl
      · rw [if_neg h]
        simp only [not_or] at h
        simp [h]
def RGrd (d : Nat) : Prop := ∀ (w : World) (cs : List Value) (t : Nd), NIn w d cs t → nsz t ≤ 20000 → thru callOk t = true → Calls Tryd.prog 33 #[.agg cs.toArray] w fun e w' => e = .returned (.bool (thru grdB t)) ∧ Upd [] w w'
set_option maxHeartbeats 4000000 in
set_option maxRecDepth 100000 in
theorem rgrd_step (d : Nat) (ih : RGrd d) : RGrd (d + 1) := by
  intro w cs t h hs hco
  obtain ⟨k, s, num, pos, K⟩ := t
  obtain ⟨a, c, rfl, hK, -⟩ := h
  simp only [nsz] at hs
  rw [thru, Bool.and_eq_true] at hco
  have hl : K.length ≤ 20000 := Nat.le_trans (nszs_len K) hs
  have IH : Hid (∀ i (hi : i < K.length) W cs, NIn W d cs K[i] → Calls Tryd.prog 33 #[.agg cs.toArray] W fun e w' => e = .returned (.bool (thru grdB K[i])) ∧ Upd [] W w') := fun i hi W cs h => ih W cs K[i] h (Nat.le_trans (nszs_get K i hi) hs) (thrus_get callOk K hco.2 i hi)
  have HCO : Hid (k = 9 → 0 < K.length) := fun h9 => by
    have h1 := hco.1
    subst h9
    unfold callOk at h1
    simp only [Nd.kd, Nd.kids, ne_eq, not_true_eq_false, decide_false, Bool.false_or] at h1
    exact of_decide_eq_true h1
  obtain ⟨R, hR⟩ : ∃ R, R = thru grdB (.mk k s num pos K) := ⟨_, rfl⟩
  rw [← hR]
  have HRR : Hid (R = (grdB (.mk k s num pos K) && thrus grdB K)) := by show _ = _; rw [hR, thru]
  obtain ⟨oq, hoq⟩ : ∃ oq, oq = opQ k s := ⟨_, rfl⟩
  obtain ⟨cq, hcq⟩ : ∃ cq, cq = clQ k K := ⟨_, rfl⟩
  obtain ⟨sm, hsm⟩ : ∃ sm, sm = smB k := ⟨_, rfl⟩
  have HM : Hid (oq = opQ k s ∧ cq = clQ k K ∧ sm = smB k) := ⟨hoq, hcq, hsm⟩
  have HK : Hid (RowN (NIn w d) w a K) := hK
  have HTB0 : Hid (Tb (w.alloc (.cells #[.int .u8 k, .string s, .int .i64 num, .int .i64 pos, .slice a K.length c] 25)) w.heap.size #[.int .u8 k, .string s, .int .i64 num, .int .i64 pos, .slice a K.length c]) := Tb.new _ _ _ rfl
  have HU0 : Hid (Upd [] w (w.alloc (.cells #[.int .u8 k, .string s, .int .i64 num, .int .i64 pos, .slice a K.length c] 25))) := (Upd.refl [] w).alloc _
  clear hK ih hs hR hoq hcq hsm hco
  go_enter Tryd.func33, Tryd.ntmps33
  go_upto_region 1 with fail
  go_cut [3] (fun s3 wx => s3 = .bool oq ∧ wx = w.alloc (.cells #[.int .u8 k, .string s, .int .i64 num, .int .i64 pos, .slice a K.length c] 25))
  case first =>
    cases h7 : (k == 7)
    · go_wp2_with fail
      go_meet
      case rel => exact ⟨by rw [HM.out.1]; simp [opQ, h7], rfl⟩
    · cases h8 : (s.toList == [33])
      · cases h9 : (s.toList == [43, 43])
        · cases h10 : (s.toList == [45, 45])
          · go_wp2_with fail
            go_meet
            case rel => exact ⟨by rw [HM.out.1]; simp only [opQ, h7, h8, h9, h10]; rfl, rfl⟩
          · go_wp2_with fail
            go_meet
            case rel => exact ⟨by rw [HM.out.1]; simp [opQ, h10], rfl⟩
        · go_wp2_with fail
          go_meet
          case rel => exact ⟨by rw [HM.out.1]; simp [opQ, h9], rfl⟩
      · go_wp2_with fail
        go_meet
        case rel => exact ⟨by rw [HM.out.1]; simp [opQ, h8], rfl⟩
  case rest =>
    obtain ⟨rfl, hwc⟩ := hcut
    subst hwc
    go_upto_region 2 with fail
    go_cut [4] (fun s4 wx => s4 = .bool cq ∧ wx = w.alloc (.cells #[.int .u8 k, .string s, .int .i64 num, .int .i64 pos, .slice a K.length c] 25))
    case first =>
      cases h9 : (k == 9)
      · go_wp2_with fail
        go_meet
        case rel => exact ⟨by rw [HM.out.2.1]; simp [clQ, h9], rfl⟩
      · have hk0 : 0 < K.length := HCO.out (by simpa using h9)
        have i0 : (0 : Int) < (K.length : Int) := by omega
        obtain ⟨b, o, hae, hbl, hcl⟩ := head_cell HK.out hk0
        subst hae
        have hcl2 : (w.alloc (.cells #[.int .u8 k, .string s, .int .i64 num, .int .i64 pos, .slice (some ⟨b, o, none⟩) K.length c] 25)).cell? ⟨b, o, none⟩ = some (.int .u8 (headK K)) := by rw [HU0.out.cell (p := ⟨b, o, none⟩) hbl (by simp)]; exact hcl
        clear hcl
        cases h10 : (headK K == 2)
        · go_wp2_with fail
          go_meet
          case rel => exact ⟨by rw [HM.out.2.1]; simp [clQ, h10], rfl⟩
        · go_wp2_with fail
          go_meet
          case rel => exact ⟨by rw [HM.out.2.1]; simp only [clQ, h9, h10]; rfl, rfl⟩
    case rest =>
      obtain ⟨rfl, hwc⟩ := hcut
      subst hwc
      go_wp2_with fail
      refine Calls.mono (simple_any _ k) ?_
      rintro e w1 ⟨rfl, hw1⟩
      rw [hw1]
      clear hw1 w1
      rw [← HM.out.2.2]
      have HU1 : Hid (Upd [] w (w.alloc (.cells #[.int .u8 k, .string s, .int .i64 num, .int .i64 pos, .slice a K.length c] 25))) := HU0.out
      have HTB1 : Hid (Tb (w.alloc (.cells #[.int .u8 k, .string s, .int .i64 num, .int .i64 pos, .slice a K.length c] 25)) w.heap.size #[.int .u8 k, .string s, .int .i64 num, .int .i64 pos, .slice a K.length c]) := HTB0.out
      clear HU0 HTB0
      by_cases hgo : (sm || (oq || cq)) = true
      · have HP : Hid (grdB (.mk k s num pos K) = true) := by show _ = _; rw [grd_eq, ← HM.out.1, ← HM.out.2.1, ← HM.out.2.2]; exact hgo
        have hs3 : sm = true ∨ (sm = false ∧ oq = true) ∨ (sm = false ∧ oq = false ∧ cq = true) := by
          cases sm <;> cases oq <;> cases cq <;> simp at hgo ⊢
        clear hgo
        rcases hs3 with rfl | ⟨rfl, rfl⟩ | ⟨rfl, rfl, rfl⟩
        · go_wp2_with fail
          go_loopw [5] (fun i wr => ∃ j : Nat, j ≤ K.length ∧ i = .int .i64 j ∧ thrus grdB (K.take j) = true ∧ Upd [] w wr ∧ Tb wr w.heap.size #[.int .u8 k, .string s, .int .i64 num, .int .i64 pos, .slice a K.length c]) (fun i _ => K.length - (intOf i).toNat)
          case atStart => exact ⟨0, Nat.zero_le _, rfl, rfl, HU1.out, HTB1.out⟩
          case round =>
            obtain ⟨i, hi, rfl, hth, hU, htb⟩ := hrel
            have HTH : Hid (thrus grdB (K.take i) = true) := hth
            have y4 : wr.cell? ⟨w.heap.size, 4, none⟩ = some (.slice a K.length c) := htb.cell 4
            have HU : Hid (Upd [] w wr) := hU
            have HTB : Hid (Tb wr w.heap.size #[.int .u8 k, .string s, .int .i64 num, .int .i64 pos, .slice a K.length c]) := htb
            clear hU htb hth
            by_cases hlt2 : i < K.length
            · have i1 : (i : Int) < (K.length : Int) := by omega
              rcases HK.out with h0 | ⟨b, o, rfl, hlt, hc⟩
              · rw [h0] at hlt2; simp at hlt2
              · obtain ⟨cs, hl5, hcell, hin⟩ := hc i hlt2
                obtain ⟨q0, q1, q2, q3, q4, rfl⟩ := list5 hl5
                have x0 : wr.cell? ⟨b, o + i * 5, none⟩ = some q0 := (HU.out.cell (p := ⟨b, o + (i * 5 + 0), none⟩) hlt (by simp)).trans (hcell 0 (by omega))
                have x1 : wr.cell? ⟨b, o + i * 5 + 1, none⟩ = some q1 := (HU.out.cell (p := ⟨b, o + (i * 5 + 1), none⟩) hlt (by simp)).trans (hcell 1 (by omega))
                have x2 : wr.cell? ⟨b, o + i * 5 + 2, none⟩ = some q2 := (HU.out.cell (p := ⟨b, o + (i * 5 + 2), none⟩) hlt (by simp)).trans (hcell 2 (by omega))
                have x3 : wr.cell? ⟨b, o + i * 5 + 3, none⟩ = some q3 := (HU.out.cell (p := ⟨b, o + (i * 5 + 3), none⟩) hlt (by simp)).trans (hcell 3 (by omega))
                have x4 : wr.cell? ⟨b, o + i * 5 + 4, none⟩ = some q4 := (HU.out.cell (p := ⟨b, o + (i * 5 + 4), none⟩) hlt (by simp)).trans (hcell 4 (by omega))
                have hcal := IH.out i hlt2 wr _ (NIn.mono HU.out _ _ _ hin)
                obtain ⟨R, hR⟩ : ∃ R, R = thru grdB K[i] := ⟨_, rfl⟩
                rw [← hR] at hcal
                have HCL : Hid (Unit → _) := fun () => hcal
                have HR : Hid (R = thru grdB K[i]) := hR
                clear hc hcell hin hcal hR
                go_wp2_with fail
                refine Calls.mono (HCL.out ()) ?_
                rintro e w2 ⟨rfl, hU2⟩
                have HU2 : Hid (Upd [] w w2) := HU.out.trans hU2
                have HTB2 : Hid (Tb w2 w.heap.size #[.int .u8 k, .string s, .int .i64 num, .int .i64 pos, .slice (some ⟨b, o, none⟩) K.length c]) := HTB.out.mono hU2 (by simp)
                clear hU2 x0 x1 x2 x3 x4 y4 HCL
                cases R with
                | true =>
                  go_wp2_with fail
                  go_roundw
                  case rel => exact ⟨i + 1, by omega, by go_num, by rw [thrus_take _ K i hlt2, HTH.out, ← HR.out]; rfl, HU2.out, HTB2.out⟩
                  case measure => simp [intOf]; omega
                | false =>
                  go_wp2_with fail
                  go_ret
                  refine ⟨ret_boolN ?_, HU2.out⟩
                  rw [HRR.out, thrus_no _ K i hlt2 HR.out.symm, Bool.and_false]
            · obtain rfl : i = K.length := by omega
              go_wp2_with fail
              go_ret
              refine ⟨ret_boolN ?_, HU.out⟩
              have h9 := HTH.out
              rw [List.take_length] at h9
              rw [HRR.out, h9, HP.out]
              rfl
        · go_wp2_with fail
          go_loopw [5] (fun i wr => ∃ j : Nat, j ≤ K.length ∧ i = .int .i64 j ∧ thrus grdB (K.take j) = true ∧ Upd [] w wr ∧ Tb wr w.heap.size #[.int .u8 k, .string s, .int .i64 num, .int .i64 pos, .slice a K.length c]) (fun i _ => K.length - (intOf i).toNat)
          case atStart => exact ⟨0, Nat.zero_le _, rfl, rfl, HU1.out, HTB1.out⟩
          case round =>
            obtain ⟨i, hi, rfl, hth, hU, htb⟩ := hrel
            have HTH : Hid (thrus grdB (K.take i) = true) := hth
            have y4 : wr.cell? ⟨w.heap.size, 4, none⟩ = some (.slice a K.length c) := htb.cell 4
            have HU : Hid (Upd [] w wr) := hU
            have HTB : Hid (Tb wr w.heap.size #[.int .u8 k, .string s, .int .i64 num, .int .i64 pos, .slice a K.length c]) := htb
            clear hU htb hth
            by_cases hlt2 : i < K.length
            · have i1 : (i : Int) < (K.length : Int) := by omega
              rcases HK.out with h0 | ⟨b, o, rfl, hlt, hc⟩
              · rw [h0] at hlt2; simp at hlt2
              · obtain ⟨cs, hl5, hcell, hin⟩ := hc i hlt2
                obtain ⟨q0, q1, q2, q3, q4, rfl⟩ := list5 hl5
                have x0 : wr.cell? ⟨b, o + i * 5, none⟩ = some q0 := (HU.out.cell (p := ⟨b, o + (i * 5 + 0), none⟩) hlt (by simp)).trans (hcell 0 (by omega))
                have x1 : wr.cell? ⟨b, o + i * 5 + 1, none⟩ = some q1 := (HU.out.cell (p := ⟨b, o + (i * 5 + 1), none⟩) hlt (by simp)).trans (hcell 1 (by omega))
                have x2 : wr.cell? ⟨b, o + i * 5 + 2, none⟩ = some q2 := (HU.out.cell (p := ⟨b, o + (i * 5 + 2), none⟩) hlt (by simp)).trans (hcell 2 (by omega))
                have x3 : wr.cell? ⟨b, o + i * 5 + 3, none⟩ = some q3 := (HU.out.cell (p := ⟨b, o + (i * 5 + 3), none⟩) hlt (by simp)).trans (hcell 3 (by omega))
                have x4 : wr.cell? ⟨b, o + i * 5 + 4, none⟩ = some q4 := (HU.out.cell (p := ⟨b, o + (i * 5 + 4), none⟩) hlt (by simp)).trans (hcell 4 (by omega))
                have hcal := IH.out i hlt2 wr _ (NIn.mono HU.out _ _ _ hin)
                obtain ⟨R, hR⟩ : ∃ R, R = thru grdB K[i] := ⟨_, rfl⟩
                rw [← hR] at hcal
                have HCL : Hid (Unit → _) := fun () => hcal
                have HR : Hid (R = thru grdB K[i]) := hR
                clear hc hcell hin hcal hR
                go_wp2_with fail
                refine Calls.mono (HCL.out ()) ?_
                rintro e w2 ⟨rfl, hU2⟩
                have HU2 : Hid (Upd [] w w2) := HU.out.trans hU2
                have HTB2 : Hid (Tb w2 w.heap.size #[.int .u8 k, .string s, .int .i64 num, .int .i64 pos, .slice (some ⟨b, o, none⟩) K.length c]) := HTB.out.mono hU2 (by simp)
                clear hU2 x0 x1 x2 x3 x4 y4 HCL
                cases R with
                | true =>
                  go_wp2_with fail
                  go_roundw
                  case rel => exact ⟨i + 1, by omega, by go_num, by rw [thrus_take _ K i hlt2, HTH.out, ← HR.out]; rfl, HU2.out, HTB2.out⟩
                  case measure => simp [intOf]; omega
                | false =>
                  go_wp2_with fail
                  go_ret
                  refine ⟨ret_boolN ?_, HU2.out⟩
                  rw [HRR.out, thrus_no _ K i hlt2 HR.out.symm, Bool.and_false]
            · obtain rfl : i = K.length := by omega
              go_wp2_with fail
              go_ret
              refine ⟨ret_boolN ?_, HU.out⟩
              have h9 := HTH.out
              rw [List.take_length] at h9
              rw [HRR.out, h9, HP.out]
              rfl
        · go_wp2_with fail
          go_loopw [5] (fun i wr => ∃ j : Nat, j ≤ K.length ∧ i = .int .i64 j ∧ thrus grdB (K.take j) = true ∧ Upd [] w wr ∧ Tb wr w.heap.size #[.int .u8 k, .string s, .int .i64 num, .int .i64 pos, .slice a K.length c]) (fun i _ => K.length - (intOf i).toNat)
          case atStart => exact ⟨0, Nat.zero_le _, rfl, rfl, HU1.out, HTB1.out⟩
          case round =>
            obtain ⟨i, hi, rfl, hth, hU, htb⟩ := hrel
            have HTH : Hid (thrus grdB (K.take i) = true) := hth
            have y4 : wr.cell? ⟨w.heap.size, 4, none⟩ = some (.slice a K.length c) := htb.cell 4
            have HU : Hid (Upd [] w wr) := hU
            have HTB : Hid (Tb wr w.heap.size #[.int .u8 k, .string s, .int .i64 num, .int .i64 pos, .slice a K.length c]) := htb
            clear hU htb hth
            by_cases hlt2 : i < K.length
            · have i1 : (i : Int) < (K.length : Int) := by omega
              rcases HK.out with h0 | ⟨b, o, rfl, hlt, hc⟩
              · rw [h0] at hlt2; simp at hlt2
              · obtain ⟨cs, hl5, hcell, hin⟩ := hc i hlt2
                obtain ⟨q0, q1, q2, q3, q4, rfl⟩ := list5 hl5
                have x0 : wr.cell? ⟨b, o + i * 5, none⟩ = some q0 := (HU.out.cell (p := ⟨b, o + (i * 5 + 0), none⟩) hlt (by simp)).trans (hcell 0 (by omega))
                have x1 : wr.cell? ⟨b, o + i * 5 + 1, none⟩ = some q1 := (HU.out.cell (p := ⟨b, o + (i * 5 + 1), none⟩) hlt (by simp)).trans (hcell 1 (by omega))
                have x2 : wr.cell? ⟨b, o + i * 5 + 2, none⟩ = some q2 := (HU.out.cell (p := ⟨b, o + (i * 5 + 2), none⟩) hlt (by simp)).trans (hcell 2 (by omega))
                have x3 : wr.cell? ⟨b, o + i * 5 + 3, none⟩ = some q3 := (HU.out.cell (p := ⟨b, o + (i * 5 + 3), none⟩) hlt (by simp)).trans (hcell 3 (by omega))
                have x4 : wr.cell? ⟨b, o + i * 5 + 4, none⟩ = some q4 := (HU.out.cell (p := ⟨b, o + (i * 5 + 4), none⟩) hlt (by simp)).trans (hcell 4 (by omega))
                have hcal := IH.out i hlt2 wr _ (NIn.mono HU.out _ _ _ hin)
                obtain ⟨R, hR⟩ : ∃ R, R = thru grdB K[i] := ⟨_, rfl⟩
                rw [← hR] at hcal
                have HCL : Hid (Unit → _) := fun () => hcal
                have HR : Hid (R = thru grdB K[i]) := hR
                clear hc hcell hin hcal hR
                go_wp2_with fail
                refine Calls.mono (HCL.out ()) ?_
                rintro e w2 ⟨rfl, hU2⟩
                have HU2 : Hid (Upd [] w w2) := HU.out.trans hU2
                have HTB2 : Hid (Tb w2 w.heap.size #[.int .u8 k, .string s, .int .i64 num, .int .i64 pos, .slice (some ⟨b, o, none⟩) K.length c]) := HTB.out.mono hU2 (by simp)
                clear hU2 x0 x1 x2 x3 x4 y4 HCL
                cases R with
                | true =>
                  go_wp2_with fail
                  go_roundw
                  case rel => exact ⟨i + 1, by omega, by go_num, by rw [thrus_take _ K i hlt2, HTH.out, ← HR.out]; rfl, HU2.out, HTB2.out⟩
                  case measure => simp [intOf]; omega
                | false =>
                  go_wp2_with fail
                  go_ret
                  refine ⟨ret_boolN ?_, HU2.out⟩
                  rw [HRR.out, thrus_no _ K i hlt2 HR.out.symm, Bool.and_false]
            · obtain rfl : i = K.length := by omega
              go_wp2_with fail
              go_ret
              refine ⟨ret_boolN ?_, HU.out⟩
              have h9 := HTH.out
              rw [List.take_length] at h9
              rw [HRR.out, h9, HP.out]
              rfl
      · have hf : (sm || (oq || cq)) = false := by simpa using hgo
        have HP : Hid (grdB (.mk k s num pos K) = false) := by show _ = _; rw [grd_eq, ← HM.out.1, ← HM.out.2.1, ← HM.out.2.2]; exact hf
        have hs3 : sm = false ∧ oq = false ∧ cq = false := by
          cases sm <;> cases oq <;> cases cq <;> simp at hf ⊢
        clear hgo hf
        obtain ⟨rfl, rfl, rfl⟩ := hs3
        go_wp2_with fail
        go_ret
        exact ⟨ret_boolN (by rw [HRR.out, HP.out]; rfl), HU1.out⟩
theorem rgrd_all : ∀ d, RGrd d
  | 0 => fun _ _ _ h => h.elim
  | d + 1 => rgrd_step d (rgrd_all d)

end Go.Proofs.YtehfoblfmehbdaaDoor
