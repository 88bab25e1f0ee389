/- The reference's simple, pattern, guard. -/
import Derived.Test.YtehfoblfmehbdaaDoorJAN
import Derived.Deep.DeepCutAuto
namespace Go.Proofs.YtehfoblfmehbdaaDoor
open Go.RowKit

theorem thrus_take (p : Nd → Bool) : ∀ (K : List Nd) (i : Nat) (hi : i < K.length), thrus p (K.take (i + 1)) = (thrus p (K.take i) && thru p K[i])
  | [], i, hi => by simp at hi
  | t :: r, 0, _ => by simp [thrus]
  | t :: r, i + 1, hi => by
    have := thrus_take p r i (by simpa using hi)
    simp only [List.take_succ_cons, thrus, this, List.getElem_cons_succ, Bool.and_assoc]
theorem thrus_no (p : Nd → Bool) (K : List Nd) (i : Nat) (hi : i < K.length) (h : thru p K[i] = false) : thrus p K = false := by
  cases hh : thrus p K with
  | false => rfl
  | true => rw [thrus_get p K hh i hi] at h; cases h
def smB (k : Int) : Bool := k == 1 || (k == 2 || (k == 3 || (k == 4 || (k == 5 || k == 6))))
set_option maxRecDepth 10000 in
theorem simple_any (w : World) (k : Int) : Calls Tryd.prog 59 #[.int .u8 k] w fun e w' => e = .returned (.bool (smB k)) ∧ w' = w := by
  obtain ⟨R, hR⟩ : ∃ R, R = smB k := ⟨_, rfl⟩
  rw [← hR]
  have HR : Hid (R = smB k) := hR
  clear hR
  cases h1 : (k == 1)
  · cases h2 : (k == 2)
    · cases h3 : (k == 3)
      · cases h4 : (k == 4)
        · cases h5 : (k == 5)
          · cases h6 : (k == 6)
            all_goals
              go_enter Tryd.func59, Tryd.ntmps59
              go_wp2
              go_ret
              exact ⟨ret_boolN (by rw [HR.out]; simp [smB, h1, h2, h3, h4, h5, h6]), rfl⟩
          · go_enter Tryd.func59, Tryd.ntmps59
            go_wp2
            go_ret
            exact ⟨ret_boolN (by rw [HR.out]; simp [smB, h5]), rfl⟩
        · go_enter Tryd.func59, Tryd.ntmps59
          go_wp2
          go_ret
          exact ⟨ret_boolN (by rw [HR.out]; simp [smB, h4]), rfl⟩
      · go_enter Tryd.func59, Tryd.ntmps59
        go_wp2
        go_ret
        exact ⟨ret_boolN (by rw [HR.out]; simp [smB, h3]), rfl⟩
    · go_enter Tryd.func59, Tryd.ntmps59
      go_wp2
      go_ret
      exact ⟨ret_boolN (by rw [HR.out]; simp [smB, h2]), rfl⟩
  · go_enter Tryd.func59, Tryd.ntmps59
    go_wp2
    go_ret
    exact ⟨ret_boolN (by rw [HR.out]; simp [smB, h1]), rfl⟩
/-- A minus of one integer. -/
def mnB (k : Int) (s : ByteArray) (K : List Nd) : Bool := k == 7 && (s.toList == [45] && (((K.length : Int) == 1) && (headK K == 1)))
theorem pat_eq (k : Int) (s : ByteArray) (num pos : Int) (K : List Nd) : patB (.mk k s num pos K) = (smB k || (k == 8 || mnB k s K)) := by
  rw [patB]
  unfold smB mnB
  by_cases h7 : k = 7
  · subst h7
    simp
    by_cases hl : K.length = 1
    · simp [hl]
    · simp [hl]; omega
  · have h7' : (k == 7) = false := beq_eq_false_iff_ne.2 h7
    rw [h7', if_neg h7, Bool.false_and, Bool.or_false]
    by_cases h : k = 1 ∨ k = 2 ∨ k = 3 ∨ k = 4 ∨ k = 5 ∨ k = 6 ∨ k = 8
    · rw [if_pos h]
      rcases h with rfl | rfl | rfl | rfl | rfl | rfl | rfl <;> rfl
    · rw [if_neg h]
      simp only [not_or] at h
      simp [h]
def RPat (d : Nat) : Prop := ∀ (w : World) (cs : List Value) (t : Nd), NIn w d cs t → nsz t ≤ 20000 → Calls Tryd.prog 31 #[.agg cs.toArray] w fun e w' => e = .returned (.bool (thru patB t)) ∧ Upd [] w w'
set_option maxHeartbeats 4000000 in
set_option maxRecDepth 100000 in
theorem rpat_step (d : Nat) (ih : RPat d) : RPat (d + 1) := by
  intro w cs t h hs
  obtain ⟨k, s, num, pos, K⟩ := t
  obtain ⟨a, c, rfl, hK, -⟩ := h
  simp only [nsz] at hs
  have hl : K.length ≤ 20000 := Nat.le_trans (nszs_len K) hs
  have IH : Hid (∀ i (hi : i < K.length) W cs, NIn W d cs K[i] → Calls Tryd.prog 31 #[.agg cs.toArray] W fun e w' => e = .returned (.bool (thru patB K[i])) ∧ Upd [] W w') := fun i hi W cs h => ih W cs K[i] h (Nat.le_trans (nszs_get K i hi) hs)
  obtain ⟨R, hR⟩ : ∃ R, R = thru patB (.mk k s num pos K) := ⟨_, rfl⟩
  rw [← hR]
  have HRR : Hid (R = (patB (.mk k s num pos K) && thrus patB K)) := by show _ = _; rw [hR, thru]
  obtain ⟨mn, hmn⟩ : ∃ mn, mn = mnB k s K := ⟨_, rfl⟩
  obtain ⟨sm, hsm⟩ : ∃ sm, sm = smB k := ⟨_, rfl⟩
  have HM : Hid (mn = mnB k s K ∧ sm = smB k) := ⟨hmn, hsm⟩
  have HK : Hid (RowN (NIn w d) w a K) := hK
  have HTB0 : Hid (Tb (w.alloc (.cells #[.int .u8 k, .string s, .int .i64 num, .int .i64 pos, .slice a K.length c] 25)) w.heap.size #[.int .u8 k, .string s, .int .i64 num, .int .i64 pos, .slice a K.length c]) := Tb.new _ _ _ rfl
  have HU0 : Hid (Upd [] w (w.alloc (.cells #[.int .u8 k, .string s, .int .i64 num, .int .i64 pos, .slice a K.length c] 25))) := (Upd.refl [] w).alloc _
  clear hK ih hs hR hmn hsm
  go_enter Tryd.func31, Tryd.ntmps31
  go_upto_region 1 with fail
  go_cut [3] (fun s3 wx => s3 = .bool mn ∧ wx = w.alloc (.cells #[.int .u8 k, .string s, .int .i64 num, .int .i64 pos, .slice a K.length c] 25))
  case first =>
    cases h7 : (k == 7)
    · go_wp2_with fail
      go_meet
      case rel => exact ⟨by rw [HM.out.1]; simp [mnB, h7], rfl⟩
    · cases h8 : (s.toList == [45])
      · go_wp2_with fail
        go_meet
        case rel => exact ⟨by rw [HM.out.1]; simp [mnB, h8], rfl⟩
      · cases h9 : ((K.length : Int) == 1)
        · go_wp2_with fail
          go_meet
          case rel => exact ⟨by rw [HM.out.1]; simp [mnB, h9], rfl⟩
        · have hk0 : 0 < K.length := by have : (K.length : Int) = 1 := by simpa using h9
                                        omega
          have i0 : (0 : Int) < (K.length : Int) := by omega
          obtain ⟨b, o, hae, hbl, hcl⟩ := head_cell HK.out hk0
          subst hae
          have hcl2 : (w.alloc (.cells #[.int .u8 k, .string s, .int .i64 num, .int .i64 pos, .slice (some ⟨b, o, none⟩) K.length c] 25)).cell? ⟨b, o, none⟩ = some (.int .u8 (headK K)) := by rw [HU0.out.cell (p := ⟨b, o, none⟩) hbl (by simp)]; exact hcl
          clear hcl
          cases h10 : (headK K == 1)
          · go_wp2_with fail
            go_meet
            case rel => exact ⟨by rw [HM.out.1]; simp [mnB, h10], rfl⟩
          · go_wp2_with fail
            go_meet
            case rel => exact ⟨by rw [HM.out.1]; simp only [mnB, h7, h8, h9, h10, Bool.and_true], rfl⟩
  case rest =>
    obtain ⟨rfl, hwc⟩ := hcut
    subst hwc
    go_wp2_with fail
    refine Calls.mono (simple_any _ k) ?_
    rintro e w1 ⟨rfl, hw1⟩
    rw [hw1]
    clear hw1 w1
    rw [← HM.out.2]
    have HU1 : Hid (Upd [] w (w.alloc (.cells #[.int .u8 k, .string s, .int .i64 num, .int .i64 pos, .slice a K.length c] 25))) := HU0.out
    have HTB1 : Hid (Tb (w.alloc (.cells #[.int .u8 k, .string s, .int .i64 num, .int .i64 pos, .slice a K.length c] 25)) w.heap.size #[.int .u8 k, .string s, .int .i64 num, .int .i64 pos, .slice a K.length c]) := HTB0.out
    clear HU0 HTB0
    by_cases hgo : (sm || (k == 8 || mn)) = true
    · have HP : Hid (patB (.mk k s num pos K) = true) := by show _ = _; rw [pat_eq, ← HM.out.1, ← HM.out.2]; exact hgo
      have hs3 : sm = true ∨ (sm = false ∧ (k == 8) = true) ∨ (sm = false ∧ (k == 8) = false ∧ mn = true) := by
        cases sm <;> cases h8 : (k == 8) <;> cases mn <;> simp [h8] at hgo ⊢
      clear hgo
      rcases hs3 with rfl | ⟨rfl, h8⟩ | ⟨rfl, h8, rfl⟩
      · go_wp2_with fail
        go_loopw [4] (fun i wr => ∃ j : Nat, j ≤ K.length ∧ i = .int .i64 j ∧ thrus patB (K.take j) = true ∧ Upd [] w wr ∧ Tb wr w.heap.size #[.int .u8 k, .string s, .int .i64 num, .int .i64 pos, .slice a K.length c]) (fun i _ => K.length - (intOf i).toNat)
        case atStart => exact ⟨0, Nat.zero_le _, rfl, rfl, HU1.out, HTB1.out⟩
        case round =>
          obtain ⟨i, hi, rfl, hth, hU, htb⟩ := hrel
          have HTH : Hid (thrus patB (K.take i) = true) := hth
          have y4 : wr.cell? ⟨w.heap.size, 4, none⟩ = some (.slice a K.length c) := htb.cell 4
          have HU : Hid (Upd [] w wr) := hU
          have HTB : Hid (Tb wr w.heap.size #[.int .u8 k, .string s, .int .i64 num, .int .i64 pos, .slice a K.length c]) := htb
          clear hU htb hth
          by_cases hlt2 : i < K.length
          · have i1 : (i : Int) < (K.length : Int) := by omega
            rcases HK.out with h0 | ⟨b, o, rfl, hlt, hc⟩
            · rw [h0] at hlt2; simp at hlt2
            · obtain ⟨cs, hl5, hcell, hin⟩ := hc i hlt2
              obtain ⟨q0, q1, q2, q3, q4, rfl⟩ := list5 hl5
              have x0 : wr.cell? ⟨b, o + i * 5, none⟩ = some q0 := (HU.out.cell (p := ⟨b, o + (i * 5 + 0), none⟩) hlt (by simp)).trans (hcell 0 (by omega))
              have x1 : wr.cell? ⟨b, o + i * 5 + 1, none⟩ = some q1 := (HU.out.cell (p := ⟨b, o + (i * 5 + 1), none⟩) hlt (by simp)).trans (hcell 1 (by omega))
              have x2 : wr.cell? ⟨b, o + i * 5 + 2, none⟩ = some q2 := (HU.out.cell (p := ⟨b, o + (i * 5 + 2), none⟩) hlt (by simp)).trans (hcell 2 (by omega))
              have x3 : wr.cell? ⟨b, o + i * 5 + 3, none⟩ = some q3 := (HU.out.cell (p := ⟨b, o + (i * 5 + 3), none⟩) hlt (by simp)).trans (hcell 3 (by omega))
              have x4 : wr.cell? ⟨b, o + i * 5 + 4, none⟩ = some q4 := (HU.out.cell (p := ⟨b, o + (i * 5 + 4), none⟩) hlt (by simp)).trans (hcell 4 (by omega))
              have hcal := IH.out i hlt2 wr _ (NIn.mono HU.out _ _ _ hin)
              obtain ⟨R, hR⟩ : ∃ R, R = thru patB K[i] := ⟨_, rfl⟩
              rw [← hR] at hcal
              have HCL : Hid (Unit → _) := fun () => hcal
              have HR : Hid (R = thru patB K[i]) := hR
              clear hc hcell hin hcal hR
              go_wp2_with fail
              refine Calls.mono (HCL.out ()) ?_
              rintro e w2 ⟨rfl, hU2⟩
              have HU2 : Hid (Upd [] w w2) := HU.out.trans hU2
              have HTB2 : Hid (Tb w2 w.heap.size #[.int .u8 k, .string s, .int .i64 num, .int .i64 pos, .slice (some ⟨b, o, none⟩) K.length c]) := HTB.out.mono hU2 (by simp)
              clear hU2 x0 x1 x2 x3 x4 y4 HCL
              cases R with
              | true =>
                go_wp2_with fail
                go_roundw
                case rel => exact ⟨i + 1, by omega, by go_num, by rw [thrus_take _ K i hlt2, HTH.out, ← HR.out]; rfl, HU2.out, HTB2.out⟩
                case measure => simp [intOf]; omega
              | false =>
                go_wp2_with fail
                go_ret
                refine ⟨ret_boolN ?_, HU2.out⟩
                rw [HRR.out, thrus_no _ K i hlt2 HR.out.symm, Bool.and_false]
          · obtain rfl : i = K.length := by omega
            go_wp2_with fail
            go_ret
            refine ⟨ret_boolN ?_, HU.out⟩
            have h9 := HTH.out
            rw [List.take_length] at h9
            rw [HRR.out, h9, HP.out]
            rfl
      · have h8' : (k != 8) = false := by rw [bne, h8]; rfl
        go_wp2_with fail
        go_loopw [4] (fun i wr => ∃ j : Nat, j ≤ K.length ∧ i = .int .i64 j ∧ thrus patB (K.take j) = true ∧ Upd [] w wr ∧ Tb wr w.heap.size #[.int .u8 k, .string s, .int .i64 num, .int .i64 pos, .slice a K.length c]) (fun i _ => K.length - (intOf i).toNat)
        case atStart => exact ⟨0, Nat.zero_le _, rfl, rfl, HU1.out, HTB1.out⟩
        case round =>
          obtain ⟨i, hi, rfl, hth, hU, htb⟩ := hrel
          have HTH : Hid (thrus patB (K.take i) = true) := hth
          have y4 : wr.cell? ⟨w.heap.size, 4, none⟩ = some (.slice a K.length c) := htb.cell 4
          have HU : Hid (Upd [] w wr) := hU
          have HTB : Hid (Tb wr w.heap.size #[.int .u8 k, .string s, .int .i64 num, .int .i64 pos, .slice a K.length c]) := htb
          clear hU htb hth
          by_cases hlt2 : i < K.length
          · have i1 : (i : Int) < (K.length : Int) := by omega
            rcases HK.out with h0 | ⟨b, o, rfl, hlt, hc⟩
            · rw [h0] at hlt2; simp at hlt2
            · obtain ⟨cs, hl5, hcell, hin⟩ := hc i hlt2
              obtain ⟨q0, q1, q2, q3, q4, rfl⟩ := list5 hl5
              have x0 : wr.cell? ⟨b, o + i * 5, none⟩ = some q0 := (HU.out.cell (p := ⟨b, o + (i * 5 + 0), none⟩) hlt (by simp)).trans (hcell 0 (by omega))
              have x1 : wr.cell? ⟨b, o + i * 5 + 1, none⟩ = some q1 := (HU.out.cell (p := ⟨b, o + (i * 5 + 1), none⟩) hlt (by simp)).trans (hcell 1 (by omega))
              have x2 : wr.cell? ⟨b, o + i * 5 + 2, none⟩ = some q2 := (HU.out.cell (p := ⟨b, o + (i * 5 + 2), none⟩) hlt (by simp)).trans (hcell 2 (by omega))
              have x3 : wr.cell? ⟨b, o + i * 5 + 3, none⟩ = some q3 := (HU.out.cell (p := ⟨b, o + (i * 5 + 3), none⟩) hlt (by simp)).trans (hcell 3 (by omega))
              have x4 : wr.cell? ⟨b, o + i * 5 + 4, none⟩ = some q4 := (HU.out.cell (p := ⟨b, o + (i * 5 + 4), none⟩) hlt (by simp)).trans (hcell 4 (by omega))
              have hcal := IH.out i hlt2 wr _ (NIn.mono HU.out _ _ _ hin)
              obtain ⟨R, hR⟩ : ∃ R, R = thru patB K[i] := ⟨_, rfl⟩
              rw [← hR] at hcal
              have HCL : Hid (Unit → _) := fun () => hcal
              have HR : Hid (R = thru patB K[i]) := hR
              clear hc hcell hin hcal hR
              go_wp2_with fail
              refine Calls.mono (HCL.out ()) ?_
              rintro e w2 ⟨rfl, hU2⟩
              have HU2 : Hid (Upd [] w w2) := HU.out.trans hU2
              have HTB2 : Hid (Tb w2 w.heap.size #[.int .u8 k, .string s, .int .i64 num, .int .i64 pos, .slice (some ⟨b, o, none⟩) K.length c]) := HTB.out.mono hU2 (by simp)
              clear hU2 x0 x1 x2 x3 x4 y4 HCL
              cases R with
              | true =>
                go_wp2_with fail
                go_roundw
                case rel => exact ⟨i + 1, by omega, by go_num, by rw [thrus_take _ K i hlt2, HTH.out, ← HR.out]; rfl, HU2.out, HTB2.out⟩
                case measure => simp [intOf]; omega
              | false =>
                go_wp2_with fail
                go_ret
                refine ⟨ret_boolN ?_, HU2.out⟩
                rw [HRR.out, thrus_no _ K i hlt2 HR.out.symm, Bool.and_false]
          · obtain rfl : i = K.length := by omega
            go_wp2_with fail
            go_ret
            refine ⟨ret_boolN ?_, HU.out⟩
            have h9 := HTH.out
            rw [List.take_length] at h9
            rw [HRR.out, h9, HP.out]
            rfl
      · have h8' : (k != 8) = true := by rw [bne, h8]; rfl
        go_wp2_with fail
        go_loopw [4] (fun i wr => ∃ j : Nat, j ≤ K.length ∧ i = .int .i64 j ∧ thrus patB (K.take j) = true ∧ Upd [] w wr ∧ Tb wr w.heap.size #[.int .u8 k, .string s, .int .i64 num, .int .i64 pos, .slice a K.length c]) (fun i _ => K.length - (intOf i).toNat)
        case atStart => exact ⟨0, Nat.zero_le _, rfl, rfl, HU1.out, HTB1.out⟩
        case round =>
          obtain ⟨i, hi, rfl, hth, hU, htb⟩ := hrel
          have HTH : Hid (thrus patB (K.take i) = true) := hth
          have y4 : wr.cell? ⟨w.heap.size, 4, none⟩ = some (.slice a K.length c) := htb.cell 4
          have HU : Hid (Upd [] w wr) := hU
          have HTB : Hid (Tb wr w.heap.size #[.int .u8 k, .string s, .int .i64 num, .int .i64 pos, .slice a K.length c]) := htb
          clear hU htb hth
          by_cases hlt2 : i < K.length
          · have i1 : (i : Int) < (K.length : Int) := by omega
            rcases HK.out with h0 | ⟨b, o, rfl, hlt, hc⟩
            · rw [h0] at hlt2; simp at hlt2
            · obtain ⟨cs, hl5, hcell, hin⟩ := hc i hlt2
              obtain ⟨q0, q1, q2, q3, q4, rfl⟩ := list5 hl5
              have x0 : wr.cell? ⟨b, o + i * 5, none⟩ = some q0 := (HU.out.cell (p := ⟨b, o + (i * 5 + 0), none⟩) hlt (by simp)).trans (hcell 0 (by omega))
              have x1 : wr.cell? ⟨b, o + i * 5 + 1, none⟩ = some q1 := (HU.out.cell (p := ⟨b, o + (i * 5 + 1), none⟩) hlt (by simp)).trans (hcell 1 (by omega))
              have x2 : wr.cell? ⟨b, o + i * 5 + 2, none⟩ = some q2 := (HU.out.cell (p := ⟨b, o + (i * 5 + 2), none⟩) hlt (by simp)).trans (hcell 2 (by omega))
              have x3 : wr.cell? ⟨b, o + i * 5 + 3, none⟩ = some q3 := (HU.out.cell (p := ⟨b, o + (i * 5 + 3), none⟩) hlt (by simp)).trans (hcell 3 (by omega))
              have x4 : wr.cell? ⟨b, o + i * 5 + 4, none⟩ = some q4 := (HU.out.cell (p := ⟨b, o + (i * 5 + 4), none⟩) hlt (by simp)).trans (hcell 4 (by omega))
              have hcal := IH.out i hlt2 wr _ (NIn.mono HU.out _ _ _ hin)
              obtain ⟨R, hR⟩ : ∃ R, R = thru patB K[i] := ⟨_, rfl⟩
              rw [← hR] at hcal
              have HCL : Hid (Unit → _) := fun () => hcal
              have HR : Hid (R = thru patB K[i]) := hR
              clear hc hcell hin hcal hR
              go_wp2_with fail
              refine Calls.mono (HCL.out ()) ?_
              rintro e w2 ⟨rfl, hU2⟩
              have HU2 : Hid (Upd [] w w2) := HU.out.trans hU2
              have HTB2 : Hid (Tb w2 w.heap.size #[.int .u8 k, .string s, .int .i64 num, .int .i64 pos, .slice (some ⟨b, o, none⟩) K.length c]) := HTB.out.mono hU2 (by simp)
              clear hU2 x0 x1 x2 x3 x4 y4 HCL
              cases R with
              | true =>
                go_wp2_with fail
                go_roundw
                case rel => exact ⟨i + 1, by omega, by go_num, by rw [thrus_take _ K i hlt2, HTH.out, ← HR.out]; rfl, HU2.out, HTB2.out⟩
                case measure => simp [intOf]; omega
              | false =>
                go_wp2_with fail
                go_ret
                refine ⟨ret_boolN ?_, HU2.out⟩
                rw [HRR.out, thrus_no _ K i hlt2 HR.out.symm, Bool.and_false]
          · obtain rfl : i = K.length := by omega
            go_wp2_with fail
            go_ret
            refine ⟨ret_boolN ?_, HU.out⟩
            have h9 := HTH.out
            rw [List.take_length] at h9
            rw [HRR.out, h9, HP.out]
            rfl
    · have hf : (sm || (k == 8 || mn)) = false := by simpa using hgo
      have HP : Hid (patB (.mk k s num pos K) = false) := by show _ = _; rw [pat_eq, ← HM.out.1, ← HM.out.2]; exact hf
      have hs3 : sm = false ∧ (k == 8) = false ∧ mn = false := by
        cases sm <;> cases h8 : (k == 8) <;> cases mn <;> simp [h8] at hf ⊢
      clear hgo hf
      obtain ⟨rfl, h8, rfl⟩ := hs3
      have h8' : (k != 8) = true := by rw [bne, h8]; rfl
      go_wp2_with fail
      go_ret
      exact ⟨ret_boolN (by rw [HRR.out, HP.out]; rfl), HU1.out⟩
theorem rpat_all : ∀ d, RPat d
  | 0 => fun _ _ _ h => h.elim
  | d + 1 => rpat_step d (rpat_all d)

end Go.Proofs.YtehfoblfmehbdaaDoor
