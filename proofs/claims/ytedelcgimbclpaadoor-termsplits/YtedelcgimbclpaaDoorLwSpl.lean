/- TermSplits, walked. -/
import Derived.Test.YtedelcgimbclpaaDoorJM
import Derived.BigQuiet
namespace Go.Proofs.YtedelcgimbclpaaDoor
open Go.RowKit

set_option maxHeartbeats 16000000 in
set_option maxRecDepth 100000 in
theorem Splits_walk (w : World) (d : Nat) (t0 t1 : Tm) (k : Int) (nI ci : Nat) (ai : Option Addr) (q0 q1 q2 q3 q4 q5 q6 p1 p2 p3 p4 p6 : Value) (hG : Glb w) (iA : In w (d + 1) [q0, q1, q2, q3, q4, q5, q6] t0) (iB : In w (d + 1) [.int .u8 k, p1, p2, p3, p4, .slice ai nI ci, p6] t1) (hk : t1.kd = k) (hsp : splits t1 = (decide (k = 7) && decide (0 < nI))) (hc1 : nI ≤ ci) (hc2 : ci ≤ 9223372036854775807) (z0 : tsz t0 ≤ 1353245080330) (z1 : tsz t1 ≤ 1353245080330) :
    Calls Tryd.prog 4 #[.agg #[q0, q1, q2, q3, q4, q5, q6], .agg #[.int .u8 k, p1, p2, p3, p4, .slice ai nI ci, p6]] w fun e w' => e = .returned (.bool true) ∧ Upd [] w w' := by
  obtain ⟨o0, ho0⟩ : ∃ o, okS t0 = o := ⟨_, rfl⟩
  obtain ⟨o1, ho1⟩ : ∃ o, okS t1 = o := ⟨_, rfl⟩
  obtain ⟨a0, ha0⟩ : ∃ a, szS t0 = a := ⟨_, rfl⟩
  obtain ⟨a1, ha1⟩ : ∃ a, szS t1 = a := ⟨_, rfl⟩
  obtain ⟨lT, hlT⟩ : ∃ lT, consS t0 t1 = lT := ⟨_, rfl⟩
  obtain ⟨kl, hkl⟩ : ∃ kl, lT.kd = kl := ⟨_, rfl⟩
  have R0 : Hid (∀ W, Upd [] w W → Calls Tryd.prog 8 #[.agg #[q0, q1, q2, q3, q4, q5, q6]] W fun e w' => e = .returned (.bool o0) ∧ Upd [] W w') := fun W hu => right_call (In.mono hu _ _ _ iA) z0 ho0
  have R1 : Hid (∀ W, Upd [] w W → Calls Tryd.prog 8 #[.agg #[.int .u8 k, p1, p2, p3, p4, .slice ai nI ci, p6]] W fun e w' => e = .returned (.bool o1) ∧ Upd [] W w') := fun W hu => right_call (In.mono hu _ _ _ iB) z1 ho1
  have Z0 : Hid (∀ W, Upd [] w W → Calls Tryd.prog 14 #[.agg #[q0, q1, q2, q3, q4, q5, q6]] W fun e w' => e = .returned (.int .i64 (a0 : Nat)) ∧ Upd [] W w') := fun W hu => size_call (In.mono hu _ _ _ iA) z0 ha0
  have Z1 : Hid (∀ W, Upd [] w W → Calls Tryd.prog 14 #[.agg #[.int .u8 k, p1, p2, p3, p4, .slice ai nI ci, p6]] W fun e w' => e = .returned (.int .i64 (a1 : Nat)) ∧ Upd [] W w') := fun W hu => size_call (In.mono hu _ _ _ iB) z1 ha1
  have CN : Hid (∀ W, Upd [] w W → Calls Tryd.prog 13 #[.agg #[q0, q1, q2, q3, q4, q5, q6], .agg #[.int .u8 k, p1, p2, p3, p4, .slice ai nI ci, p6]] W (ConsP W (d + 2) lT)) := fun W hu => by rw [← hlT]; exact Cons_in d W _ _ t0 t1 (In.mono hu _ _ _ iA) (In.mono hu _ _ _ iB) z0 z1
  have GR : Hid (∀ W g, Upd [] w W → Tb W g #[q0, q1, q2, q3, q4, q5, q6, .int .u8 k, p1, p2, p3, p4, .slice ai nI ci, p6] → Calls Tryd.prog 7 #[.slice (some ⟨g, 0, none⟩) 2 2] W fun e w' => IsBool e ∧ Upd [] W w') := fun W g hu hT => great_in (d + 1) W _ 2 [t0, t1] (row_two hT (In.mono hu _ _ _ iA) (In.mono hu _ _ _ iB)) (tszs_le _ _ (by simp) (fun i hi => by
    have : i = 0 ∨ i = 1 := by simp at hi; omega
    rcases this with rfl | rfl
    · exact z0
    · exact z1))
  have IA : Hid (In w (d + 1) [q0, q1, q2, q3, q4, q5, q6] t0) := iA
  have IB : Hid (In w (d + 1) [.int .u8 k, p1, p2, p3, p4, .slice ai nI ci, p6] t1) := iB
  have FT : Hid (okS t0 = o0 ∧ okS t1 = o1 ∧ szS t0 = a0 ∧ szS t1 = a1 ∧ consS t0 t1 = lT ∧ lT.kd = kl ∧ t1.kd = k ∧ splits t1 = (decide (k = 7) && decide (0 < nI)) ∧ tsz t0 ≤ 1353245080330 ∧ tsz t1 ≤ 1353245080330) := ⟨ho0, ho1, ha0, ha1, hlT, hkl, hk, hsp, z0, z1⟩
  have HG : Hid (Glb w) := hG
  have hnI : (nI : Int) ≤ 9223372036854775807 := by omega
  clear iA iB z0 z1 hG ho0 ho1 ha0 ha1 hlT hk hsp
  have TA : Hid (Tb ((w.alloc (.cells #[q0, q1, q2, q3, q4, q5, q6] 26)).alloc (.cells #[.int .u8 k, p1, p2, p3, p4, .slice ai nI ci, p6] 26)) w.heap.size #[q0, q1, q2, q3, q4, q5, q6]) := (Tb.new _ _ _ rfl).old _
  have TB : Hid (Tb ((w.alloc (.cells #[q0, q1, q2, q3, q4, q5, q6] 26)).alloc (.cells #[.int .u8 k, p1, p2, p3, p4, .slice ai nI ci, p6] 26)) (w.heap.size + 1) #[.int .u8 k, p1, p2, p3, p4, .slice ai nI ci, p6]) := Tb.new _ _ _ (by simp)
  have HU0 : Hid (Upd [] w ((w.alloc (.cells #[q0, q1, q2, q3, q4, q5, q6] 26)).alloc (.cells #[.int .u8 k, p1, p2, p3, p4, .slice ai nI ci, p6] 26))) := ((Upd.refl [] w).alloc _).alloc _
  go_enter Tryd.func4, Tryd.ntmps4
  go_wp2_with fail
  refine Calls.mono (awake_any _ (HG.out.mono HU0.out)) ?_
  rintro e w1 ⟨rfl, h1⟩
  have U1 : Hid (Upd [] w w1) := HU0.out.trans h1
  have A1 := TA.out.mono h1 (by simp)
  have B1 := TB.out.mono h1 (by simp)
  clear h1 TA TB HU0
  go_wp2_with (first | (refine load_G _ _ rfl _ _ rfl A1 rfl rfl ?_) | (refine load_G _ _ rfl _ _ rfl B1 rfl rfl ?_) | fail)
  refine Calls.mono (GR.out _ _ (U1.out.alloc _) (Tb.new _ _ _ rfl)) ?_
  rintro e v1 ⟨⟨g, rfl⟩, h2⟩
  have hv : Upd [] w1 v1 := Upd.trans ((Upd.refl [] w1).alloc _) h2
  have UV : Hid (Upd [] w v1) := U1.out.trans hv
  have A5 := A1.mono hv (by simp)
  have B5 := B1.mono hv (by simp)
  clear h2 hv A1 B1 U1 GR
  cases g with
  | true =>
    go_wp2
    go_ret
    exact ⟨rfl, UV.out⟩
  | false =>
    go_wp2_with (first | (refine load_G _ _ rfl _ _ rfl A5 rfl rfl ?_) | (refine load_G _ _ rfl _ _ rfl B5 rfl rfl ?_) | fail)
    refine Calls.mono (CN.out _ UV.out) ?_
    rintro e w2 ⟨cs, h7, rfl, hin, hcap, h2⟩
    obtain ⟨l1, l2, l3, l4, l5, l6, rfl⟩ := hin.kdform
    rw [hkl] at hin hcap
    rw [hkl]
    have hone := hin.one
    have A6 := (A5.mono h2 (by simp)).old (.cells #[.int .u8 0, .bool false, .slice none 0 0, .string ⟨#[]⟩, .int .i64 0, .slice none 0 0, .slice none 0 0] 26)
    have B6 := (B5.mono h2 (by simp)).old (.cells #[.int .u8 0, .bool false, .slice none 0 0, .string ⟨#[]⟩, .int .i64 0, .slice none 0 0, .slice none 0 0] 26)
    have L6 : Tb (w2.alloc (.cells #[.int .u8 0, .bool false, .slice none 0 0, .string ⟨#[]⟩, .int .i64 0, .slice none 0 0, .slice none 0 0] 26)) w2.heap.size #[.int .u8 0, .bool false, .slice none 0 0, .string ⟨#[]⟩, .int .i64 0, .slice none 0 0, .slice none 0 0] := Tb.new _ _ _ rfl
    have lA : w.heap.size < w2.heap.size := Nat.lt_of_lt_of_le A5.lt h2.size
    have lB : w.heap.size + 1 < w2.heap.size := Nat.lt_of_lt_of_le B5.lt h2.size
    have HIN : Hid (In w2 (d + 2) [.int .u8 kl, l1, l2, l3, l4, l5, l6] lT) := hin
    have HCAP : Hid (CapC [.int .u8 kl, l1, l2, l3, l4, l5, l6]) := hcap
    have U2 : Hid (Upd [] w w2) := UV.out.trans h2
    clear hin hcap h2 A5 B5 UV h7 hkl CN
    go_wp2_with (first | (refine store_T _ rfl _ _ rfl _ #[.int .u8 kl, l1, l2, l3, l4, l5, l6] _ rfl rfl L6 rfl rfl hone ?_; intro w3 L7 h3; have A7 := A6.mono h3 (by simp; omega)) | (refine load_G _ _ rfl _ _ rfl A7 rfl rfl ?_))
    have B7 := B6.mono h3 (by simp; omega)
    have h23 : Upd [] w2 w3 := ((Upd.refl [] w2).alloc _).then h3 (by simp)
    have IL : Hid (In w3 (d + 2) [.int .u8 kl, l1, l2, l3, l4, l5, l6] lT) := In.mono h23 _ _ _ HIN.out
    have U3 : Hid (Upd [] w w3) := U2.out.trans h23
    have lL : w2.heap.size < w3.heap.size := L7.lt
    clear h3 A6 B6 L6 HIN U2 h23
    obtain ⟨lb, hlb⟩ : ∃ lb, lb = w2.heap.size := ⟨_, rfl⟩
    rw [← hlb] at lA lB L7 lL ⊢
    clear hlb
    refine Calls.mono (R0.out _ U3.out) ?_
    rintro e w4 ⟨rfl, h4⟩
    have A8 := A7.mono h4 (by simp)
    have B8 := B7.mono h4 (by simp)
    have L8 := L7.mono h4 (by simp)
    have U4 : Hid (Upd [] w w4) := U3.out.trans h4
    have V4 : Hid (Upd [] w3 w4) := h4
    clear h4 A7 B7 L7
    have SM : Hid ((o0 && o1) = false → ∀ W, Upd [] w3 W → Calls Tryd.prog 11 #[.agg #[.int .u8 kl, l1, l2, l3, l4, l5, l6], (.agg #[.int .u8 0, .bool false, .slice none 0 0, .string ⟨#[]⟩, .int .i64 0, .slice none 0 0, .slice none 0 0])] W fun e w' => e = .returned (.bool true) ∧ Upd [] W w') := fun hno W hu => by
      have hz : lT = zeroT := by
        rw [← FT.out.2.2.2.2.1, consS_no]
        rw [FT.out.1, FT.out.2.1, hno]
        rfl
      have h1 := In.mono hu _ _ _ IL.out
      rw [hz] at h1
      exact sam_call h1 (zero_in W (d + 1)) zero_tsz
    cases o0 with
    | false =>
      go_wp2_with (first | (refine load_G _ _ rfl _ _ rfl L8 rfl rfl ?_) | fail)
      refine Calls.mono (SM.out rfl _ V4.out) ?_
      rintro e w5 ⟨rfl, h5⟩
      go_wp2
      go_ret
      exact ⟨rfl, U4.out.trans h5⟩
    | true =>
      go_wp2_with (first | (refine load_G _ _ rfl _ _ rfl B8 rfl rfl ?_) | fail)
      refine Calls.mono (R1.out _ U4.out) ?_
      rintro e w5 ⟨rfl, h5⟩
      have A9 := A8.mono h5 (by simp)
      have B9 := B8.mono h5 (by simp)
      have L9 := L8.mono h5 (by simp)
      have U5 : Hid (Upd [] w w5) := U4.out.trans h5
      have V5 : Hid (Upd [] w3 w5) := V4.out.trans h5
      clear h5 A8 B8 L8 U4 V4
      cases o1 with
      | false =>
        go_wp2_with (first | (refine load_G _ _ rfl _ _ rfl L9 rfl rfl ?_) | fail)
        refine Calls.mono (SM.out rfl _ V5.out) ?_
        rintro e w6 ⟨rfl, h6⟩
        go_wp2
        go_ret
        exact ⟨rfl, U5.out.trans h6⟩
      | true =>
        clear SM
        obtain ⟨h0, h1, s0, s1, hl, hkl, hk, hsp, z0, z1⟩ := FT.out
        have e0 : szT t0 = a0 := (szS_ok h0).symm.trans s0
        have e1 : szT t1 = a1 := (szS_ok h1).symm.trans s1
        have m0 : a0 ≤ 4096 := by rw [← e0]; exact ((okS_iff _).1 h0).2
        have m1 : a1 ≤ 4096 := by rw [← e1]; exact ((okS_iff _).1 h1).2
        have hoc := cons_okS t0 t1 h0 h1
        rw [e0, e1, hk] at hoc
        have hp1 : 0 < a1 := by rw [← e1]; exact sz_pos t1
        clear z0 z1
        have SP : Hid (∀ W, Upd [] w3 W → Calls Tryd.prog 15 #[.agg #[.int .u8 kl, l1, l2, l3, l4, l5, l6]] W (SplitQ W (d + 2) lT)) := fun W hu => Split_in d W _ lT (In.mono hu _ _ _ IL.out) HCAP.out (by rw [← hl]; exact consS_tsz t0 t1)
        have SQ : Hid (∀ W, Upd [] w W → Calls Tryd.prog 15 #[.agg #[.int .u8 k, p1, p2, p3, p4, .slice ai nI ci, p6]] W (SplitQ W (d + 2) t1)) := fun W hu => Split_in d W _ t1 (In.more _ _ _ (In.mono hu _ _ _ IB.out)) ⟨ai, nI, ci, rfl, hc1, hc2⟩ (okS_tsz h1)
        have hw1 : IntKind.i64.wrap ((a0 : Int) + (a1 : Int)) = (a0 : Int) + (a1 : Int) := by rw [IntKind.wrap_i64]; omega
        have hw2 : IntKind.i64.wrap ((a0 : Int) + (a1 : Int) + 1) = (a0 : Int) + (a1 : Int) + 1 := by rw [IntKind.wrap_i64]; omega
        have hw3 : IntKind.i64.wrap ((a0 : Int) + (a1 : Int) + 1 + 1) = (a0 : Int) + (a1 : Int) + 1 + 1 := by rw [IntKind.wrap_i64]; omega
        have HS : Hid (∀ w', Upd [] w5 w' → w'.cell? ⟨w.heap.size, 0, none⟩ = some (q0) ∧ w'.cell? ⟨w.heap.size, 1, none⟩ = some (q1) ∧ w'.cell? ⟨w.heap.size, 2, none⟩ = some (q2) ∧ w'.cell? ⟨w.heap.size, 3, none⟩ = some (q3) ∧ w'.cell? ⟨w.heap.size, 4, none⟩ = some (q4) ∧ w'.cell? ⟨w.heap.size, 5, none⟩ = some (q5) ∧ w'.cell? ⟨w.heap.size, 6, none⟩ = some (q6) ∧ w'.cell? ⟨w.heap.size + 1, 0, none⟩ = some (.int .u8 k) ∧ w'.cell? ⟨w.heap.size + 1, 1, none⟩ = some (p1) ∧ w'.cell? ⟨w.heap.size + 1, 2, none⟩ = some (p2) ∧ w'.cell? ⟨w.heap.size + 1, 3, none⟩ = some (p3) ∧ w'.cell? ⟨w.heap.size + 1, 4, none⟩ = some (p4) ∧ w'.cell? ⟨w.heap.size + 1, 5, none⟩ = some (.slice ai nI ci) ∧ w'.cell? ⟨w.heap.size + 1, 6, none⟩ = some (p6)) := fun w' hu => ⟨(A9.mono hu (by simp)).cell 0, (A9.mono hu (by simp)).cell 1, (A9.mono hu (by simp)).cell 2, (A9.mono hu (by simp)).cell 3, (A9.mono hu (by simp)).cell 4, (A9.mono hu (by simp)).cell 5, (A9.mono hu (by simp)).cell 6, (B9.mono hu (by simp)).cell 0, (B9.mono hu (by simp)).cell 1, (B9.mono hu (by simp)).cell 2, (B9.mono hu (by simp)).cell 3, (B9.mono hu (by simp)).cell 4, (B9.mono hu (by simp)).cell 5, (B9.mono hu (by simp)).cell 6⟩
        have UC : Hid (Upd [] w5 w5) := Upd.refl [] w5
        have UB : Hid (Upd [] w w5) := U5.out
        have V50 : Hid True := trivial
        have HF : Hid (okS t0 = true ∧ okS t1 = true ∧ consS t0 t1 = lT ∧ t1.kd = k ∧ szT t0 = a0 ∧ szT t1 = a1 ∧ 0 < a1 ∧ splits t1 = (decide (k = 7) && decide (0 < nI)) ∧ lT.kd = kl) := ⟨h0, h1, hl, hk, e0, e1, hp1, hsp, hkl⟩
        have HOC : Hid (okS (consI t0 t1) = decide (a0 + a1 + (if k = 7 then 1 else 2) ≤ 4096)) := hoc
        have TA : Hid (Tb w5 _ _) := A9
        have TB : Hid (Tb w5 _ _) := B9
        have TL : Hid (Tb w5 _ _) := L9
        have HC : Hid (nI ≤ ci ∧ ci ≤ 9223372036854775807) := ⟨hc1, hc2⟩
        clear h0 h1 s0 s1 hl hkl hk hsp e0 e1 hoc A9 B9 L9 hp1 hc1 hc2 FT R0 R1
        go_wp2_with fail
        go_region_held3 (fun w' => w'.cell? ⟨w.heap.size, 0, none⟩ = some (q0) ∧ w'.cell? ⟨w.heap.size, 1, none⟩ = some (q1) ∧ w'.cell? ⟨w.heap.size, 2, none⟩ = some (q2) ∧ w'.cell? ⟨w.heap.size, 3, none⟩ = some (q3) ∧ w'.cell? ⟨w.heap.size, 4, none⟩ = some (q4) ∧ w'.cell? ⟨w.heap.size, 5, none⟩ = some (q5) ∧ w'.cell? ⟨w.heap.size, 6, none⟩ = some (q6) ∧ w'.cell? ⟨w.heap.size + 1, 0, none⟩ = some (.int .u8 k) ∧ w'.cell? ⟨w.heap.size + 1, 1, none⟩ = some (p1) ∧ w'.cell? ⟨w.heap.size + 1, 2, none⟩ = some (p2) ∧ w'.cell? ⟨w.heap.size + 1, 3, none⟩ = some (p3) ∧ w'.cell? ⟨w.heap.size + 1, 4, none⟩ = some (p4) ∧ w'.cell? ⟨w.heap.size + 1, 5, none⟩ = some (.slice ai nI ci) ∧ w'.cell? ⟨w.heap.size + 1, 6, none⟩ = some (p6))
          (first | exact HS.out _ UC.out | exact HS.out _ UC.out.drew | exact HS.out _ (UC.out.alloc _))
          (first
            | (go_at_call 14; (have _ := V51); go_loud (refine Calls.mono (Z1.out _ (UB.out.trans (Upd.trans UC.out (by repeat (first | with_reducible exact Upd.refl _ _ | with_reducible refine Upd.drew ?_ | with_reducible refine Upd.alloc ?_ _))))) ?_); rintro e v7 ⟨rfl, h52⟩; have V52 : Hid (Upd [] v6 v7) := Upd.trans (by repeat (first | with_reducible exact Upd.refl _ _ | with_reducible refine Upd.drew ?_ | with_reducible refine Upd.alloc ?_ _)) h52; have UC : Hid (Upd [] w5 v7) := UC.out.trans V52.out; clear h52)
            | (go_at_call 14; (have _ := V50); go_loud (refine Calls.mono (Z0.out _ (UB.out.trans (Upd.trans UC.out (by repeat (first | with_reducible exact Upd.refl _ _ | with_reducible refine Upd.drew ?_ | with_reducible refine Upd.alloc ?_ _))))) ?_); rintro e v6 ⟨rfl, h51⟩; have V51 : Hid (Upd [] w5 v6) := Upd.trans (by repeat (first | with_reducible exact Upd.refl _ _ | with_reducible refine Upd.drew ?_ | with_reducible refine Upd.alloc ?_ _)) h51; have UC : Hid (Upd [] w5 v6) := UC.out.trans V51.out; clear h51))
        have A10 := TA.out.mono UC.out (by simp)
        have B10 := TB.out.mono UC.out (by simp)
        have L10 := TL.out.mono UC.out (by simp)
        have U7 : Hid (Upd [] w v7) := UB.out.trans UC.out
        have V7' : Hid (Upd [] w3 v7) := V5.out.trans UC.out
        have kB : v7.cell? ⟨w.heap.size + 1, 0, none⟩ = some (.int .u8 k) := B10.cell 0
        have kL : v7.cell? ⟨lb, 0, none⟩ = some (.int .u8 kl) := L10.cell 0
        clear HS UC UB V5 V50 V51 V52 Z0 Z1 TA TB TL
        by_cases hk7 : k = 7
        · subst hk7
          have HOC2 : Hid (okS (consI t0 t1) = decide (a0 + a1 + 1 ≤ 4096)) := HOC.out
          clear HOC
          by_cases hfit : a0 + a1 + 1 ≤ 4096
          · have hoc : okS (consI t0 t1) = true := by rw [HOC2.out]; exact decide_eq_true hfit
            have hlT : lT = consI t0 t1 := by rw [← HF.out.2.2.1]; exact consS_ok HF.out.1 HF.out.2.1 hoc
            have hkl7 : kl = 7 := by rw [← HF.out.2.2.2.2.2.2.2.2, hlT]; exact cons_kd t0 t1
            subst hkl7
            have hd : decide ((4096 : Int) < ((a0 : Int) + (a1 : Int) + 1)) = false := by simp; omega
            have hd2 : ¬ ((4096 : Int) < ((a0 : Int) + (a1 : Int) + 1)) := by omega
            have hspl : (splits lT && okS lT) = true := by rw [hlT, cons_splits, hoc]; rfl
            have hhd : headT lT = t0 := by rw [hlT]; exact cons_head t0 t1
            have hrs : restT lT = t1 := by rw [hlT]; exact cons_rest t0 t1 ((okS_iff _).1 HF.out.2.1).1
            have hszl : szS lT = a0 + a1 + 1 := by
              rw [szS_ok (by rw [hlT]; exact hoc), hlT, cons_sz, HF.out.2.2.2.2.1, HF.out.2.2.2.2.2.1, HF.out.2.2.2.1]
              rfl
            have SPO : Hid ((splits lT && okS lT) = true ∧ headT lT = t0 ∧ restT lT = t1 ∧ szS lT = a0 + a1 + 1 ∧ okS lT = true) := ⟨hspl, hhd, hrs, hszl, by rw [hlT]; exact hoc⟩
            clear hoc hlT hspl hhd hrs hszl HOC2
            go_wp2_with (first | (refine load_G _ _ rfl _ _ rfl L10 rfl rfl ?_) | fail)
            refine Calls.mono (SP.out _ V7'.out) ?_
            rintro e w6 ⟨cs, cs', h7, h7', rfl, hin, hin', h6⟩
            rw [SPO.out.1, SPO.out.2.1] at hin
            rw [SPO.out.1, SPO.out.2.2.1] at hin'
            rw [SPO.out.1]
            obtain ⟨x0, x1, x2, x3, x4, x5, x6, rfl⟩ := list7 h7
            obtain ⟨y0, y1, y2, y3, y4, y5, y6, rfl⟩ := list7 h7'
            have hone1 := hin.one
            have hone2 := hin'.one
            have HIX : Hid (In w6 (d + 2) [x0, x1, x2, x3, x4, x5, x6] t0) := hin
            have HIY : Hid (In w6 (d + 2) [y0, y1, y2, y3, y4, y5, y6] t1) := hin'
            have A11 := ((A10.mono h6 (by simp)).old (.cells #[.int .u8 0, .bool false, .slice none 0 0, .string ⟨#[]⟩, .int .i64 0, .slice none 0 0, .slice none 0 0] 26)).old (.cells #[.int .u8 0, .bool false, .slice none 0 0, .string ⟨#[]⟩, .int .i64 0, .slice none 0 0, .slice none 0 0] 26)
            have B11 := ((B10.mono h6 (by simp)).old (.cells #[.int .u8 0, .bool false, .slice none 0 0, .string ⟨#[]⟩, .int .i64 0, .slice none 0 0, .slice none 0 0] 26)).old (.cells #[.int .u8 0, .bool false, .slice none 0 0, .string ⟨#[]⟩, .int .i64 0, .slice none 0 0, .slice none 0 0] 26)
            have L11 := ((L10.mono h6 (by simp)).old (.cells #[.int .u8 0, .bool false, .slice none 0 0, .string ⟨#[]⟩, .int .i64 0, .slice none 0 0, .slice none 0 0] 26)).old (.cells #[.int .u8 0, .bool false, .slice none 0 0, .string ⟨#[]⟩, .int .i64 0, .slice none 0 0, .slice none 0 0] 26)
            have X1 : Tb ((w6.alloc (.cells #[.int .u8 0, .bool false, .slice none 0 0, .string ⟨#[]⟩, .int .i64 0, .slice none 0 0, .slice none 0 0] 26)).alloc (.cells #[.int .u8 0, .bool false, .slice none 0 0, .string ⟨#[]⟩, .int .i64 0, .slice none 0 0, .slice none 0 0] 26)) w6.heap.size #[.int .u8 0, .bool false, .slice none 0 0, .string ⟨#[]⟩, .int .i64 0, .slice none 0 0, .slice none 0 0] := (Tb.new _ _ _ rfl).old _
            have Y1 : Tb ((w6.alloc (.cells #[.int .u8 0, .bool false, .slice none 0 0, .string ⟨#[]⟩, .int .i64 0, .slice none 0 0, .slice none 0 0] 26)).alloc (.cells #[.int .u8 0, .bool false, .slice none 0 0, .string ⟨#[]⟩, .int .i64 0, .slice none 0 0, .slice none 0 0] 26)) (w6.heap.size + 1) #[.int .u8 0, .bool false, .slice none 0 0, .string ⟨#[]⟩, .int .i64 0, .slice none 0 0, .slice none 0 0] := Tb.new _ _ _ (by simp)
            have n1 : w.heap.size < w6.heap.size := Nat.lt_of_lt_of_le A10.lt h6.size
            have n2 : w.heap.size + 1 < w6.heap.size := Nat.lt_of_lt_of_le B10.lt h6.size
            have n3 : lb < w6.heap.size := Nat.lt_of_lt_of_le L10.lt h6.size
            have U8 : Hid (Upd [] w w6) := U7.out.trans h6
            have W8 : Hid (Upd [] w3 w6) := V7'.out.trans h6
            clear hin hin' h6 A10 B10 L10 h7 h7' kB kL SP
            go_wp2_with (first | (refine store_T _ rfl _ _ rfl _ #[x0, x1, x2, x3, x4, x5, x6] _ rfl rfl X1 rfl rfl hone1 ?_; intro w7 X2 hs7; have Y2 := Y1.mono hs7 (by simp)) | (refine store_T _ rfl _ _ rfl _ #[y0, y1, y2, y3, y4, y5, y6] _ rfl rfl Y2 rfl rfl hone2 ?_; intro w8 Y3 hs8))
            have X3 := X2.mono hs8 (by simp)
            have A12 := (A11.mono hs7 (by simp; omega)).mono hs8 (by simp; omega)
            have B12 := (B11.mono hs7 (by simp; omega)).mono hs8 (by simp; omega)
            have L12 := (L11.mono hs7 (by simp; omega)).mono hs8 (by simp; omega)
            have h68 : Upd [] w6 w8 := ((((Upd.refl [] w6).alloc _).alloc _).then hs7 (by simp)).then hs8 (by simp)
            have UB : Hid (Upd [] w w8) := U8.out.trans h68
            have U38 : Hid (Upd [] w3 w8) := W8.out.trans h68
            have IX : Hid (In w8 (d + 2) [x0, x1, x2, x3, x4, x5, x6] t0) := In.mono h68 _ _ _ HIX.out
            have IY : Hid (In w8 (d + 2) [y0, y1, y2, y3, y4, y5, y6] t1) := In.mono h68 _ _ _ HIY.out
            obtain ⟨xb, hxb⟩ : ∃ xb, xb = w6.heap.size := ⟨_, rfl⟩
            rw [← hxb] at X3 Y3 n1 n2 n3 ⊢
            obtain ⟨sl, hsl⟩ : ∃ s, s = str (txS (consI t0 nilT)) := ⟨_, rfl⟩
            obtain ⟨s0, hs0⟩ : ∃ s, s = str (txS t0) := ⟨_, rfl⟩
            have hcn : okS (consI t0 nilT) = true := by
              rw [cons_okS t0 nilT HF.out.1 nil_okS, nil_sz, HF.out.2.2.2.2.1]
              have := HF.out.2.2.2.2.2.2.1
              exact decide_eq_true (by rw [if_pos (show nilT.kd = 7 from rfl)]; omega)
            have hsl2 : sl = str (91 :: (txT t0 ++ [93])) := by rw [hsl, txS_ok hcn, cons_nil, tx_one]
            have hs02 : s0 = str (txT t0) := by rw [hs0, txS_ok HF.out.1]
            have hln : s0.size ≤ 140737488355328 := by rw [hs02, str_size]; exact tx_short t0 HF.out.1 (In.dig _ _ _ IA.out)
            obtain ⟨sA, hsA⟩ : ∃ s, s = (⟨#[91]⟩ : ByteArray) ++ s0 := ⟨_, rfl⟩
            have hsB : sl = sA ++ (⟨#[93]⟩ : ByteArray) := by
              rw [hsA, hsl2, hs02]
              show str _ = (ByteArray.mk [91].toArray ++ ByteArray.mk (txT t0).toArray) ++ ByteArray.mk [93].toArray
              rw [ByteArray.mk_append_mk, ByteArray.mk_append_mk]
              rfl
            have hzA : sA.size = 1 + s0.size := by rw [hsA, ByteArray.size_append]; rfl
            have hA1 : ∀ w : World, (Op.stringOp .add ⟨#[91]⟩ s0).run Tryd.prog w = .ok (.string sA) w := fun w => by rw [hsA]; exact run_string_add_sum w _ _ (by have : (ByteArray.mk #[91]).size = 1 := rfl; omega)
            have hA2 : ∀ w : World, (Op.stringOp .add sA ⟨#[93]⟩).run Tryd.prog w = .ok (.string sl) w := fun w => by rw [hsB]; exact run_string_add_sum w _ _ (by have : (ByteArray.mk #[93]).size = 1 := rfl; omega)
            clear hsB hzA hsA
            have SA : Hid (∀ W, Upd [] w8 W → Calls Tryd.prog 11 #[.agg #[x0, x1, x2, x3, x4, x5, x6], .agg #[q0, q1, q2, q3, q4, q5, q6]] W fun e w' => e = .returned (.bool true) ∧ Upd [] W w') := fun W hu => sam_call (In.mono hu _ _ _ IX.out) (In.more _ _ _ (In.mono (UB.out.trans hu) _ _ _ IA.out)) (okS_tsz HF.out.1)
            have SB : Hid (∀ W, Upd [] w8 W → Calls Tryd.prog 11 #[.agg #[y0, y1, y2, y3, y4, y5, y6], .agg #[.int .u8 7, p1, p2, p3, p4, .slice ai nI ci, p6]] W fun e w' => e = .returned (.bool true) ∧ Upd [] W w') := fun W hu => sam_call (In.mono hu _ _ _ IY.out) (In.more _ _ _ (In.mono (UB.out.trans hu) _ _ _ IB.out)) (okS_tsz HF.out.2.1)
            have ZL : Hid (∀ W, Upd [] w8 W → Calls Tryd.prog 14 #[.agg #[.int .u8 7, l1, l2, l3, l4, l5, l6]] W fun e w' => e = .returned (.int .i64 (((a0 : Int) + (a1 : Int) + 1))) ∧ Upd [] W w') := fun W hu => by
              have h := size_call (In.mono (U38.out.trans hu) _ _ _ IL.out) (okS_tsz SPO.out.2.2.2.2) SPO.out.2.2.2.1
              rw [show ((a0 + a1 + 1 : Nat) : Int) = ((a0 : Int) + (a1 : Int) + 1) by omega] at h
              exact h
            have HCO : Hid (∀ W, Upd [] w8 W → Calls Tryd.prog 13 #[.agg #[q0, q1, q2, q3, q4, q5, q6], .agg #[.int .u8 7, .bool false, .slice none 0 0, .string ⟨#[]⟩, .int .i64 0, .slice none 0 0, .slice none 0 0]] W (ConsP W (d + 2) (consI t0 nilT))) := fun W hu => by
              have h := Cons_in d W _ _ t0 nilT (In.mono (UB.out.trans hu) _ _ _ IA.out) (nil_in W d) (okS_tsz HF.out.1) (okS_tsz nil_okS)
              rw [consS_ok HF.out.1 nil_okS hcn] at h
              exact h
            have TX1 : Hid (∀ W cs, Upd [] w8 W → In W (d + 2) cs (consI t0 nilT) → Calls Tryd.prog 16 #[.agg cs.toArray] W fun e w' => e = .returned (.string sl) ∧ Upd [] W w') := fun W cs hu hi => by rw [hsl]; exact TText_any (d + 2) W _ _ hi (okS_tsz hcn) (HG.out.mono (UB.out.trans hu))
            have TX0 : Hid (∀ W, Upd [] w8 W → Calls Tryd.prog 16 #[.agg #[q0, q1, q2, q3, q4, q5, q6]] W fun e w' => e = .returned (.string s0) ∧ Upd [] W w') := fun W hu => by rw [hs0]; exact TText_any (d + 1) W _ _ (In.mono (UB.out.trans hu) _ _ _ IA.out) (okS_tsz HF.out.1) (HG.out.mono (UB.out.trans hu))
            have HS : Hid (∀ w', Upd [] w8 w' → w'.cell? ⟨xb, 0, none⟩ = some (x0) ∧ w'.cell? ⟨xb, 1, none⟩ = some (x1) ∧ w'.cell? ⟨xb, 2, none⟩ = some (x2) ∧ w'.cell? ⟨xb, 3, none⟩ = some (x3) ∧ w'.cell? ⟨xb, 4, none⟩ = some (x4) ∧ w'.cell? ⟨xb, 5, none⟩ = some (x5) ∧ w'.cell? ⟨xb, 6, none⟩ = some (x6) ∧ w'.cell? ⟨xb + 1, 0, none⟩ = some (y0) ∧ w'.cell? ⟨xb + 1, 1, none⟩ = some (y1) ∧ w'.cell? ⟨xb + 1, 2, none⟩ = some (y2) ∧ w'.cell? ⟨xb + 1, 3, none⟩ = some (y3) ∧ w'.cell? ⟨xb + 1, 4, none⟩ = some (y4) ∧ w'.cell? ⟨xb + 1, 5, none⟩ = some (y5) ∧ w'.cell? ⟨xb + 1, 6, none⟩ = some (y6) ∧ w'.cell? ⟨w.heap.size, 0, none⟩ = some (q0) ∧ w'.cell? ⟨w.heap.size, 1, none⟩ = some (q1) ∧ w'.cell? ⟨w.heap.size, 2, none⟩ = some (q2) ∧ w'.cell? ⟨w.heap.size, 3, none⟩ = some (q3) ∧ w'.cell? ⟨w.heap.size, 4, none⟩ = some (q4) ∧ w'.cell? ⟨w.heap.size, 5, none⟩ = some (q5) ∧ w'.cell? ⟨w.heap.size, 6, none⟩ = some (q6) ∧ w'.cell? ⟨w.heap.size + 1, 0, none⟩ = some (.int .u8 7) ∧ w'.cell? ⟨w.heap.size + 1, 1, none⟩ = some (p1) ∧ w'.cell? ⟨w.heap.size + 1, 2, none⟩ = some (p2) ∧ w'.cell? ⟨w.heap.size + 1, 3, none⟩ = some (p3) ∧ w'.cell? ⟨w.heap.size + 1, 4, none⟩ = some (p4) ∧ w'.cell? ⟨w.heap.size + 1, 5, none⟩ = some (.slice ai nI ci) ∧ w'.cell? ⟨w.heap.size + 1, 6, none⟩ = some (p6) ∧ w'.cell? ⟨lb, 0, none⟩ = some (.int .u8 7) ∧ w'.cell? ⟨lb, 1, none⟩ = some (l1) ∧ w'.cell? ⟨lb, 2, none⟩ = some (l2) ∧ w'.cell? ⟨lb, 3, none⟩ = some (l3) ∧ w'.cell? ⟨lb, 4, none⟩ = some (l4) ∧ w'.cell? ⟨lb, 5, none⟩ = some (l5) ∧ w'.cell? ⟨lb, 6, none⟩ = some (l6)) := fun w' hu => ⟨(X3.mono hu (by simp)).cell 0, (X3.mono hu (by simp)).cell 1, (X3.mono hu (by simp)).cell 2, (X3.mono hu (by simp)).cell 3, (X3.mono hu (by simp)).cell 4, (X3.mono hu (by simp)).cell 5, (X3.mono hu (by simp)).cell 6, (Y3.mono hu (by simp)).cell 0, (Y3.mono hu (by simp)).cell 1, (Y3.mono hu (by simp)).cell 2, (Y3.mono hu (by simp)).cell 3, (Y3.mono hu (by simp)).cell 4, (Y3.mono hu (by simp)).cell 5, (Y3.mono hu (by simp)).cell 6, (A12.mono hu (by simp)).cell 0, (A12.mono hu (by simp)).cell 1, (A12.mono hu (by simp)).cell 2, (A12.mono hu (by simp)).cell 3, (A12.mono hu (by simp)).cell 4, (A12.mono hu (by simp)).cell 5, (A12.mono hu (by simp)).cell 6, (B12.mono hu (by simp)).cell 0, (B12.mono hu (by simp)).cell 1, (B12.mono hu (by simp)).cell 2, (B12.mono hu (by simp)).cell 3, (B12.mono hu (by simp)).cell 4, (B12.mono hu (by simp)).cell 5, (B12.mono hu (by simp)).cell 6, (L12.mono hu (by simp)).cell 0, (L12.mono hu (by simp)).cell 1, (L12.mono hu (by simp)).cell 2, (L12.mono hu (by simp)).cell 3, (L12.mono hu (by simp)).cell 4, (L12.mono hu (by simp)).cell 5, (L12.mono hu (by simp)).cell 6⟩
            have UC : Hid (Upd [] w8 w8) := Upd.refl [] w8
            have V60 : Hid True := trivial
            have TA : Hid (Tb w8 _ _) := A12
            have TB : Hid (Tb w8 _ _) := B12
            clear hcn hsl hsl2 hs0 hs02 A11 B11 L11 A12 B12 L12 X1 Y1 X2 Y2 X3 Y3 hs7 hs8 h68 U8 W8 HIX HIY hxb
            go_wp2_with fail
            go_region_held3 (fun w' => w'.cell? ⟨xb, 0, none⟩ = some (x0) ∧ w'.cell? ⟨xb, 1, none⟩ = some (x1) ∧ w'.cell? ⟨xb, 2, none⟩ = some (x2) ∧ w'.cell? ⟨xb, 3, none⟩ = some (x3) ∧ w'.cell? ⟨xb, 4, none⟩ = some (x4) ∧ w'.cell? ⟨xb, 5, none⟩ = some (x5) ∧ w'.cell? ⟨xb, 6, none⟩ = some (x6) ∧ w'.cell? ⟨xb + 1, 0, none⟩ = some (y0) ∧ w'.cell? ⟨xb + 1, 1, none⟩ = some (y1) ∧ w'.cell? ⟨xb + 1, 2, none⟩ = some (y2) ∧ w'.cell? ⟨xb + 1, 3, none⟩ = some (y3) ∧ w'.cell? ⟨xb + 1, 4, none⟩ = some (y4) ∧ w'.cell? ⟨xb + 1, 5, none⟩ = some (y5) ∧ w'.cell? ⟨xb + 1, 6, none⟩ = some (y6) ∧ w'.cell? ⟨w.heap.size, 0, none⟩ = some (q0) ∧ w'.cell? ⟨w.heap.size, 1, none⟩ = some (q1) ∧ w'.cell? ⟨w.heap.size, 2, none⟩ = some (q2) ∧ w'.cell? ⟨w.heap.size, 3, none⟩ = some (q3) ∧ w'.cell? ⟨w.heap.size, 4, none⟩ = some (q4) ∧ w'.cell? ⟨w.heap.size, 5, none⟩ = some (q5) ∧ w'.cell? ⟨w.heap.size, 6, none⟩ = some (q6) ∧ w'.cell? ⟨w.heap.size + 1, 0, none⟩ = some (.int .u8 7) ∧ w'.cell? ⟨w.heap.size + 1, 1, none⟩ = some (p1) ∧ w'.cell? ⟨w.heap.size + 1, 2, none⟩ = some (p2) ∧ w'.cell? ⟨w.heap.size + 1, 3, none⟩ = some (p3) ∧ w'.cell? ⟨w.heap.size + 1, 4, none⟩ = some (p4) ∧ w'.cell? ⟨w.heap.size + 1, 5, none⟩ = some (.slice ai nI ci) ∧ w'.cell? ⟨w.heap.size + 1, 6, none⟩ = some (p6) ∧ w'.cell? ⟨lb, 0, none⟩ = some (.int .u8 7) ∧ w'.cell? ⟨lb, 1, none⟩ = some (l1) ∧ w'.cell? ⟨lb, 2, none⟩ = some (l2) ∧ w'.cell? ⟨lb, 3, none⟩ = some (l3) ∧ w'.cell? ⟨lb, 4, none⟩ = some (l4) ∧ w'.cell? ⟨lb, 5, none⟩ = some (l5) ∧ w'.cell? ⟨lb, 6, none⟩ = some (l6))
              (first | exact HS.out _ UC.out | exact HS.out _ UC.out.drew | exact HS.out _ (UC.out.alloc _))
              (first
                | (go_at_call 16; (have _ := V65); go_loud (refine Calls.mono (TX0.out _ ((Upd.trans UC.out (by repeat (first | with_reducible exact Upd.refl _ _ | with_reducible refine Upd.drew ?_ | with_reducible refine Upd.alloc ?_ _))))) ?_); rintro e v66 ⟨rfl, h66⟩; have V66 : Hid (Upd [] v65 v66) := Upd.trans (by repeat (first | with_reducible exact Upd.refl _ _ | with_reducible refine Upd.drew ?_ | with_reducible refine Upd.alloc ?_ _)) h66; have UC : Hid (Upd [] w8 v66) := UC.out.trans V66.out; clear h66)
                | (go_at_call 16; (have _ := V64); go_loud (refine Calls.mono (TX1.out _ _ UC.out IC.out) ?_); rintro e v65 ⟨rfl, h65⟩; have V65 : Hid (Upd [] v64 v65) := Upd.trans (by repeat (first | with_reducible exact Upd.refl _ _ | with_reducible refine Upd.drew ?_ | with_reducible refine Upd.alloc ?_ _)) h65; have UC : Hid (Upd [] w8 v65) := UC.out.trans V65.out; clear h65)
                | (go_at_call 13; (have _ := V63); go_loud (refine Calls.mono (HCO.out _ ((Upd.trans UC.out (by repeat (first | with_reducible exact Upd.refl _ _ | with_reducible refine Upd.drew ?_ | with_reducible refine Upd.alloc ?_ _))))) ?_); rintro e v64 ⟨cc, lc, rfl, ic, cq, h64⟩; have V64 : Hid (Upd [] v63 v64) := Upd.trans (by repeat (first | with_reducible exact Upd.refl _ _ | with_reducible refine Upd.drew ?_ | with_reducible refine Upd.alloc ?_ _)) h64; have IC : Hid (In v64 (d + 2) cc (consI t0 nilT)) := ic; obtain ⟨c0, c1, c2, c3, c4, c5, c6, rfl⟩ := list7 lc; clear lc ic cq; have UC : Hid (Upd [] w8 v64) := UC.out.trans V64.out; clear h64)
                | (go_at_call 14; (have _ := V62); go_loud (refine Calls.mono (ZL.out _ ((Upd.trans UC.out (by repeat (first | with_reducible exact Upd.refl _ _ | with_reducible refine Upd.drew ?_ | with_reducible refine Upd.alloc ?_ _))))) ?_); rintro e v63 ⟨rfl, h63⟩; have V63 : Hid (Upd [] v62 v63) := Upd.trans (by repeat (first | with_reducible exact Upd.refl _ _ | with_reducible refine Upd.drew ?_ | with_reducible refine Upd.alloc ?_ _)) h63; have UC : Hid (Upd [] w8 v63) := UC.out.trans V63.out; clear h63)
                | (go_at_call 11; (have _ := V61); go_loud (refine Calls.mono (SB.out _ ((Upd.trans UC.out (by repeat (first | with_reducible exact Upd.refl _ _ | with_reducible refine Upd.drew ?_ | with_reducible refine Upd.alloc ?_ _))))) ?_); rintro e v62 ⟨rfl, h62⟩; have V62 : Hid (Upd [] v61 v62) := Upd.trans (by repeat (first | with_reducible exact Upd.refl _ _ | with_reducible refine Upd.drew ?_ | with_reducible refine Upd.alloc ?_ _)) h62; have UC : Hid (Upd [] w8 v62) := UC.out.trans V62.out; clear h62)
                | (go_at_call 11; (have _ := V60); go_loud (refine Calls.mono (SA.out _ ((Upd.trans UC.out (by repeat (first | with_reducible exact Upd.refl _ _ | with_reducible refine Upd.drew ?_ | with_reducible refine Upd.alloc ?_ _))))) ?_); rintro e v61 ⟨rfl, h61⟩; have V61 : Hid (Upd [] w8 v61) := Upd.trans (by repeat (first | with_reducible exact Upd.refl _ _ | with_reducible refine Upd.drew ?_ | with_reducible refine Upd.alloc ?_ _)) h61; have UC : Hid (Upd [] w8 v61) := UC.out.trans V61.out; clear h61))
            have B20 := TB.out.mono UC.out (by simp)
            have U20 : Hid (Upd [] w v66) := UB.out.trans UC.out
            clear HS UC UB V60 V61 V62 V63 V64 V65 V66 SA SB ZL HCO TX1 TX0 TA TB hA1 hA2 IX IY IC
            go_wp2_with (first | (refine load_G _ _ rfl _ _ rfl B20 rfl rfl ?_) | fail)
            refine Calls.mono (SQ.out _ U20.out) ?_
            rintro e u1 ⟨cs, cs', h7, h7', rfl, hin, hin', h6⟩
            by_cases hpos : 0 < nI
            · have hn1 : (0 : Int) < (nI : Int) := by omega
              have hsp1 : splits t1 = true := by rw [HF.out.2.2.2.2.2.2.2.1]; simp [hpos]
              have hb : (splits t1 && okS t1) = true := by rw [hsp1, HF.out.2.1]; rfl
              rw [hb] at hin hin' ⊢
              obtain ⟨m0, m1, m2, m3, m4, m5, m6, rfl⟩ := list7 h7
              obtain ⟨r0, r1, r2, r3, r4, r5, r6, rfl⟩ := list7 h7'
              have hone1 := hin.one
              have hone2 := hin'.one
              have HIM : Hid (In u1 (d + 2) [m0, m1, m2, m3, m4, m5, m6] (pickT true (headT t1))) := hin
              have HIR : Hid (In u1 (d + 2) [r0, r1, r2, r3, r4, r5, r6] (pickT true (restT t1))) := hin'
              have B21 := ((B20.mono h6 (by simp)).old (.cells #[.int .u8 0, .bool false, .slice none 0 0, .string ⟨#[]⟩, .int .i64 0, .slice none 0 0, .slice none 0 0] 26)).old (.cells #[.int .u8 0, .bool false, .slice none 0 0, .string ⟨#[]⟩, .int .i64 0, .slice none 0 0, .slice none 0 0] 26)
              have M1 : Tb ((u1.alloc (.cells #[.int .u8 0, .bool false, .slice none 0 0, .string ⟨#[]⟩, .int .i64 0, .slice none 0 0, .slice none 0 0] 26)).alloc (.cells #[.int .u8 0, .bool false, .slice none 0 0, .string ⟨#[]⟩, .int .i64 0, .slice none 0 0, .slice none 0 0] 26)) u1.heap.size #[.int .u8 0, .bool false, .slice none 0 0, .string ⟨#[]⟩, .int .i64 0, .slice none 0 0, .slice none 0 0] := (Tb.new _ _ _ rfl).old _
              have R1 : Tb ((u1.alloc (.cells #[.int .u8 0, .bool false, .slice none 0 0, .string ⟨#[]⟩, .int .i64 0, .slice none 0 0, .slice none 0 0] 26)).alloc (.cells #[.int .u8 0, .bool false, .slice none 0 0, .string ⟨#[]⟩, .int .i64 0, .slice none 0 0, .slice none 0 0] 26)) (u1.heap.size + 1) #[.int .u8 0, .bool false, .slice none 0 0, .string ⟨#[]⟩, .int .i64 0, .slice none 0 0, .slice none 0 0] := Tb.new _ _ _ (by simp)
              have n5 : w.heap.size + 1 < u1.heap.size := Nat.lt_of_lt_of_le B20.lt h6.size
              have U21 : Hid (Upd [] w u1) := U20.out.trans h6
              clear hin hin' h6 B20 h7 h7' SQ
              go_wp2_with (first | (refine store_T _ rfl _ _ rfl _ #[m0, m1, m2, m3, m4, m5, m6] _ rfl rfl M1 rfl rfl hone1 ?_; intro u2 M2 hs2; have R2 := R1.mono hs2 (by simp)) | (refine store_T _ rfl _ _ rfl _ #[r0, r1, r2, r3, r4, r5, r6] _ rfl rfl R2 rfl rfl hone2 ?_; intro u3 R3 hs3))
              have M3 := M2.mono hs3 (by simp)
              have B22 := (B21.mono hs2 (by simp; omega)).mono hs3 (by simp; omega)
              have h13 : Upd [] u1 u3 := ((((Upd.refl [] u1).alloc _).alloc _).then hs2 (by simp)).then hs3 (by simp)
              have UBB : Hid (Upd [] w u3) := U21.out.trans h13
              have IM : Hid (In u3 (d + 2) [m0, m1, m2, m3, m4, m5, m6] (headT t1)) := In.mono h13 _ _ _ HIM.out
              have IR : Hid (In u3 (d + 2) [r0, r1, r2, r3, r4, r5, r6] (restT t1)) := In.mono h13 _ _ _ HIR.out
              obtain ⟨ok1, ok2, ok3⟩ := parts_ok t1 HF.out.2.1 hsp1
              have HCP : Hid (∀ W, Upd [] u3 W → Calls Tryd.prog 13 #[.agg #[m0, m1, m2, m3, m4, m5, m6], .agg #[r0, r1, r2, r3, r4, r5, r6]] W (ConsP W (d + 3) t1)) := fun W hu => by
                have h := Cons_in (d + 1) W _ _ (headT t1) (restT t1) (In.mono hu _ _ _ IM.out) (In.mono hu _ _ _ IR.out) (okS_tsz ok1) (okS_tsz ok2)
                rw [consS_ok ok1 ok2 (by rw [ok3]; exact HF.out.2.1), ok3] at h
                exact h
              have HSM : Hid (∀ W cs, Upd [] u3 W → In W (d + 3) cs t1 → Calls Tryd.prog 11 #[.agg cs.toArray, .agg #[.int .u8 7, p1, p2, p3, p4, .slice ai nI ci, p6]] W fun e w' => e = .returned (.bool true) ∧ Upd [] W w') := fun W cs hu hi => sam_call hi (In.more _ _ _ (In.more _ _ _ (In.mono (UBB.out.trans hu) _ _ _ IB.out))) (okS_tsz HF.out.2.1)
              obtain ⟨mb, hmb⟩ : ∃ mb, mb = u1.heap.size := ⟨_, rfl⟩
              rw [← hmb] at M3 R3 n5 ⊢
              have HS : Hid (∀ w', Upd [] u3 w' → w'.cell? ⟨mb, 0, none⟩ = some (m0) ∧ w'.cell? ⟨mb, 1, none⟩ = some (m1) ∧ w'.cell? ⟨mb, 2, none⟩ = some (m2) ∧ w'.cell? ⟨mb, 3, none⟩ = some (m3) ∧ w'.cell? ⟨mb, 4, none⟩ = some (m4) ∧ w'.cell? ⟨mb, 5, none⟩ = some (m5) ∧ w'.cell? ⟨mb, 6, none⟩ = some (m6) ∧ w'.cell? ⟨mb + 1, 0, none⟩ = some (r0) ∧ w'.cell? ⟨mb + 1, 1, none⟩ = some (r1) ∧ w'.cell? ⟨mb + 1, 2, none⟩ = some (r2) ∧ w'.cell? ⟨mb + 1, 3, none⟩ = some (r3) ∧ w'.cell? ⟨mb + 1, 4, none⟩ = some (r4) ∧ w'.cell? ⟨mb + 1, 5, none⟩ = some (r5) ∧ w'.cell? ⟨mb + 1, 6, none⟩ = some (r6) ∧ w'.cell? ⟨w.heap.size + 1, 0, none⟩ = some (.int .u8 7) ∧ w'.cell? ⟨w.heap.size + 1, 1, none⟩ = some (p1) ∧ w'.cell? ⟨w.heap.size + 1, 2, none⟩ = some (p2) ∧ w'.cell? ⟨w.heap.size + 1, 3, none⟩ = some (p3) ∧ w'.cell? ⟨w.heap.size + 1, 4, none⟩ = some (p4) ∧ w'.cell? ⟨w.heap.size + 1, 5, none⟩ = some (.slice ai nI ci) ∧ w'.cell? ⟨w.heap.size + 1, 6, none⟩ = some (p6)) := fun w' hu => ⟨(M3.mono hu (by simp)).cell 0, (M3.mono hu (by simp)).cell 1, (M3.mono hu (by simp)).cell 2, (M3.mono hu (by simp)).cell 3, (M3.mono hu (by simp)).cell 4, (M3.mono hu (by simp)).cell 5, (M3.mono hu (by simp)).cell 6, (R3.mono hu (by simp)).cell 0, (R3.mono hu (by simp)).cell 1, (R3.mono hu (by simp)).cell 2, (R3.mono hu (by simp)).cell 3, (R3.mono hu (by simp)).cell 4, (R3.mono hu (by simp)).cell 5, (R3.mono hu (by simp)).cell 6, (B22.mono hu (by simp)).cell 0, (B22.mono hu (by simp)).cell 1, (B22.mono hu (by simp)).cell 2, (B22.mono hu (by simp)).cell 3, (B22.mono hu (by simp)).cell 4, (B22.mono hu (by simp)).cell 5, (B22.mono hu (by simp)).cell 6⟩
              have UC : Hid (Upd [] u3 u3) := Upd.refl [] u3
              have V70 : Hid True := trivial
              clear B21 B22 M1 R1 M2 R2 M3 R3 hs2 hs3 h13 U21 HIM HIR hmb ok1 ok2 ok3 hsp1
              go_wp2_with fail
              go_region_held3 (fun w' => w'.cell? ⟨mb, 0, none⟩ = some (m0) ∧ w'.cell? ⟨mb, 1, none⟩ = some (m1) ∧ w'.cell? ⟨mb, 2, none⟩ = some (m2) ∧ w'.cell? ⟨mb, 3, none⟩ = some (m3) ∧ w'.cell? ⟨mb, 4, none⟩ = some (m4) ∧ w'.cell? ⟨mb, 5, none⟩ = some (m5) ∧ w'.cell? ⟨mb, 6, none⟩ = some (m6) ∧ w'.cell? ⟨mb + 1, 0, none⟩ = some (r0) ∧ w'.cell? ⟨mb + 1, 1, none⟩ = some (r1) ∧ w'.cell? ⟨mb + 1, 2, none⟩ = some (r2) ∧ w'.cell? ⟨mb + 1, 3, none⟩ = some (r3) ∧ w'.cell? ⟨mb + 1, 4, none⟩ = some (r4) ∧ w'.cell? ⟨mb + 1, 5, none⟩ = some (r5) ∧ w'.cell? ⟨mb + 1, 6, none⟩ = some (r6) ∧ w'.cell? ⟨w.heap.size + 1, 0, none⟩ = some (.int .u8 7) ∧ w'.cell? ⟨w.heap.size + 1, 1, none⟩ = some (p1) ∧ w'.cell? ⟨w.heap.size + 1, 2, none⟩ = some (p2) ∧ w'.cell? ⟨w.heap.size + 1, 3, none⟩ = some (p3) ∧ w'.cell? ⟨w.heap.size + 1, 4, none⟩ = some (p4) ∧ w'.cell? ⟨w.heap.size + 1, 5, none⟩ = some (.slice ai nI ci) ∧ w'.cell? ⟨w.heap.size + 1, 6, none⟩ = some (p6))
                (first | exact HS.out _ UC.out | exact HS.out _ UC.out.drew | exact HS.out _ (UC.out.alloc _))
                (first
                  | (go_at_call 11; (have _ := V71); go_loud (refine Calls.mono (HSM.out _ _ UC.out IE.out) ?_); rintro e v72 ⟨rfl, h72⟩; have V72 : Hid (Upd [] v71 v72) := Upd.trans (by repeat (first | with_reducible exact Upd.refl _ _ | with_reducible refine Upd.drew ?_ | with_reducible refine Upd.alloc ?_ _)) h72; have UC : Hid (Upd [] u3 v72) := UC.out.trans V72.out; clear h72)
                  | (go_at_call 13; (have _ := V70); go_loud (refine Calls.mono (HCP.out _ ((Upd.trans UC.out (by repeat (first | with_reducible exact Upd.refl _ _ | with_reducible refine Upd.drew ?_ | with_reducible refine Upd.alloc ?_ _))))) ?_); rintro e v71 ⟨cc, lc, rfl, ic, cq, h71⟩; have V71 : Hid (Upd [] u3 v71) := Upd.trans (by repeat (first | with_reducible exact Upd.refl _ _ | with_reducible refine Upd.drew ?_ | with_reducible refine Upd.alloc ?_ _)) h71; have IE : Hid (In v71 (d + 3) cc t1) := ic; obtain ⟨c0, c1, c2, c3, c4, c5, c6, rfl⟩ := list7 lc; clear lc ic cq; have UC : Hid (Upd [] u3 v71) := UC.out.trans V71.out; clear h71))
              go_wp2
              go_ret
              exact ⟨rfl, UBB.out.trans UC.out⟩
            · obtain rfl : nI = 0 := by omega
              have hb : (splits t1 && okS t1) = false := by rw [HF.out.2.2.2.2.2.2.2.1]; simp
              rw [hb] at hin hin' ⊢
              obtain ⟨m0, m1, m2, m3, m4, m5, m6, rfl⟩ := list7 h7
              obtain ⟨r0, r1, r2, r3, r4, r5, r6, rfl⟩ := list7 h7'
              have hone1 := hin.one
              have hone2 := hin'.one
              have HIM : Hid (In u1 (d + 2) [m0, m1, m2, m3, m4, m5, m6] (pickT false (headT t1))) := hin
              have HIR : Hid (In u1 (d + 2) [r0, r1, r2, r3, r4, r5, r6] (pickT false (restT t1))) := hin'
              have B21 := ((B20.mono h6 (by simp)).old (.cells #[.int .u8 0, .bool false, .slice none 0 0, .string ⟨#[]⟩, .int .i64 0, .slice none 0 0, .slice none 0 0] 26)).old (.cells #[.int .u8 0, .bool false, .slice none 0 0, .string ⟨#[]⟩, .int .i64 0, .slice none 0 0, .slice none 0 0] 26)
              have M1 : Tb ((u1.alloc (.cells #[.int .u8 0, .bool false, .slice none 0 0, .string ⟨#[]⟩, .int .i64 0, .slice none 0 0, .slice none 0 0] 26)).alloc (.cells #[.int .u8 0, .bool false, .slice none 0 0, .string ⟨#[]⟩, .int .i64 0, .slice none 0 0, .slice none 0 0] 26)) u1.heap.size #[.int .u8 0, .bool false, .slice none 0 0, .string ⟨#[]⟩, .int .i64 0, .slice none 0 0, .slice none 0 0] := (Tb.new _ _ _ rfl).old _
              have R1 : Tb ((u1.alloc (.cells #[.int .u8 0, .bool false, .slice none 0 0, .string ⟨#[]⟩, .int .i64 0, .slice none 0 0, .slice none 0 0] 26)).alloc (.cells #[.int .u8 0, .bool false, .slice none 0 0, .string ⟨#[]⟩, .int .i64 0, .slice none 0 0, .slice none 0 0] 26)) (u1.heap.size + 1) #[.int .u8 0, .bool false, .slice none 0 0, .string ⟨#[]⟩, .int .i64 0, .slice none 0 0, .slice none 0 0] := Tb.new _ _ _ (by simp)
              have n5 : w.heap.size + 1 < u1.heap.size := Nat.lt_of_lt_of_le B20.lt h6.size
              have U21 : Hid (Upd [] w u1) := U20.out.trans h6
              clear hin hin' h6 B20 h7 h7' SQ
              go_wp2_with (first | (refine store_T _ rfl _ _ rfl _ #[m0, m1, m2, m3, m4, m5, m6] _ rfl rfl M1 rfl rfl hone1 ?_; intro u2 M2 hs2; have R2 := R1.mono hs2 (by simp)) | (refine store_T _ rfl _ _ rfl _ #[r0, r1, r2, r3, r4, r5, r6] _ rfl rfl R2 rfl rfl hone2 ?_; intro u3 R3 hs3))
              have M3 := M2.mono hs3 (by simp)
              have B22 := (B21.mono hs2 (by simp; omega)).mono hs3 (by simp; omega)
              have h13 : Upd [] u1 u3 := ((((Upd.refl [] u1).alloc _).alloc _).then hs2 (by simp)).then hs3 (by simp)
              have UBB : Hid (Upd [] w u3) := U21.out.trans h13
              have kB2 : u3.cell? ⟨w.heap.size + 1, 0, none⟩ = some (.int .u8 7) := B22.cell 0
              have kI2 : u3.cell? ⟨w.heap.size + 1, 5, none⟩ = some (.slice ai 0 ci) := B22.cell 5
              clear B21 B22 M1 R1 M2 R2 R3 M3 hs2 hs3 h13 U21 HIM HIR
              go_wp2_with fail
              go_quiet (fail)
              go_wp2
              go_ret
              exact ⟨rfl, UBB.out.drewN _⟩
          · have hoc : okS (consI t0 t1) = false := by rw [HOC2.out]; exact decide_eq_false hfit
            have hlT : lT = zeroT := by rw [← HF.out.2.2.1]; exact consS_no (by rw [hoc, Bool.and_false])
            have hkl7 : kl = 0 := by rw [← HF.out.2.2.2.2.2.2.2.2, hlT]; rfl
            subst hkl7
            have hd : decide ((4096 : Int) < ((a0 : Int) + (a1 : Int) + 1)) = true := by simp; omega
            have hd2 : (4096 : Int) < ((a0 : Int) + (a1 : Int) + 1) := by omega
            clear hoc hlT HOC2
            go_wp2_with (first | (refine load_G _ _ rfl _ _ rfl B10 rfl rfl ?_) | fail)
            refine Calls.mono (SQ.out _ U7.out) ?_
            rintro e u1 ⟨cs, cs', h7, h7', rfl, hin, hin', h6⟩
            by_cases hpos : 0 < nI
            · have hn1 : (0 : Int) < (nI : Int) := by omega
              have hsp1 : splits t1 = true := by rw [HF.out.2.2.2.2.2.2.2.1]; simp [hpos]
              have hb : (splits t1 && okS t1) = true := by rw [hsp1, HF.out.2.1]; rfl
              rw [hb] at hin hin' ⊢
              obtain ⟨m0, m1, m2, m3, m4, m5, m6, rfl⟩ := list7 h7
              obtain ⟨r0, r1, r2, r3, r4, r5, r6, rfl⟩ := list7 h7'
              have hone1 := hin.one
              have hone2 := hin'.one
              have HIM : Hid (In u1 (d + 2) [m0, m1, m2, m3, m4, m5, m6] (pickT true (headT t1))) := hin
              have HIR : Hid (In u1 (d + 2) [r0, r1, r2, r3, r4, r5, r6] (pickT true (restT t1))) := hin'
              have B21 := ((B10.mono h6 (by simp)).old (.cells #[.int .u8 0, .bool false, .slice none 0 0, .string ⟨#[]⟩, .int .i64 0, .slice none 0 0, .slice none 0 0] 26)).old (.cells #[.int .u8 0, .bool false, .slice none 0 0, .string ⟨#[]⟩, .int .i64 0, .slice none 0 0, .slice none 0 0] 26)
              have M1 : Tb ((u1.alloc (.cells #[.int .u8 0, .bool false, .slice none 0 0, .string ⟨#[]⟩, .int .i64 0, .slice none 0 0, .slice none 0 0] 26)).alloc (.cells #[.int .u8 0, .bool false, .slice none 0 0, .string ⟨#[]⟩, .int .i64 0, .slice none 0 0, .slice none 0 0] 26)) u1.heap.size #[.int .u8 0, .bool false, .slice none 0 0, .string ⟨#[]⟩, .int .i64 0, .slice none 0 0, .slice none 0 0] := (Tb.new _ _ _ rfl).old _
              have R1 : Tb ((u1.alloc (.cells #[.int .u8 0, .bool false, .slice none 0 0, .string ⟨#[]⟩, .int .i64 0, .slice none 0 0, .slice none 0 0] 26)).alloc (.cells #[.int .u8 0, .bool false, .slice none 0 0, .string ⟨#[]⟩, .int .i64 0, .slice none 0 0, .slice none 0 0] 26)) (u1.heap.size + 1) #[.int .u8 0, .bool false, .slice none 0 0, .string ⟨#[]⟩, .int .i64 0, .slice none 0 0, .slice none 0 0] := Tb.new _ _ _ (by simp)
              have n5 : w.heap.size + 1 < u1.heap.size := Nat.lt_of_lt_of_le B10.lt h6.size
              have U21 : Hid (Upd [] w u1) := U7.out.trans h6
              clear hin hin' h6 B10 h7 h7' SQ
              go_wp2_with (first | (refine store_T _ rfl _ _ rfl _ #[m0, m1, m2, m3, m4, m5, m6] _ rfl rfl M1 rfl rfl hone1 ?_; intro u2 M2 hs2; have R2 := R1.mono hs2 (by simp)) | (refine store_T _ rfl _ _ rfl _ #[r0, r1, r2, r3, r4, r5, r6] _ rfl rfl R2 rfl rfl hone2 ?_; intro u3 R3 hs3))
              have M3 := M2.mono hs3 (by simp)
              have B22 := (B21.mono hs2 (by simp; omega)).mono hs3 (by simp; omega)
              have h13 : Upd [] u1 u3 := ((((Upd.refl [] u1).alloc _).alloc _).then hs2 (by simp)).then hs3 (by simp)
              have UBB : Hid (Upd [] w u3) := U21.out.trans h13
              have IM : Hid (In u3 (d + 2) [m0, m1, m2, m3, m4, m5, m6] (headT t1)) := In.mono h13 _ _ _ HIM.out
              have IR : Hid (In u3 (d + 2) [r0, r1, r2, r3, r4, r5, r6] (restT t1)) := In.mono h13 _ _ _ HIR.out
              obtain ⟨ok1, ok2, ok3⟩ := parts_ok t1 HF.out.2.1 hsp1
              have HCP : Hid (∀ W, Upd [] u3 W → Calls Tryd.prog 13 #[.agg #[m0, m1, m2, m3, m4, m5, m6], .agg #[r0, r1, r2, r3, r4, r5, r6]] W (ConsP W (d + 3) t1)) := fun W hu => by
                have h := Cons_in (d + 1) W _ _ (headT t1) (restT t1) (In.mono hu _ _ _ IM.out) (In.mono hu _ _ _ IR.out) (okS_tsz ok1) (okS_tsz ok2)
                rw [consS_ok ok1 ok2 (by rw [ok3]; exact HF.out.2.1), ok3] at h
                exact h
              have HSM : Hid (∀ W cs, Upd [] u3 W → In W (d + 3) cs t1 → Calls Tryd.prog 11 #[.agg cs.toArray, .agg #[.int .u8 7, p1, p2, p3, p4, .slice ai nI ci, p6]] W fun e w' => e = .returned (.bool true) ∧ Upd [] W w') := fun W cs hu hi => sam_call hi (In.more _ _ _ (In.more _ _ _ (In.mono (UBB.out.trans hu) _ _ _ IB.out))) (okS_tsz HF.out.2.1)
              obtain ⟨mb, hmb⟩ : ∃ mb, mb = u1.heap.size := ⟨_, rfl⟩
              rw [← hmb] at M3 R3 n5 ⊢
              have HS : Hid (∀ w', Upd [] u3 w' → w'.cell? ⟨mb, 0, none⟩ = some (m0) ∧ w'.cell? ⟨mb, 1, none⟩ = some (m1) ∧ w'.cell? ⟨mb, 2, none⟩ = some (m2) ∧ w'.cell? ⟨mb, 3, none⟩ = some (m3) ∧ w'.cell? ⟨mb, 4, none⟩ = some (m4) ∧ w'.cell? ⟨mb, 5, none⟩ = some (m5) ∧ w'.cell? ⟨mb, 6, none⟩ = some (m6) ∧ w'.cell? ⟨mb + 1, 0, none⟩ = some (r0) ∧ w'.cell? ⟨mb + 1, 1, none⟩ = some (r1) ∧ w'.cell? ⟨mb + 1, 2, none⟩ = some (r2) ∧ w'.cell? ⟨mb + 1, 3, none⟩ = some (r3) ∧ w'.cell? ⟨mb + 1, 4, none⟩ = some (r4) ∧ w'.cell? ⟨mb + 1, 5, none⟩ = some (r5) ∧ w'.cell? ⟨mb + 1, 6, none⟩ = some (r6) ∧ w'.cell? ⟨w.heap.size + 1, 0, none⟩ = some (.int .u8 7) ∧ w'.cell? ⟨w.heap.size + 1, 1, none⟩ = some (p1) ∧ w'.cell? ⟨w.heap.size + 1, 2, none⟩ = some (p2) ∧ w'.cell? ⟨w.heap.size + 1, 3, none⟩ = some (p3) ∧ w'.cell? ⟨w.heap.size + 1, 4, none⟩ = some (p4) ∧ w'.cell? ⟨w.heap.size + 1, 5, none⟩ = some (.slice ai nI ci) ∧ w'.cell? ⟨w.heap.size + 1, 6, none⟩ = some (p6)) := fun w' hu => ⟨(M3.mono hu (by simp)).cell 0, (M3.mono hu (by simp)).cell 1, (M3.mono hu (by simp)).cell 2, (M3.mono hu (by simp)).cell 3, (M3.mono hu (by simp)).cell 4, (M3.mono hu (by simp)).cell 5, (M3.mono hu (by simp)).cell 6, (R3.mono hu (by simp)).cell 0, (R3.mono hu (by simp)).cell 1, (R3.mono hu (by simp)).cell 2, (R3.mono hu (by simp)).cell 3, (R3.mono hu (by simp)).cell 4, (R3.mono hu (by simp)).cell 5, (R3.mono hu (by simp)).cell 6, (B22.mono hu (by simp)).cell 0, (B22.mono hu (by simp)).cell 1, (B22.mono hu (by simp)).cell 2, (B22.mono hu (by simp)).cell 3, (B22.mono hu (by simp)).cell 4, (B22.mono hu (by simp)).cell 5, (B22.mono hu (by simp)).cell 6⟩
              have UC : Hid (Upd [] u3 u3) := Upd.refl [] u3
              have V70 : Hid True := trivial
              clear B21 B22 M1 R1 M2 R2 M3 R3 hs2 hs3 h13 U21 HIM HIR hmb ok1 ok2 ok3 hsp1
              go_wp2_with fail
              go_region_held3 (fun w' => w'.cell? ⟨mb, 0, none⟩ = some (m0) ∧ w'.cell? ⟨mb, 1, none⟩ = some (m1) ∧ w'.cell? ⟨mb, 2, none⟩ = some (m2) ∧ w'.cell? ⟨mb, 3, none⟩ = some (m3) ∧ w'.cell? ⟨mb, 4, none⟩ = some (m4) ∧ w'.cell? ⟨mb, 5, none⟩ = some (m5) ∧ w'.cell? ⟨mb, 6, none⟩ = some (m6) ∧ w'.cell? ⟨mb + 1, 0, none⟩ = some (r0) ∧ w'.cell? ⟨mb + 1, 1, none⟩ = some (r1) ∧ w'.cell? ⟨mb + 1, 2, none⟩ = some (r2) ∧ w'.cell? ⟨mb + 1, 3, none⟩ = some (r3) ∧ w'.cell? ⟨mb + 1, 4, none⟩ = some (r4) ∧ w'.cell? ⟨mb + 1, 5, none⟩ = some (r5) ∧ w'.cell? ⟨mb + 1, 6, none⟩ = some (r6) ∧ w'.cell? ⟨w.heap.size + 1, 0, none⟩ = some (.int .u8 7) ∧ w'.cell? ⟨w.heap.size + 1, 1, none⟩ = some (p1) ∧ w'.cell? ⟨w.heap.size + 1, 2, none⟩ = some (p2) ∧ w'.cell? ⟨w.heap.size + 1, 3, none⟩ = some (p3) ∧ w'.cell? ⟨w.heap.size + 1, 4, none⟩ = some (p4) ∧ w'.cell? ⟨w.heap.size + 1, 5, none⟩ = some (.slice ai nI ci) ∧ w'.cell? ⟨w.heap.size + 1, 6, none⟩ = some (p6))
                (first | exact HS.out _ UC.out | exact HS.out _ UC.out.drew | exact HS.out _ (UC.out.alloc _))
                (first
                  | (go_at_call 11; (have _ := V71); go_loud (refine Calls.mono (HSM.out _ _ UC.out IE.out) ?_); rintro e v72 ⟨rfl, h72⟩; have V72 : Hid (Upd [] v71 v72) := Upd.trans (by repeat (first | with_reducible exact Upd.refl _ _ | with_reducible refine Upd.drew ?_ | with_reducible refine Upd.alloc ?_ _)) h72; have UC : Hid (Upd [] u3 v72) := UC.out.trans V72.out; clear h72)
                  | (go_at_call 13; (have _ := V70); go_loud (refine Calls.mono (HCP.out _ ((Upd.trans UC.out (by repeat (first | with_reducible exact Upd.refl _ _ | with_reducible refine Upd.drew ?_ | with_reducible refine Upd.alloc ?_ _))))) ?_); rintro e v71 ⟨cc, lc, rfl, ic, cq, h71⟩; have V71 : Hid (Upd [] u3 v71) := Upd.trans (by repeat (first | with_reducible exact Upd.refl _ _ | with_reducible refine Upd.drew ?_ | with_reducible refine Upd.alloc ?_ _)) h71; have IE : Hid (In v71 (d + 3) cc t1) := ic; obtain ⟨c0, c1, c2, c3, c4, c5, c6, rfl⟩ := list7 lc; clear lc ic cq; have UC : Hid (Upd [] u3 v71) := UC.out.trans V71.out; clear h71))
              go_wp2
              go_ret
              exact ⟨rfl, UBB.out.trans UC.out⟩
            · obtain rfl : nI = 0 := by omega
              have hb : (splits t1 && okS t1) = false := by rw [HF.out.2.2.2.2.2.2.2.1]; simp
              rw [hb] at hin hin' ⊢
              obtain ⟨m0, m1, m2, m3, m4, m5, m6, rfl⟩ := list7 h7
              obtain ⟨r0, r1, r2, r3, r4, r5, r6, rfl⟩ := list7 h7'
              have hone1 := hin.one
              have hone2 := hin'.one
              have HIM : Hid (In u1 (d + 2) [m0, m1, m2, m3, m4, m5, m6] (pickT false (headT t1))) := hin
              have HIR : Hid (In u1 (d + 2) [r0, r1, r2, r3, r4, r5, r6] (pickT false (restT t1))) := hin'
              have B21 := ((B10.mono h6 (by simp)).old (.cells #[.int .u8 0, .bool false, .slice none 0 0, .string ⟨#[]⟩, .int .i64 0, .slice none 0 0, .slice none 0 0] 26)).old (.cells #[.int .u8 0, .bool false, .slice none 0 0, .string ⟨#[]⟩, .int .i64 0, .slice none 0 0, .slice none 0 0] 26)
              have M1 : Tb ((u1.alloc (.cells #[.int .u8 0, .bool false, .slice none 0 0, .string ⟨#[]⟩, .int .i64 0, .slice none 0 0, .slice none 0 0] 26)).alloc (.cells #[.int .u8 0, .bool false, .slice none 0 0, .string ⟨#[]⟩, .int .i64 0, .slice none 0 0, .slice none 0 0] 26)) u1.heap.size #[.int .u8 0, .bool false, .slice none 0 0, .string ⟨#[]⟩, .int .i64 0, .slice none 0 0, .slice none 0 0] := (Tb.new _ _ _ rfl).old _
              have R1 : Tb ((u1.alloc (.cells #[.int .u8 0, .bool false, .slice none 0 0, .string ⟨#[]⟩, .int .i64 0, .slice none 0 0, .slice none 0 0] 26)).alloc (.cells #[.int .u8 0, .bool false, .slice none 0 0, .string ⟨#[]⟩, .int .i64 0, .slice none 0 0, .slice none 0 0] 26)) (u1.heap.size + 1) #[.int .u8 0, .bool false, .slice none 0 0, .string ⟨#[]⟩, .int .i64 0, .slice none 0 0, .slice none 0 0] := Tb.new _ _ _ (by simp)
              have n5 : w.heap.size + 1 < u1.heap.size := Nat.lt_of_lt_of_le B10.lt h6.size
              have U21 : Hid (Upd [] w u1) := U7.out.trans h6
              clear hin hin' h6 B10 h7 h7' SQ
              go_wp2_with (first | (refine store_T _ rfl _ _ rfl _ #[m0, m1, m2, m3, m4, m5, m6] _ rfl rfl M1 rfl rfl hone1 ?_; intro u2 M2 hs2; have R2 := R1.mono hs2 (by simp)) | (refine store_T _ rfl _ _ rfl _ #[r0, r1, r2, r3, r4, r5, r6] _ rfl rfl R2 rfl rfl hone2 ?_; intro u3 R3 hs3))
              have M3 := M2.mono hs3 (by simp)
              have B22 := (B21.mono hs2 (by simp; omega)).mono hs3 (by simp; omega)
              have h13 : Upd [] u1 u3 := ((((Upd.refl [] u1).alloc _).alloc _).then hs2 (by simp)).then hs3 (by simp)
              have UBB : Hid (Upd [] w u3) := U21.out.trans h13
              have kB2 : u3.cell? ⟨w.heap.size + 1, 0, none⟩ = some (.int .u8 7) := B22.cell 0
              have kI2 : u3.cell? ⟨w.heap.size + 1, 5, none⟩ = some (.slice ai 0 ci) := B22.cell 5
              clear B21 B22 M1 R1 M2 R2 R3 M3 hs2 hs3 h13 U21 HIM HIR
              go_wp2_with fail
              go_quiet (fail)
              go_wp2
              go_ret
              exact ⟨rfl, UBB.out.drewN _⟩
        · have kne : (k == 7) = false := beq_eq_false_iff_ne.2 hk7
          have HOC2 : Hid (okS (consI t0 t1) = decide (a0 + a1 + 2 ≤ 4096)) := by have := HOC.out; rw [if_neg hk7] at this; exact this
          clear HOC
          by_cases hfit : a0 + a1 + 2 ≤ 4096
          · have hoc : okS (consI t0 t1) = true := by rw [HOC2.out]; exact decide_eq_true hfit
            have hlT : lT = consI t0 t1 := by rw [← HF.out.2.2.1]; exact consS_ok HF.out.1 HF.out.2.1 hoc
            have hkl7 : kl = 7 := by rw [← HF.out.2.2.2.2.2.2.2.2, hlT]; exact cons_kd t0 t1
            subst hkl7
            have hd : decide ((4096 : Int) < ((a0 : Int) + (a1 : Int) + 1 + 1)) = false := by simp; omega
            have hd2 : ¬ ((4096 : Int) < ((a0 : Int) + (a1 : Int) + 1 + 1)) := by omega
            have hspl : (splits lT && okS lT) = true := by rw [hlT, cons_splits, hoc]; rfl
            have hhd : headT lT = t0 := by rw [hlT]; exact cons_head t0 t1
            have hrs : restT lT = t1 := by rw [hlT]; exact cons_rest t0 t1 ((okS_iff _).1 HF.out.2.1).1
            have hszl : szS lT = a0 + a1 + 2 := by
              rw [szS_ok (by rw [hlT]; exact hoc), hlT, cons_sz, HF.out.2.2.2.2.1, HF.out.2.2.2.2.2.1, HF.out.2.2.2.1]
              rw [if_neg hk7]
            have SPO : Hid ((splits lT && okS lT) = true ∧ headT lT = t0 ∧ restT lT = t1 ∧ szS lT = a0 + a1 + 2 ∧ okS lT = true) := ⟨hspl, hhd, hrs, hszl, by rw [hlT]; exact hoc⟩
            clear hoc hlT hspl hhd hrs hszl HOC2
            go_wp2_with (first | (refine load_G _ _ rfl _ _ rfl L10 rfl rfl ?_) | fail)
            refine Calls.mono (SP.out _ V7'.out) ?_
            rintro e w6 ⟨cs, cs', h7, h7', rfl, hin, hin', h6⟩
            rw [SPO.out.1, SPO.out.2.1] at hin
            rw [SPO.out.1, SPO.out.2.2.1] at hin'
            rw [SPO.out.1]
            obtain ⟨x0, x1, x2, x3, x4, x5, x6, rfl⟩ := list7 h7
            obtain ⟨y0, y1, y2, y3, y4, y5, y6, rfl⟩ := list7 h7'
            have hone1 := hin.one
            have hone2 := hin'.one
            have HIX : Hid (In w6 (d + 2) [x0, x1, x2, x3, x4, x5, x6] t0) := hin
            have HIY : Hid (In w6 (d + 2) [y0, y1, y2, y3, y4, y5, y6] t1) := hin'
            have A11 := ((A10.mono h6 (by simp)).old (.cells #[.int .u8 0, .bool false, .slice none 0 0, .string ⟨#[]⟩, .int .i64 0, .slice none 0 0, .slice none 0 0] 26)).old (.cells #[.int .u8 0, .bool false, .slice none 0 0, .string ⟨#[]⟩, .int .i64 0, .slice none 0 0, .slice none 0 0] 26)
            have B11 := ((B10.mono h6 (by simp)).old (.cells #[.int .u8 0, .bool false, .slice none 0 0, .string ⟨#[]⟩, .int .i64 0, .slice none 0 0, .slice none 0 0] 26)).old (.cells #[.int .u8 0, .bool false, .slice none 0 0, .string ⟨#[]⟩, .int .i64 0, .slice none 0 0, .slice none 0 0] 26)
            have L11 := ((L10.mono h6 (by simp)).old (.cells #[.int .u8 0, .bool false, .slice none 0 0, .string ⟨#[]⟩, .int .i64 0, .slice none 0 0, .slice none 0 0] 26)).old (.cells #[.int .u8 0, .bool false, .slice none 0 0, .string ⟨#[]⟩, .int .i64 0, .slice none 0 0, .slice none 0 0] 26)
            have X1 : Tb ((w6.alloc (.cells #[.int .u8 0, .bool false, .slice none 0 0, .string ⟨#[]⟩, .int .i64 0, .slice none 0 0, .slice none 0 0] 26)).alloc (.cells #[.int .u8 0, .bool false, .slice none 0 0, .string ⟨#[]⟩, .int .i64 0, .slice none 0 0, .slice none 0 0] 26)) w6.heap.size #[.int .u8 0, .bool false, .slice none 0 0, .string ⟨#[]⟩, .int .i64 0, .slice none 0 0, .slice none 0 0] := (Tb.new _ _ _ rfl).old _
            have Y1 : Tb ((w6.alloc (.cells #[.int .u8 0, .bool false, .slice none 0 0, .string ⟨#[]⟩, .int .i64 0, .slice none 0 0, .slice none 0 0] 26)).alloc (.cells #[.int .u8 0, .bool false, .slice none 0 0, .string ⟨#[]⟩, .int .i64 0, .slice none 0 0, .slice none 0 0] 26)) (w6.heap.size + 1) #[.int .u8 0, .bool false, .slice none 0 0, .string ⟨#[]⟩, .int .i64 0, .slice none 0 0, .slice none 0 0] := Tb.new _ _ _ (by simp)
            have n1 : w.heap.size < w6.heap.size := Nat.lt_of_lt_of_le A10.lt h6.size
            have n2 : w.heap.size + 1 < w6.heap.size := Nat.lt_of_lt_of_le B10.lt h6.size
            have n3 : lb < w6.heap.size := Nat.lt_of_lt_of_le L10.lt h6.size
            have U8 : Hid (Upd [] w w6) := U7.out.trans h6
            have W8 : Hid (Upd [] w3 w6) := V7'.out.trans h6
            clear hin hin' h6 A10 B10 L10 h7 h7' kB kL SP
            go_wp2_with (first | (refine store_T _ rfl _ _ rfl _ #[x0, x1, x2, x3, x4, x5, x6] _ rfl rfl X1 rfl rfl hone1 ?_; intro w7 X2 hs7; have Y2 := Y1.mono hs7 (by simp)) | (refine store_T _ rfl _ _ rfl _ #[y0, y1, y2, y3, y4, y5, y6] _ rfl rfl Y2 rfl rfl hone2 ?_; intro w8 Y3 hs8))
            have X3 := X2.mono hs8 (by simp)
            have A12 := (A11.mono hs7 (by simp; omega)).mono hs8 (by simp; omega)
            have B12 := (B11.mono hs7 (by simp; omega)).mono hs8 (by simp; omega)
            have L12 := (L11.mono hs7 (by simp; omega)).mono hs8 (by simp; omega)
            have h68 : Upd [] w6 w8 := ((((Upd.refl [] w6).alloc _).alloc _).then hs7 (by simp)).then hs8 (by simp)
            have UB : Hid (Upd [] w w8) := U8.out.trans h68
            have U38 : Hid (Upd [] w3 w8) := W8.out.trans h68
            have IX : Hid (In w8 (d + 2) [x0, x1, x2, x3, x4, x5, x6] t0) := In.mono h68 _ _ _ HIX.out
            have IY : Hid (In w8 (d + 2) [y0, y1, y2, y3, y4, y5, y6] t1) := In.mono h68 _ _ _ HIY.out
            obtain ⟨xb, hxb⟩ : ∃ xb, xb = w6.heap.size := ⟨_, rfl⟩
            rw [← hxb] at X3 Y3 n1 n2 n3 ⊢
            obtain ⟨sl, hsl⟩ : ∃ s, s = str (txS (consI t0 nilT)) := ⟨_, rfl⟩
            obtain ⟨s0, hs0⟩ : ∃ s, s = str (txS t0) := ⟨_, rfl⟩
            have hcn : okS (consI t0 nilT) = true := by
              rw [cons_okS t0 nilT HF.out.1 nil_okS, nil_sz, HF.out.2.2.2.2.1]
              have := HF.out.2.2.2.2.2.2.1
              exact decide_eq_true (by rw [if_pos (show nilT.kd = 7 from rfl)]; omega)
            have hsl2 : sl = str (91 :: (txT t0 ++ [93])) := by rw [hsl, txS_ok hcn, cons_nil, tx_one]
            have hs02 : s0 = str (txT t0) := by rw [hs0, txS_ok HF.out.1]
            have hln : s0.size ≤ 140737488355328 := by rw [hs02, str_size]; exact tx_short t0 HF.out.1 (In.dig _ _ _ IA.out)
            obtain ⟨sA, hsA⟩ : ∃ s, s = (⟨#[91]⟩ : ByteArray) ++ s0 := ⟨_, rfl⟩
            have hsB : sl = sA ++ (⟨#[93]⟩ : ByteArray) := by
              rw [hsA, hsl2, hs02]
              show str _ = (ByteArray.mk [91].toArray ++ ByteArray.mk (txT t0).toArray) ++ ByteArray.mk [93].toArray
              rw [ByteArray.mk_append_mk, ByteArray.mk_append_mk]
              rfl
            have hzA : sA.size = 1 + s0.size := by rw [hsA, ByteArray.size_append]; rfl
            have hA1 : ∀ w : World, (Op.stringOp .add ⟨#[91]⟩ s0).run Tryd.prog w = .ok (.string sA) w := fun w => by rw [hsA]; exact run_string_add_sum w _ _ (by have : (ByteArray.mk #[91]).size = 1 := rfl; omega)
            have hA2 : ∀ w : World, (Op.stringOp .add sA ⟨#[93]⟩).run Tryd.prog w = .ok (.string sl) w := fun w => by rw [hsB]; exact run_string_add_sum w _ _ (by have : (ByteArray.mk #[93]).size = 1 := rfl; omega)
            clear hsB hzA hsA
            have SA : Hid (∀ W, Upd [] w8 W → Calls Tryd.prog 11 #[.agg #[x0, x1, x2, x3, x4, x5, x6], .agg #[q0, q1, q2, q3, q4, q5, q6]] W fun e w' => e = .returned (.bool true) ∧ Upd [] W w') := fun W hu => sam_call (In.mono hu _ _ _ IX.out) (In.more _ _ _ (In.mono (UB.out.trans hu) _ _ _ IA.out)) (okS_tsz HF.out.1)
            have SB : Hid (∀ W, Upd [] w8 W → Calls Tryd.prog 11 #[.agg #[y0, y1, y2, y3, y4, y5, y6], .agg #[.int .u8 k, p1, p2, p3, p4, .slice ai nI ci, p6]] W fun e w' => e = .returned (.bool true) ∧ Upd [] W w') := fun W hu => sam_call (In.mono hu _ _ _ IY.out) (In.more _ _ _ (In.mono (UB.out.trans hu) _ _ _ IB.out)) (okS_tsz HF.out.2.1)
            have ZL : Hid (∀ W, Upd [] w8 W → Calls Tryd.prog 14 #[.agg #[.int .u8 7, l1, l2, l3, l4, l5, l6]] W fun e w' => e = .returned (.int .i64 (((a0 : Int) + (a1 : Int) + 1 + 1))) ∧ Upd [] W w') := fun W hu => by
              have h := size_call (In.mono (U38.out.trans hu) _ _ _ IL.out) (okS_tsz SPO.out.2.2.2.2) SPO.out.2.2.2.1
              rw [show ((a0 + a1 + 2 : Nat) : Int) = ((a0 : Int) + (a1 : Int) + 1 + 1) by omega] at h
              exact h
            have HCO : Hid (∀ W, Upd [] w8 W → Calls Tryd.prog 13 #[.agg #[q0, q1, q2, q3, q4, q5, q6], .agg #[.int .u8 7, .bool false, .slice none 0 0, .string ⟨#[]⟩, .int .i64 0, .slice none 0 0, .slice none 0 0]] W (ConsP W (d + 2) (consI t0 nilT))) := fun W hu => by
              have h := Cons_in d W _ _ t0 nilT (In.mono (UB.out.trans hu) _ _ _ IA.out) (nil_in W d) (okS_tsz HF.out.1) (okS_tsz nil_okS)
              rw [consS_ok HF.out.1 nil_okS hcn] at h
              exact h
            have TX1 : Hid (∀ W cs, Upd [] w8 W → In W (d + 2) cs (consI t0 nilT) → Calls Tryd.prog 16 #[.agg cs.toArray] W fun e w' => e = .returned (.string sl) ∧ Upd [] W w') := fun W cs hu hi => by rw [hsl]; exact TText_any (d + 2) W _ _ hi (okS_tsz hcn) (HG.out.mono (UB.out.trans hu))
            have TX0 : Hid (∀ W, Upd [] w8 W → Calls Tryd.prog 16 #[.agg #[q0, q1, q2, q3, q4, q5, q6]] W fun e w' => e = .returned (.string s0) ∧ Upd [] W w') := fun W hu => by rw [hs0]; exact TText_any (d + 1) W _ _ (In.mono (UB.out.trans hu) _ _ _ IA.out) (okS_tsz HF.out.1) (HG.out.mono (UB.out.trans hu))
            have HS : Hid (∀ w', Upd [] w8 w' → w'.cell? ⟨xb, 0, none⟩ = some (x0) ∧ w'.cell? ⟨xb, 1, none⟩ = some (x1) ∧ w'.cell? ⟨xb, 2, none⟩ = some (x2) ∧ w'.cell? ⟨xb, 3, none⟩ = some (x3) ∧ w'.cell? ⟨xb, 4, none⟩ = some (x4) ∧ w'.cell? ⟨xb, 5, none⟩ = some (x5) ∧ w'.cell? ⟨xb, 6, none⟩ = some (x6) ∧ w'.cell? ⟨xb + 1, 0, none⟩ = some (y0) ∧ w'.cell? ⟨xb + 1, 1, none⟩ = some (y1) ∧ w'.cell? ⟨xb + 1, 2, none⟩ = some (y2) ∧ w'.cell? ⟨xb + 1, 3, none⟩ = some (y3) ∧ w'.cell? ⟨xb + 1, 4, none⟩ = some (y4) ∧ w'.cell? ⟨xb + 1, 5, none⟩ = some (y5) ∧ w'.cell? ⟨xb + 1, 6, none⟩ = some (y6) ∧ w'.cell? ⟨w.heap.size, 0, none⟩ = some (q0) ∧ w'.cell? ⟨w.heap.size, 1, none⟩ = some (q1) ∧ w'.cell? ⟨w.heap.size, 2, none⟩ = some (q2) ∧ w'.cell? ⟨w.heap.size, 3, none⟩ = some (q3) ∧ w'.cell? ⟨w.heap.size, 4, none⟩ = some (q4) ∧ w'.cell? ⟨w.heap.size, 5, none⟩ = some (q5) ∧ w'.cell? ⟨w.heap.size, 6, none⟩ = some (q6) ∧ w'.cell? ⟨w.heap.size + 1, 0, none⟩ = some (.int .u8 k) ∧ w'.cell? ⟨w.heap.size + 1, 1, none⟩ = some (p1) ∧ w'.cell? ⟨w.heap.size + 1, 2, none⟩ = some (p2) ∧ w'.cell? ⟨w.heap.size + 1, 3, none⟩ = some (p3) ∧ w'.cell? ⟨w.heap.size + 1, 4, none⟩ = some (p4) ∧ w'.cell? ⟨w.heap.size + 1, 5, none⟩ = some (.slice ai nI ci) ∧ w'.cell? ⟨w.heap.size + 1, 6, none⟩ = some (p6) ∧ w'.cell? ⟨lb, 0, none⟩ = some (.int .u8 7) ∧ w'.cell? ⟨lb, 1, none⟩ = some (l1) ∧ w'.cell? ⟨lb, 2, none⟩ = some (l2) ∧ w'.cell? ⟨lb, 3, none⟩ = some (l3) ∧ w'.cell? ⟨lb, 4, none⟩ = some (l4) ∧ w'.cell? ⟨lb, 5, none⟩ = some (l5) ∧ w'.cell? ⟨lb, 6, none⟩ = some (l6)) := fun w' hu => ⟨(X3.mono hu (by simp)).cell 0, (X3.mono hu (by simp)).cell 1, (X3.mono hu (by simp)).cell 2, (X3.mono hu (by simp)).cell 3, (X3.mono hu (by simp)).cell 4, (X3.mono hu (by simp)).cell 5, (X3.mono hu (by simp)).cell 6, (Y3.mono hu (by simp)).cell 0, (Y3.mono hu (by simp)).cell 1, (Y3.mono hu (by simp)).cell 2, (Y3.mono hu (by simp)).cell 3, (Y3.mono hu (by simp)).cell 4, (Y3.mono hu (by simp)).cell 5, (Y3.mono hu (by simp)).cell 6, (A12.mono hu (by simp)).cell 0, (A12.mono hu (by simp)).cell 1, (A12.mono hu (by simp)).cell 2, (A12.mono hu (by simp)).cell 3, (A12.mono hu (by simp)).cell 4, (A12.mono hu (by simp)).cell 5, (A12.mono hu (by simp)).cell 6, (B12.mono hu (by simp)).cell 0, (B12.mono hu (by simp)).cell 1, (B12.mono hu (by simp)).cell 2, (B12.mono hu (by simp)).cell 3, (B12.mono hu (by simp)).cell 4, (B12.mono hu (by simp)).cell 5, (B12.mono hu (by simp)).cell 6, (L12.mono hu (by simp)).cell 0, (L12.mono hu (by simp)).cell 1, (L12.mono hu (by simp)).cell 2, (L12.mono hu (by simp)).cell 3, (L12.mono hu (by simp)).cell 4, (L12.mono hu (by simp)).cell 5, (L12.mono hu (by simp)).cell 6⟩
            have UC : Hid (Upd [] w8 w8) := Upd.refl [] w8
            have V60 : Hid True := trivial
            have TA : Hid (Tb w8 _ _) := A12
            have TB : Hid (Tb w8 _ _) := B12
            clear hcn hsl hsl2 hs0 hs02 A11 B11 L11 A12 B12 L12 X1 Y1 X2 Y2 X3 Y3 hs7 hs8 h68 U8 W8 HIX HIY hxb
            go_wp2_with fail
            go_region_held3 (fun w' => w'.cell? ⟨xb, 0, none⟩ = some (x0) ∧ w'.cell? ⟨xb, 1, none⟩ = some (x1) ∧ w'.cell? ⟨xb, 2, none⟩ = some (x2) ∧ w'.cell? ⟨xb, 3, none⟩ = some (x3) ∧ w'.cell? ⟨xb, 4, none⟩ = some (x4) ∧ w'.cell? ⟨xb, 5, none⟩ = some (x5) ∧ w'.cell? ⟨xb, 6, none⟩ = some (x6) ∧ w'.cell? ⟨xb + 1, 0, none⟩ = some (y0) ∧ w'.cell? ⟨xb + 1, 1, none⟩ = some (y1) ∧ w'.cell? ⟨xb + 1, 2, none⟩ = some (y2) ∧ w'.cell? ⟨xb + 1, 3, none⟩ = some (y3) ∧ w'.cell? ⟨xb + 1, 4, none⟩ = some (y4) ∧ w'.cell? ⟨xb + 1, 5, none⟩ = some (y5) ∧ w'.cell? ⟨xb + 1, 6, none⟩ = some (y6) ∧ w'.cell? ⟨w.heap.size, 0, none⟩ = some (q0) ∧ w'.cell? ⟨w.heap.size, 1, none⟩ = some (q1) ∧ w'.cell? ⟨w.heap.size, 2, none⟩ = some (q2) ∧ w'.cell? ⟨w.heap.size, 3, none⟩ = some (q3) ∧ w'.cell? ⟨w.heap.size, 4, none⟩ = some (q4) ∧ w'.cell? ⟨w.heap.size, 5, none⟩ = some (q5) ∧ w'.cell? ⟨w.heap.size, 6, none⟩ = some (q6) ∧ w'.cell? ⟨w.heap.size + 1, 0, none⟩ = some (.int .u8 k) ∧ w'.cell? ⟨w.heap.size + 1, 1, none⟩ = some (p1) ∧ w'.cell? ⟨w.heap.size + 1, 2, none⟩ = some (p2) ∧ w'.cell? ⟨w.heap.size + 1, 3, none⟩ = some (p3) ∧ w'.cell? ⟨w.heap.size + 1, 4, none⟩ = some (p4) ∧ w'.cell? ⟨w.heap.size + 1, 5, none⟩ = some (.slice ai nI ci) ∧ w'.cell? ⟨w.heap.size + 1, 6, none⟩ = some (p6) ∧ w'.cell? ⟨lb, 0, none⟩ = some (.int .u8 7) ∧ w'.cell? ⟨lb, 1, none⟩ = some (l1) ∧ w'.cell? ⟨lb, 2, none⟩ = some (l2) ∧ w'.cell? ⟨lb, 3, none⟩ = some (l3) ∧ w'.cell? ⟨lb, 4, none⟩ = some (l4) ∧ w'.cell? ⟨lb, 5, none⟩ = some (l5) ∧ w'.cell? ⟨lb, 6, none⟩ = some (l6))
              (first | exact HS.out _ UC.out | exact HS.out _ UC.out.drew | exact HS.out _ (UC.out.alloc _))
              (first
                | (go_at_call 16; (have _ := V65); go_loud (refine Calls.mono (TX0.out _ ((Upd.trans UC.out (by repeat (first | with_reducible exact Upd.refl _ _ | with_reducible refine Upd.drew ?_ | with_reducible refine Upd.alloc ?_ _))))) ?_); rintro e v66 ⟨rfl, h66⟩; have V66 : Hid (Upd [] v65 v66) := Upd.trans (by repeat (first | with_reducible exact Upd.refl _ _ | with_reducible refine Upd.drew ?_ | with_reducible refine Upd.alloc ?_ _)) h66; have UC : Hid (Upd [] w8 v66) := UC.out.trans V66.out; clear h66)
                | (go_at_call 16; (have _ := V64); go_loud (refine Calls.mono (TX1.out _ _ UC.out IC.out) ?_); rintro e v65 ⟨rfl, h65⟩; have V65 : Hid (Upd [] v64 v65) := Upd.trans (by repeat (first | with_reducible exact Upd.refl _ _ | with_reducible refine Upd.drew ?_ | with_reducible refine Upd.alloc ?_ _)) h65; have UC : Hid (Upd [] w8 v65) := UC.out.trans V65.out; clear h65)
                | (go_at_call 13; (have _ := V63); go_loud (refine Calls.mono (HCO.out _ ((Upd.trans UC.out (by repeat (first | with_reducible exact Upd.refl _ _ | with_reducible refine Upd.drew ?_ | with_reducible refine Upd.alloc ?_ _))))) ?_); rintro e v64 ⟨cc, lc, rfl, ic, cq, h64⟩; have V64 : Hid (Upd [] v63 v64) := Upd.trans (by repeat (first | with_reducible exact Upd.refl _ _ | with_reducible refine Upd.drew ?_ | with_reducible refine Upd.alloc ?_ _)) h64; have IC : Hid (In v64 (d + 2) cc (consI t0 nilT)) := ic; obtain ⟨c0, c1, c2, c3, c4, c5, c6, rfl⟩ := list7 lc; clear lc ic cq; have UC : Hid (Upd [] w8 v64) := UC.out.trans V64.out; clear h64)
                | (go_at_call 14; (have _ := V62); go_loud (refine Calls.mono (ZL.out _ ((Upd.trans UC.out (by repeat (first | with_reducible exact Upd.refl _ _ | with_reducible refine Upd.drew ?_ | with_reducible refine Upd.alloc ?_ _))))) ?_); rintro e v63 ⟨rfl, h63⟩; have V63 : Hid (Upd [] v62 v63) := Upd.trans (by repeat (first | with_reducible exact Upd.refl _ _ | with_reducible refine Upd.drew ?_ | with_reducible refine Upd.alloc ?_ _)) h63; have UC : Hid (Upd [] w8 v63) := UC.out.trans V63.out; clear h63)
                | (go_at_call 11; (have _ := V61); go_loud (refine Calls.mono (SB.out _ ((Upd.trans UC.out (by repeat (first | with_reducible exact Upd.refl _ _ | with_reducible refine Upd.drew ?_ | with_reducible refine Upd.alloc ?_ _))))) ?_); rintro e v62 ⟨rfl, h62⟩; have V62 : Hid (Upd [] v61 v62) := Upd.trans (by repeat (first | with_reducible exact Upd.refl _ _ | with_reducible refine Upd.drew ?_ | with_reducible refine Upd.alloc ?_ _)) h62; have UC : Hid (Upd [] w8 v62) := UC.out.trans V62.out; clear h62)
                | (go_at_call 11; (have _ := V60); go_loud (refine Calls.mono (SA.out _ ((Upd.trans UC.out (by repeat (first | with_reducible exact Upd.refl _ _ | with_reducible refine Upd.drew ?_ | with_reducible refine Upd.alloc ?_ _))))) ?_); rintro e v61 ⟨rfl, h61⟩; have V61 : Hid (Upd [] w8 v61) := Upd.trans (by repeat (first | with_reducible exact Upd.refl _ _ | with_reducible refine Upd.drew ?_ | with_reducible refine Upd.alloc ?_ _)) h61; have UC : Hid (Upd [] w8 v61) := UC.out.trans V61.out; clear h61))
            have B20 := TB.out.mono UC.out (by simp)
            have U20 : Hid (Upd [] w v66) := UB.out.trans UC.out
            clear HS UC UB V60 V61 V62 V63 V64 V65 V66 SA SB ZL HCO TX1 TX0 TA TB hA1 hA2 IX IY IC
            go_wp2_with (first | (refine load_G _ _ rfl _ _ rfl B20 rfl rfl ?_) | fail)
            refine Calls.mono (SQ.out _ U20.out) ?_
            rintro e u1 ⟨cs, cs', h7, h7', rfl, hin, hin', h6⟩
            have hb : (splits t1 && okS t1) = false := by rw [HF.out.2.2.2.2.2.2.2.1]; simp [hk7]
            rw [hb] at hin hin' ⊢
            obtain ⟨m0, m1, m2, m3, m4, m5, m6, rfl⟩ := list7 h7
            obtain ⟨r0, r1, r2, r3, r4, r5, r6, rfl⟩ := list7 h7'
            have hone1 := hin.one
            have hone2 := hin'.one
            have HIM : Hid (In u1 (d + 2) [m0, m1, m2, m3, m4, m5, m6] (pickT false (headT t1))) := hin
            have HIR : Hid (In u1 (d + 2) [r0, r1, r2, r3, r4, r5, r6] (pickT false (restT t1))) := hin'
            have B21 := ((B20.mono h6 (by simp)).old (.cells #[.int .u8 0, .bool false, .slice none 0 0, .string ⟨#[]⟩, .int .i64 0, .slice none 0 0, .slice none 0 0] 26)).old (.cells #[.int .u8 0, .bool false, .slice none 0 0, .string ⟨#[]⟩, .int .i64 0, .slice none 0 0, .slice none 0 0] 26)
            have M1 : Tb ((u1.alloc (.cells #[.int .u8 0, .bool false, .slice none 0 0, .string ⟨#[]⟩, .int .i64 0, .slice none 0 0, .slice none 0 0] 26)).alloc (.cells #[.int .u8 0, .bool false, .slice none 0 0, .string ⟨#[]⟩, .int .i64 0, .slice none 0 0, .slice none 0 0] 26)) u1.heap.size #[.int .u8 0, .bool false, .slice none 0 0, .string ⟨#[]⟩, .int .i64 0, .slice none 0 0, .slice none 0 0] := (Tb.new _ _ _ rfl).old _
            have R1 : Tb ((u1.alloc (.cells #[.int .u8 0, .bool false, .slice none 0 0, .string ⟨#[]⟩, .int .i64 0, .slice none 0 0, .slice none 0 0] 26)).alloc (.cells #[.int .u8 0, .bool false, .slice none 0 0, .string ⟨#[]⟩, .int .i64 0, .slice none 0 0, .slice none 0 0] 26)) (u1.heap.size + 1) #[.int .u8 0, .bool false, .slice none 0 0, .string ⟨#[]⟩, .int .i64 0, .slice none 0 0, .slice none 0 0] := Tb.new _ _ _ (by simp)
            have n5 : w.heap.size + 1 < u1.heap.size := Nat.lt_of_lt_of_le B20.lt h6.size
            have U21 : Hid (Upd [] w u1) := U20.out.trans h6
            clear hin hin' h6 B20 h7 h7' SQ
            go_wp2_with (first | (refine store_T _ rfl _ _ rfl _ #[m0, m1, m2, m3, m4, m5, m6] _ rfl rfl M1 rfl rfl hone1 ?_; intro u2 M2 hs2; have R2 := R1.mono hs2 (by simp)) | (refine store_T _ rfl _ _ rfl _ #[r0, r1, r2, r3, r4, r5, r6] _ rfl rfl R2 rfl rfl hone2 ?_; intro u3 R3 hs3))
            have M3 := M2.mono hs3 (by simp)
            have B22 := (B21.mono hs2 (by simp; omega)).mono hs3 (by simp; omega)
            have h13 : Upd [] u1 u3 := ((((Upd.refl [] u1).alloc _).alloc _).then hs2 (by simp)).then hs3 (by simp)
            have UBB : Hid (Upd [] w u3) := U21.out.trans h13
            have kB2 : u3.cell? ⟨w.heap.size + 1, 0, none⟩ = some (.int .u8 k) := B22.cell 0
            have kI2 : u3.cell? ⟨w.heap.size + 1, 5, none⟩ = some (.slice ai nI ci) := B22.cell 5
            clear B21 B22 M1 R1 M2 R2 R3 M3 hs2 hs3 h13 U21 HIM HIR
            go_wp2_with fail
            go_quiet (fail)
            go_wp2
            go_ret
            exact ⟨rfl, UBB.out.drewN _⟩
          · have hoc : okS (consI t0 t1) = false := by rw [HOC2.out]; exact decide_eq_false hfit
            have hlT : lT = zeroT := by rw [← HF.out.2.2.1]; exact consS_no (by rw [hoc, Bool.and_false])
            have hkl7 : kl = 0 := by rw [← HF.out.2.2.2.2.2.2.2.2, hlT]; rfl
            subst hkl7
            have hd : decide ((4096 : Int) < ((a0 : Int) + (a1 : Int) + 1 + 1)) = true := by simp; omega
            have hd2 : (4096 : Int) < ((a0 : Int) + (a1 : Int) + 1 + 1) := by omega
            clear hoc hlT HOC2
            go_wp2_with (first | (refine load_G _ _ rfl _ _ rfl B10 rfl rfl ?_) | fail)
            refine Calls.mono (SQ.out _ U7.out) ?_
            rintro e u1 ⟨cs, cs', h7, h7', rfl, hin, hin', h6⟩
            have hb : (splits t1 && okS t1) = false := by rw [HF.out.2.2.2.2.2.2.2.1]; simp [hk7]
            rw [hb] at hin hin' ⊢
            obtain ⟨m0, m1, m2, m3, m4, m5, m6, rfl⟩ := list7 h7
            obtain ⟨r0, r1, r2, r3, r4, r5, r6, rfl⟩ := list7 h7'
            have hone1 := hin.one
            have hone2 := hin'.one
            have HIM : Hid (In u1 (d + 2) [m0, m1, m2, m3, m4, m5, m6] (pickT false (headT t1))) := hin
            have HIR : Hid (In u1 (d + 2) [r0, r1, r2, r3, r4, r5, r6] (pickT false (restT t1))) := hin'
            have B21 := ((B10.mono h6 (by simp)).old (.cells #[.int .u8 0, .bool false, .slice none 0 0, .string ⟨#[]⟩, .int .i64 0, .slice none 0 0, .slice none 0 0] 26)).old (.cells #[.int .u8 0, .bool false, .slice none 0 0, .string ⟨#[]⟩, .int .i64 0, .slice none 0 0, .slice none 0 0] 26)
            have M1 : Tb ((u1.alloc (.cells #[.int .u8 0, .bool false, .slice none 0 0, .string ⟨#[]⟩, .int .i64 0, .slice none 0 0, .slice none 0 0] 26)).alloc (.cells #[.int .u8 0, .bool false, .slice none 0 0, .string ⟨#[]⟩, .int .i64 0, .slice none 0 0, .slice none 0 0] 26)) u1.heap.size #[.int .u8 0, .bool false, .slice none 0 0, .string ⟨#[]⟩, .int .i64 0, .slice none 0 0, .slice none 0 0] := (Tb.new _ _ _ rfl).old _
            have R1 : Tb ((u1.alloc (.cells #[.int .u8 0, .bool false, .slice none 0 0, .string ⟨#[]⟩, .int .i64 0, .slice none 0 0, .slice none 0 0] 26)).alloc (.cells #[.int .u8 0, .bool false, .slice none 0 0, .string ⟨#[]⟩, .int .i64 0, .slice none 0 0, .slice none 0 0] 26)) (u1.heap.size + 1) #[.int .u8 0, .bool false, .slice none 0 0, .string ⟨#[]⟩, .int .i64 0, .slice none 0 0, .slice none 0 0] := Tb.new _ _ _ (by simp)
            have n5 : w.heap.size + 1 < u1.heap.size := Nat.lt_of_lt_of_le B10.lt h6.size
            have U21 : Hid (Upd [] w u1) := U7.out.trans h6
            clear hin hin' h6 B10 h7 h7' SQ
            go_wp2_with (first | (refine store_T _ rfl _ _ rfl _ #[m0, m1, m2, m3, m4, m5, m6] _ rfl rfl M1 rfl rfl hone1 ?_; intro u2 M2 hs2; have R2 := R1.mono hs2 (by simp)) | (refine store_T _ rfl _ _ rfl _ #[r0, r1, r2, r3, r4, r5, r6] _ rfl rfl R2 rfl rfl hone2 ?_; intro u3 R3 hs3))
            have M3 := M2.mono hs3 (by simp)
            have B22 := (B21.mono hs2 (by simp; omega)).mono hs3 (by simp; omega)
            have h13 : Upd [] u1 u3 := ((((Upd.refl [] u1).alloc _).alloc _).then hs2 (by simp)).then hs3 (by simp)
            have UBB : Hid (Upd [] w u3) := U21.out.trans h13
            have kB2 : u3.cell? ⟨w.heap.size + 1, 0, none⟩ = some (.int .u8 k) := B22.cell 0
            have kI2 : u3.cell? ⟨w.heap.size + 1, 5, none⟩ = some (.slice ai nI ci) := B22.cell 5
            clear B21 B22 M1 R1 M2 R2 R3 M3 hs2 hs3 h13 U21 HIM HIR
            go_wp2_with fail
            go_quiet (fail)
            go_wp2
            go_ret
            exact ⟨rfl, UBB.out.drewN _⟩
end Go.Proofs.YtedelcgimbclpaaDoor
