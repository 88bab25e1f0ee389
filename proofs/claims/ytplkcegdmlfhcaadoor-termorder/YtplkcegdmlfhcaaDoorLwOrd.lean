/- TermOrder, walked. -/
import Derived.Test.YtplkcegdmlfhcaaDoorOrF
namespace Go.Proofs.YtplkcegdmlfhcaaDoor
open Go.RowKit

set_option maxHeartbeats 16000000 in
set_option maxRecDepth 100000 in
theorem Order_walk (w : World) (d : Nat) (t0 t1 t2 : Tm) (k0 k1 : Int) (q1 q2 q3 q4 q5 q6 p1 p2 p3 p4 p5 p6 r0 r1 r2 r3 r4 r5 r6 : Value) (hG : Glb w) (iA : In w d [.int .u8 k0, q1, q2, q3, q4, q5, q6] t0) (iB : In w d [.int .u8 k1, p1, p2, p3, p4, p5, p6] t1) (iC : In w d [r0, r1, r2, r3, r4, r5, r6] t2) (z0 : tsz t0 ≤ 1353245080330) (z1 : tsz t1 ≤ 1353245080330) (z2 : tsz t2 ≤ 1353245080330) (e0 : t0.kd = k0) (e1 : t1.kd = k1) :
    Calls Tryd.prog 3 #[.agg #[.int .u8 k0, q1, q2, q3, q4, q5, q6], .agg #[.int .u8 k1, p1, p2, p3, p4, p5, p6], .agg #[r0, r1, r2, r3, r4, r5, r6]] w fun e w' => e = .returned (.bool true) ∧ Upd [] w w' := by
  obtain ⟨o0, ho0⟩ : ∃ o, okS t0 = o := ⟨_, rfl⟩
  obtain ⟨o1, ho1⟩ : ∃ o, okS t1 = o := ⟨_, rfl⟩
  obtain ⟨o2, ho2⟩ : ∃ o, okS t2 = o := ⟨_, rfl⟩
  have R0 : Hid (∀ W, Upd [] w W → Calls Tryd.prog 8 #[.agg #[.int .u8 k0, q1, q2, q3, q4, q5, q6]] W fun e w' => e = .returned (.bool o0) ∧ Upd [] W w') := fun W hu => right_call (In.mono hu _ _ _ iA) z0 ho0
  have R1 : Hid (∀ W, Upd [] w W → Calls Tryd.prog 8 #[.agg #[.int .u8 k1, p1, p2, p3, p4, p5, p6]] W fun e w' => e = .returned (.bool o1) ∧ Upd [] W w') := fun W hu => right_call (In.mono hu _ _ _ iB) z1 ho1
  have R2 : Hid (∀ W, Upd [] w W → Calls Tryd.prog 8 #[.agg #[r0, r1, r2, r3, r4, r5, r6]] W fun e w' => e = .returned (.bool o2) ∧ Upd [] W w') := fun W hu => right_call (In.mono hu _ _ _ iC) z2 ho2
  have GR : Hid (∀ W g, Upd [] w W → Tb W g #[.int .u8 k0, q1, q2, q3, q4, q5, q6, .int .u8 k1, p1, p2, p3, p4, p5, p6, r0, r1, r2, r3, r4, r5, r6] → Calls Tryd.prog 7 #[.slice (some ⟨g, 0, none⟩) 3 3] W fun e w' => IsBool e ∧ Upd [] W w') := fun W g hu hT => great_in d W _ 3 [t0, t1, t2] (row_three hT (In.mono hu _ _ _ iA) (In.mono hu _ _ _ iB) (In.mono hu _ _ _ iC)) (tszs_le _ _ (by simp) (fun i hi => by
    have : i = 0 ∨ i = 1 ∨ i = 2 := by simp at hi; omega
    rcases this with rfl | rfl | rfl
    · exact z0
    · exact z1
    · exact z2))
  have IA : Hid (In w d [.int .u8 k0, q1, q2, q3, q4, q5, q6] t0) := iA
  have IB : Hid (In w d [.int .u8 k1, p1, p2, p3, p4, p5, p6] t1) := iB
  have IC0 : Hid (In w d [r0, r1, r2, r3, r4, r5, r6] t2) := iC
  have Z : Hid (tsz t0 ≤ 1353245080330 ∧ tsz t1 ≤ 1353245080330 ∧ tsz t2 ≤ 1353245080330) := ⟨z0, z1, z2⟩
  have E : Hid (t0.kd = k0 ∧ t1.kd = k1) := ⟨e0, e1⟩
  have O : Hid (okS t0 = o0 ∧ okS t1 = o1 ∧ okS t2 = o2) := ⟨ho0, ho1, ho2⟩
  have HG : Hid (Glb w) := hG
  clear iA iB iC z0 z1 z2 e0 e1 ho0 ho1 ho2 hG
  have tA : Tb (((w.alloc (.cells #[.int .u8 k0, q1, q2, q3, q4, q5, q6] 26)).alloc (.cells #[.int .u8 k1, p1, p2, p3, p4, p5, p6] 26)).alloc (.cells #[r0, r1, r2, r3, r4, r5, r6] 26)) w.heap.size #[.int .u8 k0, q1, q2, q3, q4, q5, q6] := ((Tb.new _ _ _ rfl).old _).old _
  have tB : Tb (((w.alloc (.cells #[.int .u8 k0, q1, q2, q3, q4, q5, q6] 26)).alloc (.cells #[.int .u8 k1, p1, p2, p3, p4, p5, p6] 26)).alloc (.cells #[r0, r1, r2, r3, r4, r5, r6] 26)) (w.heap.size + 1) #[.int .u8 k1, p1, p2, p3, p4, p5, p6] := (Tb.new _ _ _ (by simp)).old _
  have tC : Tb (((w.alloc (.cells #[.int .u8 k0, q1, q2, q3, q4, q5, q6] 26)).alloc (.cells #[.int .u8 k1, p1, p2, p3, p4, p5, p6] 26)).alloc (.cells #[r0, r1, r2, r3, r4, r5, r6] 26)) (w.heap.size + 1 + 1) #[r0, r1, r2, r3, r4, r5, r6] := Tb.new _ _ _ (by simp)
  have hU0 : Upd [] w (((w.alloc (.cells #[.int .u8 k0, q1, q2, q3, q4, q5, q6] 26)).alloc (.cells #[.int .u8 k1, p1, p2, p3, p4, p5, p6] 26)).alloc (.cells #[r0, r1, r2, r3, r4, r5, r6] 26)) := (((Upd.refl [] w).alloc _).alloc _).alloc _
  have HU0 : Hid _ := hU0
  have TA : Hid (Tb _ w.heap.size #[.int .u8 k0, q1, q2, q3, q4, q5, q6]) := tA
  have TB : Hid (Tb _ (w.heap.size + 1) #[.int .u8 k1, p1, p2, p3, p4, p5, p6]) := tB
  have TC : Hid (Tb _ (w.heap.size + 1 + 1) #[r0, r1, r2, r3, r4, r5, r6]) := tC
  clear tA tB tC hU0
  go_enter Tryd.func3, Tryd.ntmps3
  go_wp2_with fail
  refine Calls.mono (awake_any _ (HG.out.mono HU0.out)) ?_
  rintro e w1 ⟨rfl, h1⟩
  have U1 : Hid (Upd [] w w1) := HU0.out.trans h1
  have A1 := TA.out.mono h1 (by simp)
  have B1 := TB.out.mono h1 (by simp)
  have C1 := TC.out.mono h1 (by simp)
  clear h1 TA TB TC HU0
  go_wp2_with (first | (refine load_G _ _ rfl _ _ rfl A1 rfl rfl ?_) | (refine load_G _ _ rfl _ _ rfl B1 rfl rfl ?_) | (refine load_G _ _ rfl _ _ rfl C1 rfl rfl ?_) | fail)
  refine Calls.mono (GR.out _ _ (U1.out.alloc _) (Tb.new _ _ _ rfl)) ?_
  rintro e w2 ⟨⟨g, rfl⟩, h2⟩
  have hv : Upd [] w1 w2 := Upd.trans ((Upd.refl [] w1).alloc _) h2
  have U2 : Hid (Upd [] w w2) := U1.out.trans hv
  have A2 := A1.mono hv (by simp)
  have B2 := B1.mono hv (by simp)
  have C2 := C1.mono hv (by simp)
  clear h2 hv A1 B1 C1 U1 GR
  cases g with
  | true =>
    go_wp2
    go_ret
    exact ⟨rfl, U2.out⟩
  | false =>
    go_wp2_with (first | (refine load_G _ _ rfl _ _ rfl A2 rfl rfl ?_) | fail)
    refine Calls.mono (R0.out _ U2.out) ?_
    rintro e w3 ⟨rfl, h3⟩
    have U3 : Hid (Upd [] w w3) := U2.out.trans h3
    have B3 := B2.mono h3 (by simp)
    have A3 := A2.mono h3 (by simp)
    have C3 := C2.mono h3 (by simp)
    clear h3 A2 B2 C2 U2 R0
    cases o0 with
    | false =>
      go_wp2
      go_ret
      exact ⟨rfl, U3.out⟩
    | true =>
      go_wp2_with (first | (refine load_G _ _ rfl _ _ rfl B3 rfl rfl ?_) | fail)
      refine Calls.mono (R1.out _ U3.out) ?_
      rintro e w4 ⟨rfl, h4⟩
      have U4 : Hid (Upd [] w w4) := U3.out.trans h4
      have B4 := B3.mono h4 (by simp)
      have A4 := A3.mono h4 (by simp)
      have C4 := C3.mono h4 (by simp)
      clear h4 A3 B3 C3 U3 R1
      cases o1 with
      | false =>
        go_wp2
        go_ret
        exact ⟨rfl, U4.out⟩
      | true =>
        go_wp2_with (first | (refine load_G _ _ rfl _ _ rfl C4 rfl rfl ?_) | fail)
        refine Calls.mono (R2.out _ U4.out) ?_
        rintro e v1 ⟨rfl, h5⟩
        have UC : Hid (Upd [] w v1) := U4.out.trans h5
        have B5 := B4.mono h5 (by simp)
        have A5 := A4.mono h5 (by simp)
        have C5 := C4.mono h5 (by simp)
        have V1 : Hid (Upd [] w4 v1) := h5
        clear h5 A4 B4 C4 U4 R2
        cases o2 with
        | false =>
          go_wp2
          go_ret
          exact ⟨rfl, UC.out⟩
        | true =>
          obtain ⟨x, x', y, z, sm, says, hx, hy, hz, ht, hk⟩ := ord_says t0 t1 t2 O.out.1 O.out.2.1 O.out.2.2 (In.dig _ _ _ IA.out) (In.dig _ _ _ IB.out)
          have C01 : Hid (∀ W, Upd [] w W → Calls Tryd.prog 9 #[.agg #[.int .u8 k0, q1, q2, q3, q4, q5, q6], .agg #[.int .u8 k1, p1, p2, p3, p4, p5, p6]] W fun e w' => e = .returned (.int .i64 x) ∧ Upd [] W w') := fun W hu => cmp_call (In.mono hu _ _ _ IA.out) (In.mono hu _ _ _ IB.out) Z.out.1 Z.out.2.1 says.c01
          have C12 : Hid (∀ W, Upd [] w W → Calls Tryd.prog 9 #[.agg #[.int .u8 k1, p1, p2, p3, p4, p5, p6], .agg #[r0, r1, r2, r3, r4, r5, r6]] W fun e w' => e = .returned (.int .i64 y) ∧ Upd [] W w') := fun W hu => cmp_call (In.mono hu _ _ _ IB.out) (In.mono hu _ _ _ IC0.out) Z.out.2.1 Z.out.2.2 says.c12
          have C02 : Hid (∀ W, Upd [] w W → Calls Tryd.prog 9 #[.agg #[.int .u8 k0, q1, q2, q3, q4, q5, q6], .agg #[r0, r1, r2, r3, r4, r5, r6]] W fun e w' => e = .returned (.int .i64 z) ∧ Upd [] W w') := fun W hu => cmp_call (In.mono hu _ _ _ IA.out) (In.mono hu _ _ _ IC0.out) Z.out.1 Z.out.2.2 says.c02
          have C10 : Hid (∀ W, Upd [] w W → Calls Tryd.prog 9 #[.agg #[.int .u8 k1, p1, p2, p3, p4, p5, p6], .agg #[.int .u8 k0, q1, q2, q3, q4, q5, q6]] W fun e w' => e = .returned (.int .i64 x') ∧ Upd [] W w') := fun W hu => cmp_call (In.mono hu _ _ _ IB.out) (In.mono hu _ _ _ IA.out) Z.out.2.1 Z.out.1 says.c10
          have C00 : Hid (∀ W, Upd [] w W → Calls Tryd.prog 9 #[.agg #[.int .u8 k0, q1, q2, q3, q4, q5, q6], .agg #[.int .u8 k0, q1, q2, q3, q4, q5, q6]] W fun e w' => e = .returned (.int .i64 0) ∧ Upd [] W w') := fun W hu => cmp_call (In.mono hu _ _ _ IA.out) (In.mono hu _ _ _ IA.out) Z.out.1 Z.out.1 says.c00
          have S01 : Hid (∀ W, Upd [] w W → Calls Tryd.prog 10 #[.agg #[.int .u8 k0, q1, q2, q3, q4, q5, q6], .agg #[.int .u8 k1, p1, p2, p3, p4, p5, p6]] W fun e w' => e = .returned (.bool sm) ∧ Upd [] W w') := fun W hu => same_call (In.mono hu _ _ _ IA.out) (In.mono hu _ _ _ IB.out) Z.out.1 Z.out.2.1 says.s01
          have G01 : Hid (∀ W, Upd [] w W → Calls Tryd.prog 11 #[.agg #[.int .u8 k0, q1, q2, q3, q4, q5, q6], .agg #[.int .u8 k1, p1, p2, p3, p4, p5, p6]] W fun e w' => e = .returned (.bool sm) ∧ Upd [] W w') := fun W hu => by
            have := SamG_all d W _ _ t0 t1 (In.mono hu _ _ _ IA.out) (In.mono hu _ _ _ IB.out) Z.out.1 Z.out.2.1
            rw [says.g01] at this
            exact this
          have CP : Hid (∀ W, Upd [] w W → Calls Tryd.prog 12 #[.agg #[.int .u8 k0, q1, q2, q3, q4, q5, q6]] W (TermP W.heap.size W d t0)) := fun W hu => Copy_in W.heap.size d W _ t0 (Nat.le_refl _) (In.toB (fun x hx => hx) (Upd.refl [] _) _ _ _ (In.mono hu _ _ _ IA.out)) Z.out.1 (by
            have h1 := bel_lt t0
            have h2 := O.out.1
            unfold okS at h2
            rw [Bool.and_eq_true, decide_eq_true_eq] at h2
            omega)
          have SC : Hid (∀ W cs, Upd [] w W → In W d cs t0 → Calls Tryd.prog 10 #[.agg #[.int .u8 k0, q1, q2, q3, q4, q5, q6], .agg cs.toArray] W fun e w' => e = .returned (.bool true) ∧ Upd [] W w') := fun W cs hu hi => same_call (In.mono hu _ _ _ IA.out) hi Z.out.1 Z.out.1 says.s00
          have HS : Hid (∀ w', Upd [] v1 w' → w'.cell? ⟨w.heap.size, 0, none⟩ = some (.int .u8 k0) ∧ w'.cell? ⟨w.heap.size, 1, none⟩ = some (q1) ∧ w'.cell? ⟨w.heap.size, 2, none⟩ = some (q2) ∧ w'.cell? ⟨w.heap.size, 3, none⟩ = some (q3) ∧ w'.cell? ⟨w.heap.size, 4, none⟩ = some (q4) ∧ w'.cell? ⟨w.heap.size, 5, none⟩ = some (q5) ∧ w'.cell? ⟨w.heap.size, 6, none⟩ = some (q6) ∧ w'.cell? ⟨w.heap.size + 1, 0, none⟩ = some (.int .u8 k1) ∧ w'.cell? ⟨w.heap.size + 1, 1, none⟩ = some (p1) ∧ w'.cell? ⟨w.heap.size + 1, 2, none⟩ = some (p2) ∧ w'.cell? ⟨w.heap.size + 1, 3, none⟩ = some (p3) ∧ w'.cell? ⟨w.heap.size + 1, 4, none⟩ = some (p4) ∧ w'.cell? ⟨w.heap.size + 1, 5, none⟩ = some (p5) ∧ w'.cell? ⟨w.heap.size + 1, 6, none⟩ = some (p6) ∧ w'.cell? ⟨w.heap.size + 1 + 1, 0, none⟩ = some (r0) ∧ w'.cell? ⟨w.heap.size + 1 + 1, 1, none⟩ = some (r1) ∧ w'.cell? ⟨w.heap.size + 1 + 1, 2, none⟩ = some (r2) ∧ w'.cell? ⟨w.heap.size + 1 + 1, 3, none⟩ = some (r3) ∧ w'.cell? ⟨w.heap.size + 1 + 1, 4, none⟩ = some (r4) ∧ w'.cell? ⟨w.heap.size + 1 + 1, 5, none⟩ = some (r5) ∧ w'.cell? ⟨w.heap.size + 1 + 1, 6, none⟩ = some (r6)) := fun w' hu => ⟨(A5.mono hu (by simp)).cell 0, (A5.mono hu (by simp)).cell 1, (A5.mono hu (by simp)).cell 2, (A5.mono hu (by simp)).cell 3, (A5.mono hu (by simp)).cell 4, (A5.mono hu (by simp)).cell 5, (A5.mono hu (by simp)).cell 6, (B5.mono hu (by simp)).cell 0, (B5.mono hu (by simp)).cell 1, (B5.mono hu (by simp)).cell 2, (B5.mono hu (by simp)).cell 3, (B5.mono hu (by simp)).cell 4, (B5.mono hu (by simp)).cell 5, (B5.mono hu (by simp)).cell 6, (C5.mono hu (by simp)).cell 0, (C5.mono hu (by simp)).cell 1, (C5.mono hu (by simp)).cell 2, (C5.mono hu (by simp)).cell 3, (C5.mono hu (by simp)).cell 4, (C5.mono hu (by simp)).cell 5, (C5.mono hu (by simp)).cell 6⟩
          have UV : Hid (Upd [] w v1) := UC.out
          clear UC
          have UC : Hid (Upd [] v1 v1) := Upd.refl [] v1
          have HY : Hid (y = -1 ∨ y = 0 ∨ y = 1) := hy
          have HZ : Hid (z = -1 ∨ z = 0 ∨ z = 1) := hz
          have HT : Hid (x ≤ 0 → y ≤ 0 → z ≤ 0 ∧ (z = 0 → x = 0 ∧ y = 0)) := ht
          have HK : Hid (k0 < k1 → x = -1) := by rw [← E.out.1, ← E.out.2]; exact hk
          have hw1 : IntKind.i64.wrap 1 = 1 := by decide
          have hw0 : IntKind.i64.wrap 0 = 0 := by decide
          have hwm : IntKind.i64.wrap (-1) = -1 := by decide
          clear says A5 B5 C5 hy hz ht hk IA IB IC0 O Z E HG
          rcases hx with ⟨rfl, rfl, rfl⟩ | ⟨rfl, rfl, rfl⟩ | ⟨rfl, rfl, rfl⟩
          all_goals
            go_wp2_with fail
            go_region_held3 (fun w' => w'.cell? ⟨w.heap.size, 0, none⟩ = some (.int .u8 k0) ∧ w'.cell? ⟨w.heap.size, 1, none⟩ = some (q1) ∧ w'.cell? ⟨w.heap.size, 2, none⟩ = some (q2) ∧ w'.cell? ⟨w.heap.size, 3, none⟩ = some (q3) ∧ w'.cell? ⟨w.heap.size, 4, none⟩ = some (q4) ∧ w'.cell? ⟨w.heap.size, 5, none⟩ = some (q5) ∧ w'.cell? ⟨w.heap.size, 6, none⟩ = some (q6) ∧ w'.cell? ⟨w.heap.size + 1, 0, none⟩ = some (.int .u8 k1) ∧ w'.cell? ⟨w.heap.size + 1, 1, none⟩ = some (p1) ∧ w'.cell? ⟨w.heap.size + 1, 2, none⟩ = some (p2) ∧ w'.cell? ⟨w.heap.size + 1, 3, none⟩ = some (p3) ∧ w'.cell? ⟨w.heap.size + 1, 4, none⟩ = some (p4) ∧ w'.cell? ⟨w.heap.size + 1, 5, none⟩ = some (p5) ∧ w'.cell? ⟨w.heap.size + 1, 6, none⟩ = some (p6) ∧ w'.cell? ⟨w.heap.size + 1 + 1, 0, none⟩ = some (r0) ∧ w'.cell? ⟨w.heap.size + 1 + 1, 1, none⟩ = some (r1) ∧ w'.cell? ⟨w.heap.size + 1 + 1, 2, none⟩ = some (r2) ∧ w'.cell? ⟨w.heap.size + 1 + 1, 3, none⟩ = some (r3) ∧ w'.cell? ⟨w.heap.size + 1 + 1, 4, none⟩ = some (r4) ∧ w'.cell? ⟨w.heap.size + 1 + 1, 5, none⟩ = some (r5) ∧ w'.cell? ⟨w.heap.size + 1 + 1, 6, none⟩ = some (r6))
              (first | exact HS.out _ UC.out | exact HS.out _ UC.out.drew | exact HS.out _ (UC.out.alloc _))
              (first
              | (go_at_call 9; (have _ := V3); go_loud (refine Calls.mono (C02.out _ (UV.out.trans (Upd.trans UC.out (by repeat (first | exact Upd.refl _ _ | refine Upd.drew ?_ | refine Upd.alloc ?_ _))))) ?_); rintro e v4 ⟨rfl, h4⟩; have V4 : Hid (Upd [] v3 v4) := Upd.trans (by repeat (first | exact Upd.refl _ _ | refine Upd.drew ?_ | refine Upd.alloc ?_ _)) h4; have UC : Hid (Upd [] v1 v4) := UC.out.trans V4.out; clear h4)
              | (go_at_call 9; (have _ := V2); go_loud (refine Calls.mono (C12.out _ (UV.out.trans (Upd.trans UC.out (by repeat (first | exact Upd.refl _ _ | refine Upd.drew ?_ | refine Upd.alloc ?_ _))))) ?_); rintro e v3 ⟨rfl, h3⟩; have V3 : Hid (Upd [] v2 v3) := Upd.trans (by repeat (first | exact Upd.refl _ _ | refine Upd.drew ?_ | refine Upd.alloc ?_ _)) h3; have UC : Hid (Upd [] v1 v3) := UC.out.trans V3.out; clear h3)
              | (go_at_call 9; (have _ := V1); go_loud (refine Calls.mono (C01.out _ (UV.out.trans (Upd.trans UC.out (by repeat (first | exact Upd.refl _ _ | refine Upd.drew ?_ | refine Upd.alloc ?_ _))))) ?_); rintro e v2 ⟨rfl, h2⟩; have V2 : Hid (Upd [] v1 v2) := Upd.trans (by repeat (first | exact Upd.refl _ _ | refine Upd.drew ?_ | refine Upd.alloc ?_ _)) h2; have UC : Hid (Upd [] v1 v2) := UC.out.trans V2.out; clear h2))
            go_wp2_with fail
            have UC5 : Hid (Upd [] v1 v4) := UC.out
            go_region_held3 (fun w' => w'.cell? ⟨w.heap.size, 0, none⟩ = some (.int .u8 k0) ∧ w'.cell? ⟨w.heap.size, 1, none⟩ = some (q1) ∧ w'.cell? ⟨w.heap.size, 2, none⟩ = some (q2) ∧ w'.cell? ⟨w.heap.size, 3, none⟩ = some (q3) ∧ w'.cell? ⟨w.heap.size, 4, none⟩ = some (q4) ∧ w'.cell? ⟨w.heap.size, 5, none⟩ = some (q5) ∧ w'.cell? ⟨w.heap.size, 6, none⟩ = some (q6) ∧ w'.cell? ⟨w.heap.size + 1, 0, none⟩ = some (.int .u8 k1) ∧ w'.cell? ⟨w.heap.size + 1, 1, none⟩ = some (p1) ∧ w'.cell? ⟨w.heap.size + 1, 2, none⟩ = some (p2) ∧ w'.cell? ⟨w.heap.size + 1, 3, none⟩ = some (p3) ∧ w'.cell? ⟨w.heap.size + 1, 4, none⟩ = some (p4) ∧ w'.cell? ⟨w.heap.size + 1, 5, none⟩ = some (p5) ∧ w'.cell? ⟨w.heap.size + 1, 6, none⟩ = some (p6) ∧ w'.cell? ⟨w.heap.size + 1 + 1, 0, none⟩ = some (r0) ∧ w'.cell? ⟨w.heap.size + 1 + 1, 1, none⟩ = some (r1) ∧ w'.cell? ⟨w.heap.size + 1 + 1, 2, none⟩ = some (r2) ∧ w'.cell? ⟨w.heap.size + 1 + 1, 3, none⟩ = some (r3) ∧ w'.cell? ⟨w.heap.size + 1 + 1, 4, none⟩ = some (r4) ∧ w'.cell? ⟨w.heap.size + 1 + 1, 5, none⟩ = some (r5) ∧ w'.cell? ⟨w.heap.size + 1 + 1, 6, none⟩ = some (r6))
              (first | exact HS.out _ UC.out | exact HS.out _ UC.out.drew | exact HS.out _ (UC.out.alloc _))
              (first
              | (go_at_call 10; (have _ := V9); go_loud (refine Calls.mono (SC.out _ _ (UV.out.trans UC.out) IC.out) ?_); rintro e v10 ⟨rfl, h10⟩; have V10 : Hid (Upd [] v9 v10) := Upd.trans (by repeat (first | exact Upd.refl _ _ | refine Upd.drew ?_ | refine Upd.alloc ?_ _)) h10; have UC : Hid (Upd [] v1 v10) := UC.out.trans V10.out; clear h10)
              | (go_at_call 12; (have _ := V8); go_loud (refine Calls.mono (CP.out _ (UV.out.trans (Upd.trans UC.out (by repeat (first | exact Upd.refl _ _ | refine Upd.drew ?_ | refine Upd.alloc ?_ _))))) ?_); rintro e v9 ⟨cc, lc, rfl, ic, h9⟩; have V9 : Hid (Upd [] v8 v9) := Upd.trans (by repeat (first | exact Upd.refl _ _ | refine Upd.drew ?_ | refine Upd.alloc ?_ _)) h9; have IC : Hid (In v9 d cc t0) := InB.plain _ _ _ ic; obtain ⟨e0, e1, e2, e3, e4, e5, e6, rfl⟩ := list7 lc; clear lc ic; have UC : Hid (Upd [] v1 v9) := UC.out.trans V9.out; clear h9)
              | (go_at_call 11; (have _ := V7); go_loud (refine Calls.mono (G01.out _ (UV.out.trans (Upd.trans UC.out (by repeat (first | exact Upd.refl _ _ | refine Upd.drew ?_ | refine Upd.alloc ?_ _))))) ?_); rintro e v8 ⟨rfl, h8⟩; have V8 : Hid (Upd [] v7 v8) := Upd.trans (by repeat (first | exact Upd.refl _ _ | refine Upd.drew ?_ | refine Upd.alloc ?_ _)) h8; have UC : Hid (Upd [] v1 v8) := UC.out.trans V8.out; clear h8)
              | (go_at_call 10; (have _ := V6); go_loud (refine Calls.mono (S01.out _ (UV.out.trans (Upd.trans UC.out (by repeat (first | exact Upd.refl _ _ | refine Upd.drew ?_ | refine Upd.alloc ?_ _))))) ?_); rintro e v7 ⟨rfl, h7⟩; have V7 : Hid (Upd [] v6 v7) := Upd.trans (by repeat (first | exact Upd.refl _ _ | refine Upd.drew ?_ | refine Upd.alloc ?_ _)) h7; have UC : Hid (Upd [] v1 v7) := UC.out.trans V7.out; clear h7)
              | (go_at_call 9; (have _ := V5); go_loud (refine Calls.mono (C00.out _ (UV.out.trans (Upd.trans UC.out (by repeat (first | exact Upd.refl _ _ | refine Upd.drew ?_ | refine Upd.alloc ?_ _))))) ?_); rintro e v6 ⟨rfl, h6⟩; have V6 : Hid (Upd [] v5 v6) := Upd.trans (by repeat (first | exact Upd.refl _ _ | refine Upd.drew ?_ | refine Upd.alloc ?_ _)) h6; have UC : Hid (Upd [] v1 v6) := UC.out.trans V6.out; clear h6)
              | (go_at_call 9; (have _ := V4); go_loud (refine Calls.mono (C10.out _ (UV.out.trans (Upd.trans UC.out (by repeat (first | exact Upd.refl _ _ | refine Upd.drew ?_ | refine Upd.alloc ?_ _))))) ?_); rintro e v5 ⟨rfl, h5⟩; have V5 : Hid (Upd [] v4 v5) := Upd.trans (by repeat (first | exact Upd.refl _ _ | refine Upd.drew ?_ | refine Upd.alloc ?_ _)) h5; have UC : Hid (Upd [] v1 v5) := UC.out.trans V5.out; clear h5))
            have hs := HS.out _ UC.out
            have ka : v10.cell? ⟨w.heap.size, 0, none⟩ = some (.int .u8 k0) := hs.1
            have kb : v10.cell? ⟨w.heap.size + 1, 0, none⟩ = some (.int .u8 k1) := hs.2.2.2.2.2.2.2.1
            have UE : Hid (Upd [] w v10) := UV.out.trans UC.out
            clear hs C01 C12 C02 C10 C00 S01 G01 CP SC HS UC UC5 UV IC V1 V2 V3 V4 V5 V6 V7 V8 V9 V10
            rcases HY.out with rfl | rfl | rfl
            all_goals
              rcases HZ.out with rfl | rfl | rfl
              all_goals
                first
                | (exfalso; have := HT.out; omega)
                | (by_cases hk : k0 < k1
                   · have hd : decide (k1 ≤ k0) = false := by simp; omega
                     first
                     | (exfalso; have := HK.out hk; omega)
                     | (go_wp2
                        go_ret
                        exact ⟨rfl, UE.out⟩)
                   · have hd : k1 ≤ k0 := by omega
                     go_wp2
                     go_ret
                     exact ⟨rfl, UE.out⟩)
end Go.Proofs.YtplkcegdmlfhcaaDoor
