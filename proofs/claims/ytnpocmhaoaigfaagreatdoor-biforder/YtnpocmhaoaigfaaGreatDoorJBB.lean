/- BifOrder, walked. -/
import Derived.Test.YtnpocmhaoaigfaaGreatDoorJBA
import Derived.Deep.RegionHeld3
import Derived.Test.YtnpocmhaoaigfaaGreatDoorBfS
import Derived.Deep.DeepWitnessRowRef
import Derived.Test.YtnpocmhaoaigfaaGreatDoorTreeO
import Derived.Test.YtnpocmhaoaigfaaGreatDoorCards
import Derived.Test.YtnpocmhaoaigfaaGreatDoorTie

namespace Go.Proofs.YtnpocmhaoaigfaaGreatDoor
open Go.RowKit

set_option maxHeartbeats 16000000 in
set_option maxRecDepth 100000 in
theorem Order_gt (w : World) (d : Nat) (cs0 cs1 : List Value) (t u : Tm) (hB : Blt w) (h0 : In w (d + 1) cs0 t) (h1 : In w (d + 1) cs1 u) (z0 : tsz t ≤ 1353245080330) (z1 : tsz u ≤ 1353245080330) (e0 : okS t = true) (e1 : okS u = true) (hc : cmpS t u = 1) (hyx : decide (cmpS u t ≤ 0) = true) (hXA : samS t t = true) (hYB : samS u u = true) :
    Calls Tryz.prog 3 #[.agg cs0.toArray, .agg cs1.toArray] w fun e w' => e = .returned (.bool true) ∧ Upd [] w w' := by
  obtain ⟨k1, m1, g1, s1, a11, a12, a13, n11, n12, n13, c11, c12, c13, rfl⟩ := In.shape h0
  obtain ⟨k2, m2, g2, s2, a21, a22, a23, n21, n22, n23, c21, c22, c23, rfl⟩ := In.shape h1
  obtain ⟨o0, ho0⟩ : ∃ o, o = true := ⟨_, rfl⟩
  obtain ⟨o1, ho1⟩ : ∃ o, o = true := ⟨_, rfl⟩
  have HO : Hid (okS t = o0 ∧ okS u = o1) := by rw [ho0, ho1]; exact ⟨e0, e1⟩
  have HC : Hid (cmpS t u = 1) := hc
  clear e0 e1 hc
  have HYX : Hid (decide (cmpS u t ≤ 0) = true) := hyx
  have HXA : Hid (samS t t = true) := hXA
  have HYB : Hid (samS u u = true) := hYB
  clear hyx hXA hYB
  have HB : Hid (Blt w) := hB
  have H0 : Hid (In w (d + 1) [.int .u8 k1, .bool g1, .slice a11 n11 c11, .string s1, .int .i64 m1, .slice a12 n12 c12, .slice a13 n13 c13] t) := h0
  have H1 : Hid (In w (d + 1) [.int .u8 k2, .bool g2, .slice a21 n21 c21, .string s2, .int .i64 m2, .slice a22 n22 c22, .slice a23 n23 c23] u) := h1
  have Z : Hid (tsz t ≤ 1353245080330 ∧ tsz u ≤ 1353245080330) := ⟨z0, z1⟩
  have ROW : Hid (∀ W g, Upd [] w W → Tb W g #[.int .u8 k1, .bool g1, .slice a11 n11 c11, .string s1, .int .i64 m1, .slice a12 n12 c12, .slice a13 n13 c13, .int .u8 k2, .bool g2, .slice a21 n21 c21, .string s2, .int .i64 m2, .slice a22 n22 c22, .slice a23 n23 c23] → RowAt (In W (d + 1)) W (some ⟨g, 0, none⟩) [t, u]) := fun W g hu hT => row_two hT (In.mono hu _ _ _ h0) (In.mono hu _ _ _ h1)
  have SM : Hid (∀ W g, Upd [] w W → Tb W g #[.int .u8 k1, .bool g1, .slice a11 n11 c11, .string s1, .int .i64 m1, .slice a12 n12 c12, .slice a13 n13 c13, .int .u8 k2, .bool g2, .slice a21 n21 c21, .string s2, .int .i64 m2, .slice a22 n22 c22, .slice a23 n23 c23] → Calls Tryz.prog 6 #[.slice (some ⟨g, 0, none⟩) 2 2] W fun e w' => IsBool e ∧ Upd [] W w') := fun W g hu hT => small_in (d + 1) W _ 2 [t, u] (ROW.out W g hu hT) (tszs_le _ _ (by simp) (fun i hi => by
    have : i = 0 ∨ i = 1 := by simp at hi; omega
    rcases this with rfl | rfl
    · exact z0
    · exact z1))
  have tA : Tb ((w.alloc (.cells #[.int .u8 k1, .bool g1, .slice a11 n11 c11, .string s1, .int .i64 m1, .slice a12 n12 c12, .slice a13 n13 c13] 26)).alloc (.cells #[.int .u8 k2, .bool g2, .slice a21 n21 c21, .string s2, .int .i64 m2, .slice a22 n22 c22, .slice a23 n23 c23] 26)) w.heap.size #[.int .u8 k1, .bool g1, .slice a11 n11 c11, .string s1, .int .i64 m1, .slice a12 n12 c12, .slice a13 n13 c13] := (Tb.new _ _ _ rfl).old _
  have tB : Tb ((w.alloc (.cells #[.int .u8 k1, .bool g1, .slice a11 n11 c11, .string s1, .int .i64 m1, .slice a12 n12 c12, .slice a13 n13 c13] 26)).alloc (.cells #[.int .u8 k2, .bool g2, .slice a21 n21 c21, .string s2, .int .i64 m2, .slice a22 n22 c22, .slice a23 n23 c23] 26)) (w.heap.size + 1) #[.int .u8 k2, .bool g2, .slice a21 n21 c21, .string s2, .int .i64 m2, .slice a22 n22 c22, .slice a23 n23 c23] := Tb.new _ _ _ (by simp)
  have HU0 : Hid (Upd [] w ((w.alloc (.cells #[.int .u8 k1, .bool g1, .slice a11 n11 c11, .string s1, .int .i64 m1, .slice a12 n12 c12, .slice a13 n13 c13] 26)).alloc (.cells #[.int .u8 k2, .bool g2, .slice a21 n21 c21, .string s2, .int .i64 m2, .slice a22 n22 c22, .slice a23 n23 c23] 26))) := ((Upd.refl [] w).alloc _).alloc _
  clear h0 h1 hB z0 z1
  go_enter Tryz.func3, Tryz.ntmps3
  go_wp2_with fail
  refine Calls.mono (awake_any _ (HB.out.mono HU0.out)) ?_
  rintro e w1 ⟨rfl, v1⟩
  have U1 : Hid (Upd [] w w1) := HU0.out.trans v1
  have tA1 := tA.mono v1 (by simp)
  have tB1 := tB.mono v1 (by simp)
  clear v1 tA tB HU0
  go_wp2_with (first | (refine load_G _ _ rfl _ _ rfl tA1 rfl rfl ?_) | (refine load_G _ _ rfl _ _ rfl tB1 rfl rfl ?_) | fail)
  refine Calls.mono (SM.out _ _ (U1.out.alloc _) (Tb.new _ _ _ rfl)) ?_
  rintro e w2 ⟨⟨g, rfl⟩, v2⟩
  have hv : Upd [] w1 w2 := Upd.trans ((Upd.refl [] w1).alloc _) v2
  have U2 : Hid (Upd [] w w2) := U1.out.trans hv
  have tA2 := tA1.mono hv (by simp)
  have tB2 := tB1.mono hv (by simp)
  clear v2 hv tA1 tB1 U1 SM
  cases g with
  | false =>
    clear tA2 tB2
    go_wp2
    go_ret
    exact ⟨rfl, U2.out⟩
  | true =>
  have RA : Hid (∀ W, Upd [] w W → Calls Tryz.prog 7 #[.agg #[.int .u8 k1, .bool g1, .slice a11 n11 c11, .string s1, .int .i64 m1, .slice a12 n12 c12, .slice a13 n13 c13]] W fun e w' => e = .returned (.bool o0) ∧ Upd [] W w') := fun W hu => by rw [← HO.out.1]; exact TRight_in (d + 1) W _ t (In.mono hu _ _ _ H0.out) Z.out.1
  have RB : Hid (∀ W, Upd [] w W → Calls Tryz.prog 7 #[.agg #[.int .u8 k2, .bool g2, .slice a21 n21 c21, .string s2, .int .i64 m2, .slice a22 n22 c22, .slice a23 n23 c23]] W fun e w' => e = .returned (.bool o1) ∧ Upd [] W w') := fun W hu => by rw [← HO.out.2]; exact TRight_in (d + 1) W _ u (In.mono hu _ _ _ H1.out) Z.out.2
  go_wp2_with (first | (refine load_G _ _ rfl _ _ rfl tA2 rfl rfl ?_) | fail)
  refine Calls.mono (RA.out _ U2.out) ?_
  rintro e w3 ⟨rfl, v3⟩
  have U3 : Hid (Upd [] w w3) := U2.out.trans v3
  have tA3 := tA2.mono v3 (by simp)
  have tB3 := tB2.mono v3 (by simp)
  clear v3 tA2 tB2 U2 RA
  subst ho0
  subst ho1
  go_wp2_with (first | (refine load_G _ _ rfl _ _ rfl tB3 rfl rfl ?_) | fail)
  refine Calls.mono (RB.out _ U3.out) ?_
  rintro e w4 ⟨rfl, v4⟩
  have U4 : Hid (Upd [] w w4) := U3.out.trans v4
  have tA4 := tA3.mono v4 (by simp)
  have tB4 := tB3.mono v4 (by simp)
  clear v4 tA3 tB3 U3 RB
  go_wp2_with (first | (refine load_G _ _ rfl _ _ rfl tA4 rfl rfl ?_) | (refine load_G _ _ rfl _ _ rfl tB4 rfl rfl ?_) | fail)
  refine Calls.mono (yes_lt (r := false) _ _ (HB.out.mono (U4.out.alloc _)) (ROW.out _ _ (U4.out.alloc _) (Tb.new _ _ _ rfl)) HO.out.1 HO.out.2 (by rw [HC.out]; decide)) ?_
  rintro e w5 ⟨rfl, vv⟩
  have hv : Upd [] w4 w5 := Upd.trans ((Upd.refl [] w4).alloc _) vv
  have U5 : Hid (Upd [] w w5) := U4.out.trans hv
  have tA5 := tA4.mono hv (by simp)
  have tB5 := tB4.mono hv (by simp)
  clear vv hv tA4 tB4 U4
  go_wp2_with (first | (refine load_G _ _ rfl _ _ rfl tA5 rfl rfl ?_) | (refine load_G _ _ rfl _ _ rfl tB5 rfl rfl ?_) | fail)
  refine Calls.mono (yes_eq (r := false) _ _ (HB.out.mono (U5.out.alloc _)) (ROW.out _ _ (U5.out.alloc _) (Tb.new _ _ _ rfl)) HO.out.1 HO.out.2 (by rw [HC.out]; decide)) ?_
  rintro e w6 ⟨rfl, vv⟩
  have hv : Upd [] w5 w6 := Upd.trans ((Upd.refl [] w5).alloc _) vv
  have U6 : Hid (Upd [] w w6) := U5.out.trans hv
  have tA6 := tA5.mono hv (by simp)
  have tB6 := tB5.mono hv (by simp)
  clear vv hv tA5 tB5 U5
  go_wp2_with (first | (refine load_G _ _ rfl _ _ rfl tA6 rfl rfl ?_) | (refine load_G _ _ rfl _ _ rfl tB6 rfl rfl ?_) | fail)
  refine Calls.mono (yes_gt (r := true) _ _ (HB.out.mono (U6.out.alloc _)) (ROW.out _ _ (U6.out.alloc _) (Tb.new _ _ _ rfl)) HO.out.1 HO.out.2 (by rw [HC.out]; decide)) ?_
  rintro e w7 ⟨rfl, vv⟩
  have hv : Upd [] w6 w7 := Upd.trans ((Upd.refl [] w6).alloc _) vv
  have U7 : Hid (Upd [] w w7) := U6.out.trans hv
  have tA7 := tA6.mono hv (by simp)
  have tB7 := tB6.mono hv (by simp)
  clear vv hv tA6 tB6 U6
  go_wp2_with (first | (refine load_G _ _ rfl _ _ rfl tA7 rfl rfl ?_) | (refine load_G _ _ rfl _ _ rfl tB7 rfl rfl ?_) | fail)
  refine Calls.mono (lc_max (v := t) _ _ (HB.out.mono (U7.out.alloc _)) (ROW.out _ _ (U7.out.alloc _) (Tb.new _ _ _ rfl)) HO.out.1 HO.out.2 (by rw [HC.out]; rfl)) ?_
  rintro e w8 ⟨cs, v, l7, rfl, hin, hveq, vv⟩
  rw [hveq] at hin
  have hv : Upd [] w7 w8 := Upd.trans ((Upd.refl [] w7).alloc _) vv
  have on8 := hin.plain.one
  obtain ⟨k3, m3, g3, s3, a31, a32, a33, n31, n32, n33, c31, c32, c33, rfl⟩ := In.shape hin.plain
  have Hx : Hid (In w8 (d + 1) [.int .u8 k3, .bool g3, .slice a31 n31 c31, .string s3, .int .i64 m3, .slice a32 n32 c32, .slice a33 n33 c33] t) := hin.plain
  have U8 : Hid (Upd [] w w8) := U7.out.trans hv
  have tA8 := tA7.mono hv (by simp)
  have tB8 := tB7.mono hv (by simp)
  have tz8 : Tb (w8.alloc (.cells #[.int .u8 0, .bool false, .slice none 0 0, .string ⟨#[]⟩, .int .i64 0, .slice none 0 0, .slice none 0 0] 26)) w8.heap.size #[.int .u8 0, .bool false, .slice none 0 0, .string ⟨#[]⟩, .int .i64 0, .slice none 0 0, .slice none 0 0] := Tb.new _ _ _ rfl
  clear vv hv tA7 tB7 U7 hin l7 hveq
  go_wp2_with (first | (refine store_T _ rfl _ _ rfl _ #[.int .u8 k3, .bool g3, .slice a31 n31 c31, .string s3, .int .i64 m3, .slice a32 n32 c32, .slice a33 n33 c33] _ rfl rfl tz8 rfl rfl on8 ?_; intro w9 tx9 hU9; have V9 : Hid (Upd [] w8 w9) := ((Upd.refl [] w8).alloc _).then hU9 (by simp); have U9 : Hid (Upd [] w w9) := U8.out.trans V9.out; have tA9 := tA8.mono V9.out (by simp); have tB9 := tB8.mono V9.out (by simp); clear hU9 tz8 tA8 tB8) | (refine load_G _ _ rfl _ _ rfl tA9 rfl rfl ?_) | (refine load_G _ _ rfl _ _ rfl tB9 rfl rfl ?_) | fail)
  refine Calls.mono (lc_min (v := u) _ _ (HB.out.mono (U9.out.alloc _)) (ROW.out _ _ (U9.out.alloc _) (Tb.new _ _ _ rfl)) HO.out.1 HO.out.2 (by rw [HC.out]; rfl)) ?_
  rintro e w10 ⟨cs, v, l7, rfl, hin, hveq, vv⟩
  rw [hveq] at hin
  have hv : Upd [] w9 w10 := Upd.trans ((Upd.refl [] w9).alloc _) vv
  have on10 := hin.plain.one
  obtain ⟨k4, m4, g4, s4, a41, a42, a43, n41, n42, n43, c41, c42, c43, rfl⟩ := In.shape hin.plain
  have Hy : Hid (In w10 (d + 1) [.int .u8 k4, .bool g4, .slice a41 n41 c41, .string s4, .int .i64 m4, .slice a42 n42 c42, .slice a43 n43 c43] u) := hin.plain
  have U10 : Hid (Upd [] w w10) := U9.out.trans hv
  have tA10 := tA9.mono hv (by simp)
  have tB10 := tB9.mono hv (by simp)
  have tz10 : Tb (w10.alloc (.cells #[.int .u8 0, .bool false, .slice none 0 0, .string ⟨#[]⟩, .int .i64 0, .slice none 0 0, .slice none 0 0] 26)) w10.heap.size #[.int .u8 0, .bool false, .slice none 0 0, .string ⟨#[]⟩, .int .i64 0, .slice none 0 0, .slice none 0 0] := Tb.new _ _ _ rfl
  have tx10 := tx9.mono hv (by simp)
  have V10 : Hid (Upd [] w9 w10) := hv
  clear vv hv tA9 tB9 U9 hin l7 tx9 hveq
  go_wp2_with (first | (refine store_T _ rfl _ _ rfl _ #[.int .u8 k4, .bool g4, .slice a41 n41 c41, .string s4, .int .i64 m4, .slice a42 n42 c42, .slice a43 n43 c43] _ rfl rfl tz10 rfl rfl on10 ?_; intro w11 ty11 hU11; have V11 : Hid (Upd [] w10 w11) := ((Upd.refl [] w10).alloc _).then hU11 (by simp); have U11 : Hid (Upd [] w w11) := U10.out.trans V11.out; have tA11 := tA10.mono V11.out (by simp); have tB11 := tB10.mono V11.out (by simp); have tx11 := tx10.mono V11.out (by simp); clear hU11 tz10 tA10 tB10 tx10) | fail)
  rename_i K1 hK1
  have Hx9 : Hid (In w9 (d + 1) [.int .u8 k3, .bool g3, .slice a31 n31 c31, .string s3, .int .i64 m3, .slice a32 n32 c32, .slice a33 n33 c33] t) := In.mono V9.out _ _ _ Hx.out
  have YleYX : Hid (∀ W g, Upd [] w11 W → Tb W g #[.int .u8 k4, .bool g4, .slice a41 n41 c41, .string s4, .int .i64 m4, .slice a42 n42 c42, .slice a43 n43 c43, .int .u8 k3, .bool g3, .slice a31 n31 c31, .string s3, .int .i64 m3, .slice a32 n32 c32, .slice a33 n33 c33] → Calls Tryz.prog 8 #[.string ⟨#[61, 60]⟩, .slice (some ⟨g, 0, none⟩) 2 2] W fun e w' => e = .returned (.bool true) ∧ Upd [] W w') := fun W g hu hT => yes_le _ W (HB.out.mono (U11.out.trans hu)) (row_two hT (In.mono (V11.out.trans hu) _ _ _ Hy.out) (In.mono ((V10.out.trans V11.out).trans hu) _ _ _ Hx9.out)) HO.out.2 HO.out.1 HYX.out
  have YeqAB : Hid (∀ W g, Upd [] w11 W → Tb W g #[.int .u8 k1, .bool g1, .slice a11 n11 c11, .string s1, .int .i64 m1, .slice a12 n12 c12, .slice a13 n13 c13, .int .u8 k2, .bool g2, .slice a21 n21 c21, .string s2, .int .i64 m2, .slice a22 n22 c22, .slice a23 n23 c23] → Calls Tryz.prog 8 #[.string ⟨#[61, 61]⟩, .slice (some ⟨g, 0, none⟩) 2 2] W fun e w' => e = .returned (.bool false) ∧ Upd [] W w') := fun W g hu hT => yes_eq _ W (HB.out.mono (U11.out.trans hu)) (row_two hT (In.mono (U11.out.trans hu) _ _ _ H0.out) (In.mono (U11.out.trans hu) _ _ _ H1.out)) HO.out.1 HO.out.2 (by rw [HC.out]; decide)
  have YeeAB : Hid (∀ W g, Upd [] w11 W → Tb W g #[.int .u8 k1, .bool g1, .slice a11 n11 c11, .string s1, .int .i64 m1, .slice a12 n12 c12, .slice a13 n13 c13, .int .u8 k2, .bool g2, .slice a21 n21 c21, .string s2, .int .i64 m2, .slice a22 n22 c22, .slice a23 n23 c23] → Calls Tryz.prog 8 #[.string ⟨#[61, 58, 61]⟩, .slice (some ⟨g, 0, none⟩) 2 2] W fun e w' => e = .returned (.bool false) ∧ Upd [] W w') := fun W g hu hT => yes_ee _ W (HB.out.mono (U11.out.trans hu)) (row_two hT (In.mono (U11.out.trans hu) _ _ _ H0.out) (In.mono (U11.out.trans hu) _ _ _ H1.out)) HO.out.1 HO.out.2 (by rw [HC.out]; decide)
  have YneAB : Hid (∀ W g, Upd [] w11 W → Tb W g #[.int .u8 k1, .bool g1, .slice a11 n11 c11, .string s1, .int .i64 m1, .slice a12 n12 c12, .slice a13 n13 c13, .int .u8 k2, .bool g2, .slice a21 n21 c21, .string s2, .int .i64 m2, .slice a22 n22 c22, .slice a23 n23 c23] → Calls Tryz.prog 8 #[.string ⟨#[47, 61]⟩, .slice (some ⟨g, 0, none⟩) 2 2] W fun e w' => e = .returned (.bool true) ∧ Upd [] W w') := fun W g hu hT => yes_ne _ W (HB.out.mono (U11.out.trans hu)) (row_two hT (In.mono (U11.out.trans hu) _ _ _ H0.out) (In.mono (U11.out.trans hu) _ _ _ H1.out)) HO.out.1 HO.out.2 (by rw [HC.out]; decide)
  have SXA : Hid (∀ W, Upd [] w11 W → Calls Tryz.prog 10 #[.agg #[.int .u8 k3, .bool g3, .slice a31 n31 c31, .string s3, .int .i64 m3, .slice a32 n32 c32, .slice a33 n33 c33], .agg #[.int .u8 k1, .bool g1, .slice a11 n11 c11, .string s1, .int .i64 m1, .slice a12 n12 c12, .slice a13 n13 c13]] W fun e w' => e = .returned (.bool true) ∧ Upd [] W w') := fun W hu => by
    rw [← HXA.out]
    exact TSame_in (d + 1) W _ _ _ _ (In.mono ((V10.out.trans V11.out).trans hu) _ _ _ Hx9.out) (In.mono (U11.out.trans hu) _ _ _ H0.out) (okS_tsz HO.out.1) (okS_tsz HO.out.1)
  have SYB : Hid (∀ W, Upd [] w11 W → Calls Tryz.prog 10 #[.agg #[.int .u8 k4, .bool g4, .slice a41 n41 c41, .string s4, .int .i64 m4, .slice a42 n42 c42, .slice a43 n43 c43], .agg #[.int .u8 k2, .bool g2, .slice a21 n21 c21, .string s2, .int .i64 m2, .slice a22 n22 c22, .slice a23 n23 c23]] W fun e w' => e = .returned (.bool true) ∧ Upd [] W w') := fun W hu => by
    rw [← HYB.out]
    exact TSame_in (d + 1) W _ _ _ _ (In.mono (V11.out.trans hu) _ _ _ Hy.out) (In.mono (U11.out.trans hu) _ _ _ H1.out) (okS_tsz HO.out.2) (okS_tsz HO.out.2)
  have YleAB : Hid (∀ W g, Upd [] w11 W → Tb W g #[.int .u8 k1, .bool g1, .slice a11 n11 c11, .string s1, .int .i64 m1, .slice a12 n12 c12, .slice a13 n13 c13, .int .u8 k2, .bool g2, .slice a21 n21 c21, .string s2, .int .i64 m2, .slice a22 n22 c22, .slice a23 n23 c23] → Calls Tryz.prog 8 #[.string ⟨#[61, 60]⟩, .slice (some ⟨g, 0, none⟩) 2 2] W fun e w' => e = .returned (.bool false) ∧ Upd [] W w') := fun W g hu hT => yes_le _ W (HB.out.mono (U11.out.trans hu)) (row_two hT (In.mono (U11.out.trans hu) _ _ _ H0.out) (In.mono (U11.out.trans hu) _ _ _ H1.out)) HO.out.1 HO.out.2 (by rw [HC.out]; decide)
  have YgtAB : Hid (∀ W g, Upd [] w11 W → Tb W g #[.int .u8 k1, .bool g1, .slice a11 n11 c11, .string s1, .int .i64 m1, .slice a12 n12 c12, .slice a13 n13 c13, .int .u8 k2, .bool g2, .slice a21 n21 c21, .string s2, .int .i64 m2, .slice a22 n22 c22, .slice a23 n23 c23] → Calls Tryz.prog 8 #[.string ⟨#[62]⟩, .slice (some ⟨g, 0, none⟩) 2 2] W fun e w' => e = .returned (.bool true) ∧ Upd [] W w') := fun W g hu hT => yes_gt _ W (HB.out.mono (U11.out.trans hu)) (row_two hT (In.mono (U11.out.trans hu) _ _ _ H0.out) (In.mono (U11.out.trans hu) _ _ _ H1.out)) HO.out.1 HO.out.2 (by rw [HC.out]; decide)
  have tA5 := tA11
  have tB5 := tB11
  have tx5 := tx11
  have ty5 := ty11
  obtain ⟨fs, hdesc⟩ := term_desc
  dsimp only [List.append]
  refine region_last (by kernel_rfl) 68 rfl [some 59, some 60, some 61, some 62, some 63, some 64, some 65, some 66, some 67, some 68, some 69, some 70, some 71, some 72, some 73, some 74, some 75, some 76, some 77, some 78, some 79, some 80, some 81, some 82, some 83, some 84, some 85, some 86, some 87, some 88, some 89, some 90, some 91, some 92, some 93, some 94, some 95, some 96, some 97, some 98, some 99, some 100, some 101, some 102, some 103, some 104, some 105, some 106, some 107, some 108, some 109, some 110, some 111, some 112, some 113, some 114, some 115, some 116, some 117, some 118, some 119, some 120, some 121, some 122, some 123, some 124, some 125, some 126, some 4] rfl (of_decide_eq_true (by kernel_rfl)) rfl (by kernel_rfl) (by kernel_rfl) (fun j v w' => match j with | 0 => v = .int .i64 1 | 1 => v = .bool true | 2 => v = .bool true | 3 => v = .bool true | 4 => v = .bool true | 5 => v = .bool true | 6 => v = .bool true | 7 => v = .bool true | 8 => v = .bool true | 9 => v = .agg #[.int .u8 k4, .bool g4, .slice a41 n41 c41, .string s4, .int .i64 m4, .slice a42 n42 c42, .slice a43 n43 c43] | 10 => v = .agg #[.int .u8 k3, .bool g3, .slice a31 n31 c31, .string s3, .int .i64 m3, .slice a32 n32 c32, .slice a33 n33 c33] | 11 => ∃ g, v = .slice (some ⟨g, 0, none⟩) 2 2 ∧ Tb w' g #[.int .u8 k4, .bool g4, .slice a41 n41 c41, .string s4, .int .i64 m4, .slice a42 n42 c42, .slice a43 n43 c43, .int .u8 k3, .bool g3, .slice a31 n31 c31, .string s3, .int .i64 m3, .slice a32 n32 c32, .slice a33 n33 c33] | 12 => v = .bool true | 13 => v = .bool true | 14 => v = .bool true | 15 => v = .agg #[.int .u8 k1, .bool g1, .slice a11 n11 c11, .string s1, .int .i64 m1, .slice a12 n12 c12, .slice a13 n13 c13] | 16 => v = .agg #[.int .u8 k2, .bool g2, .slice a21 n21 c21, .string s2, .int .i64 m2, .slice a22 n22 c22, .slice a23 n23 c23] | 17 => ∃ g, v = .slice (some ⟨g, 0, none⟩) 2 2 ∧ Tb w' g #[.int .u8 k1, .bool g1, .slice a11 n11 c11, .string s1, .int .i64 m1, .slice a12 n12 c12, .slice a13 n13 c13, .int .u8 k2, .bool g2, .slice a21 n21 c21, .string s2, .int .i64 m2, .slice a22 n22 c22, .slice a23 n23 c23] | 18 => v = .bool false | 19 => v = .agg #[.int .u8 k1, .bool g1, .slice a11 n11 c11, .string s1, .int .i64 m1, .slice a12 n12 c12, .slice a13 n13 c13] | 20 => v = .agg #[.int .u8 k2, .bool g2, .slice a21 n21 c21, .string s2, .int .i64 m2, .slice a22 n22 c22, .slice a23 n23 c23] | 21 => ∃ g, v = .slice (some ⟨g, 0, none⟩) 2 2 ∧ Tb w' g #[.int .u8 k1, .bool g1, .slice a11 n11 c11, .string s1, .int .i64 m1, .slice a12 n12 c12, .slice a13 n13 c13, .int .u8 k2, .bool g2, .slice a21 n21 c21, .string s2, .int .i64 m2, .slice a22 n22 c22, .slice a23 n23 c23] | 22 => v = .bool false | 23 => v = .bool true | 24 => v = .bool true | 25 => v = .bool true | 26 => v = .agg #[.int .u8 k1, .bool g1, .slice a11 n11 c11, .string s1, .int .i64 m1, .slice a12 n12 c12, .slice a13 n13 c13] | 27 => v = .agg #[.int .u8 k2, .bool g2, .slice a21 n21 c21, .string s2, .int .i64 m2, .slice a22 n22 c22, .slice a23 n23 c23] | 28 => ∃ g, v = .slice (some ⟨g, 0, none⟩) 2 2 ∧ Tb w' g #[.int .u8 k1, .bool g1, .slice a11 n11 c11, .string s1, .int .i64 m1, .slice a12 n12 c12, .slice a13 n13 c13, .int .u8 k2, .bool g2, .slice a21 n21 c21, .string s2, .int .i64 m2, .slice a22 n22 c22, .slice a23 n23 c23] | 29 => v = .bool true | 30 => v = .agg #[.int .u8 k1, .bool g1, .slice a11 n11 c11, .string s1, .int .i64 m1, .slice a12 n12 c12, .slice a13 n13 c13] | 31 => v = .agg #[.int .u8 k2, .bool g2, .slice a21 n21 c21, .string s2, .int .i64 m2, .slice a22 n22 c22, .slice a23 n23 c23] | 32 => ∃ g, v = .slice (some ⟨g, 0, none⟩) 2 2 ∧ Tb w' g #[.int .u8 k1, .bool g1, .slice a11 n11 c11, .string s1, .int .i64 m1, .slice a12 n12 c12, .slice a13 n13 c13, .int .u8 k2, .bool g2, .slice a21 n21 c21, .string s2, .int .i64 m2, .slice a22 n22 c22, .slice a23 n23 c23] | 33 => v = .bool false | 34 => v = .bool true | 35 => v = .bool true | 36 => v = .bool true | 37 => v = .agg #[.int .u8 k3, .bool g3, .slice a31 n31 c31, .string s3, .int .i64 m3, .slice a32 n32 c32, .slice a33 n33 c33] | 38 => v = .agg #[.int .u8 k1, .bool g1, .slice a11 n11 c11, .string s1, .int .i64 m1, .slice a12 n12 c12, .slice a13 n13 c13] | 39 => v = .bool true | 40 => v = .bool true | 41 => v = .agg #[.int .u8 k4, .bool g4, .slice a41 n41 c41, .string s4, .int .i64 m4, .slice a42 n42 c42, .slice a43 n43 c43] | 42 => v = .agg #[.int .u8 k2, .bool g2, .slice a21 n21 c21, .string s2, .int .i64 m2, .slice a22 n22 c22, .slice a23 n23 c23] | 43 => v = .bool true | 44 => v = .bool true | 45 => v = .bool true | 46 => v = undef | 47 => v = undef | 48 => v = undef | 49 => v = undef | 50 => v = undef | 51 => v = undef | 52 => v = undef | 53 => v = undef | 54 => v = .bool true | 55 => v = .bool true | 56 => v = .bool true | 57 => v = .agg #[.int .u8 k1, .bool g1, .slice a11 n11 c11, .string s1, .int .i64 m1, .slice a12 n12 c12, .slice a13 n13 c13] | 58 => v = .agg #[.int .u8 k2, .bool g2, .slice a21 n21 c21, .string s2, .int .i64 m2, .slice a22 n22 c22, .slice a23 n23 c23] | 59 => ∃ g, v = .slice (some ⟨g, 0, none⟩) 2 2 ∧ Tb w' g #[.int .u8 k1, .bool g1, .slice a11 n11 c11, .string s1, .int .i64 m1, .slice a12 n12 c12, .slice a13 n13 c13, .int .u8 k2, .bool g2, .slice a21 n21 c21, .string s2, .int .i64 m2, .slice a22 n22 c22, .slice a23 n23 c23] | 60 => v = .bool false | 61 => v = .agg #[.int .u8 k1, .bool g1, .slice a11 n11 c11, .string s1, .int .i64 m1, .slice a12 n12 c12, .slice a13 n13 c13] | 62 => v = .agg #[.int .u8 k2, .bool g2, .slice a21 n21 c21, .string s2, .int .i64 m2, .slice a22 n22 c22, .slice a23 n23 c23] | 63 => ∃ g, v = .slice (some ⟨g, 0, none⟩) 2 2 ∧ Tb w' g #[.int .u8 k1, .bool g1, .slice a11 n11 c11, .string s1, .int .i64 m1, .slice a12 n12 c12, .slice a13 n13 c13, .int .u8 k2, .bool g2, .slice a21 n21 c21, .string s2, .int .i64 m2, .slice a22 n22 c22, .slice a23 n23 c23] | 64 => v = .bool true | 65 => v = .bool false | 66 => v = .bool true | 67 => v = .bool true | _ => True) (fun j v w w' h hu => ?_) ?_ ?_
  · match j, h with
      | 0, h => exact h
      | 1, h => exact h
      | 2, h => exact h
      | 3, h => exact h
      | 4, h => exact h
      | 5, h => exact h
      | 6, h => exact h
      | 7, h => exact h
      | 8, h => exact h
      | 9, h => exact h
      | 10, h => exact h
      | 11, ⟨g, e, ht⟩ => exact ⟨g, e, ht.mono hu (by simp)⟩
      | 12, h => exact h
      | 13, h => exact h
      | 14, h => exact h
      | 15, h => exact h
      | 16, h => exact h
      | 17, ⟨g, e, ht⟩ => exact ⟨g, e, ht.mono hu (by simp)⟩
      | 18, h => exact h
      | 19, h => exact h
      | 20, h => exact h
      | 21, ⟨g, e, ht⟩ => exact ⟨g, e, ht.mono hu (by simp)⟩
      | 22, h => exact h
      | 23, h => exact h
      | 24, h => exact h
      | 25, h => exact h
      | 26, h => exact h
      | 27, h => exact h
      | 28, ⟨g, e, ht⟩ => exact ⟨g, e, ht.mono hu (by simp)⟩
      | 29, h => exact h
      | 30, h => exact h
      | 31, h => exact h
      | 32, ⟨g, e, ht⟩ => exact ⟨g, e, ht.mono hu (by simp)⟩
      | 33, h => exact h
      | 34, h => exact h
      | 35, h => exact h
      | 36, h => exact h
      | 37, h => exact h
      | 38, h => exact h
      | 39, h => exact h
      | 40, h => exact h
      | 41, h => exact h
      | 42, h => exact h
      | 43, h => exact h
      | 44, h => exact h
      | 45, h => exact h
      | 46, h => exact h
      | 47, h => exact h
      | 48, h => exact h
      | 49, h => exact h
      | 50, h => exact h
      | 51, h => exact h
      | 52, h => exact h
      | 53, h => exact h
      | 54, h => exact h
      | 55, h => exact h
      | 56, h => exact h
      | 57, h => exact h
      | 58, h => exact h
      | 59, ⟨g, e, ht⟩ => exact ⟨g, e, ht.mono hu (by simp)⟩
      | 60, h => exact h
      | 61, h => exact h
      | 62, h => exact h
      | 63, ⟨g, e, ht⟩ => exact ⟨g, e, ht.mono hu (by simp)⟩
      | 64, h => exact h
      | 65, h => exact h
      | 66, h => exact h
      | 67, h => exact h
      | _ + 68, _ => trivial
  · intro D vs a' w5 i o' hA hU hV hS hi ho haf
    have hc5 : i = 0 ∨ i = 1 ∨ i = 2 ∨ i = 3 ∨ i = 4 ∨ i = 5 ∨ i = 6 ∨ i = 7 ∨ i = 8 ∨ i = 9 ∨ i = 10 ∨ i = 11 ∨ i = 12 ∨ i = 13 ∨ i = 14 ∨ i = 15 ∨ i = 16 ∨ i = 17 ∨ i = 18 ∨ i = 19 ∨ i = 20 ∨ i = 21 ∨ i = 22 ∨ i = 23 ∨ i = 24 ∨ i = 25 ∨ i = 26 ∨ i = 27 ∨ i = 28 ∨ i = 29 ∨ i = 30 ∨ i = 31 ∨ i = 32 ∨ i = 33 ∨ i = 34 ∨ i = 35 ∨ i = 36 ∨ i = 37 ∨ i = 38 ∨ i = 39 ∨ i = 40 ∨ i = 41 ∨ i = 42 ∨ i = 43 ∨ i = 44 ∨ i = 45 ∨ i = 46 ∨ i = 47 ∨ i = 48 ∨ i = 49 ∨ i = 50 ∨ i = 51 ∨ i = 52 ∨ i = 53 ∨ i = 54 ∨ i = 55 ∨ i = 56 ∨ i = 57 ∨ i = 58 ∨ i = 59 ∨ i = 60 ∨ i = 61 ∨ i = 62 ∨ i = 63 ∨ i = 64 ∨ i = 65 ∨ i = 66 ∨ i = 67 := by omega
    rcases hc5 with rfl | rfl | rfl | rfl | rfl | rfl | rfl | rfl | rfl | rfl | rfl | rfl | rfl | rfl | rfl | rfl | rfl | rfl | rfl | rfl | rfl | rfl | rfl | rfl | rfl | rfl | rfl | rfl | rfl | rfl | rfl | rfl | rfl | rfl | rfl | rfl | rfl | rfl | rfl | rfl | rfl | rfl | rfl | rfl | rfl | rfl | rfl | rfl | rfl | rfl | rfl | rfl | rfl | rfl | rfl | rfl | rfl | rfl | rfl | rfl | rfl | rfl | rfl | rfl | rfl | rfl | rfl | rfl <;> cases ho
    · exact ops_wp rfl rfl (wp_move (.tmp 5) rfl _ (hA.ev 5 (by decide)) ⟨_, rfl, rfl, Upd.refl _ _⟩)
    · have D0 := haf ⟨0, .data⟩ (by simp) rfl
      exact ops_wp rfl rfl (wp_eqlI (.tmp 59) (.const (.int .i64 1)) rfl 1 1 ((hS 0 59 rfl D0).trans (hV 0 D0)) rfl ⟨_, rfl, rfl, Upd.refl _ _⟩)
    · have D1 := haf ⟨1, .data⟩ (by simp) rfl
      exact ops_wp rfl rfl (wp_move (.tmp 60) rfl _ ((hS 1 60 rfl D1).trans (hV 1 D1)) ⟨_, rfl, rfl, Upd.refl _ _⟩)
    · have D2 := haf ⟨2, .guard⟩ (by simp) rfl
      exact ops_wpG rfl ((wanted_of rfl rfl ((hS 2 61 rfl D2).trans (hV 2 D2))).trans rfl) (wp_move (.tmp 7) rfl _ (hA.ev 7 (by decide)) ⟨_, rfl, rfl, Upd.refl _ _⟩)
    · have D2 := haf ⟨2, .data⟩ (by simp) rfl
      have D3 := haf ⟨3, .data⟩ (by simp) rfl
      exact ops_wp rfl rfl (wp_pickT (.tmp 61) (.tmp 62) (.const (.bool false)) rfl ((hS 2 61 rfl D2).trans (hV 2 D2)) _ ((hS 3 62 rfl D3).trans (hV 3 D3)) ⟨_, rfl, rfl, Upd.refl _ _⟩)
    · have D4 := haf ⟨4, .data⟩ (by simp) rfl
      exact ops_wp rfl rfl (wp_move (.tmp 63) rfl _ ((hS 4 63 rfl D4).trans (hV 4 D4)) ⟨_, rfl, rfl, Upd.refl _ _⟩)
    · have D5 := haf ⟨5, .guard⟩ (by simp) rfl
      exact ops_wpG rfl ((wanted_of rfl rfl ((hS 5 64 rfl D5).trans (hV 5 D5))).trans rfl) (wp_move (.tmp 9) rfl _ (hA.ev 9 (by decide)) ⟨_, rfl, rfl, Upd.refl _ _⟩)
    · have D5 := haf ⟨5, .data⟩ (by simp) rfl
      have D6 := haf ⟨6, .data⟩ (by simp) rfl
      exact ops_wp rfl rfl (wp_pickT (.tmp 64) (.tmp 65) (.const (.bool false)) rfl ((hS 5 64 rfl D5).trans (hV 5 D5)) _ ((hS 6 65 rfl D6).trans (hV 6 D6)) ⟨_, rfl, rfl, Upd.refl _ _⟩)
    · have D7 := haf ⟨7, .data⟩ (by simp) rfl
      exact ops_wp rfl rfl (wp_move (.tmp 66) rfl _ ((hS 7 66 rfl D7).trans (hV 7 D7)) ⟨_, rfl, rfl, Upd.refl _ _⟩)
    · have D8 := haf ⟨8, .guard⟩ (by simp) rfl
      exact ops_wpG rfl ((wanted_of rfl rfl ((hS 8 67 rfl D8).trans (hV 8 D8))).trans rfl) (wp_load_row 26 (.tmp 8) rfl _ (hA.ev 8 (by decide)) 26 _ (0, 0) _ (ty5.mono hU (by simp)) hdesc rfl (by rw [info_term]; rfl) ⟨_, rfl, rfl, Upd.refl _ _⟩)
    · have D8 := haf ⟨8, .guard⟩ (by simp) rfl
      exact ops_wpG rfl ((wanted_of rfl rfl ((hS 8 67 rfl D8).trans (hV 8 D8))).trans rfl) (wp_load_row 26 (.tmp 6) rfl _ (hA.ev 6 (by decide)) 26 _ (0, 0) _ (tx5.mono hU (by simp)) hdesc rfl (by rw [info_term]; rfl) ⟨_, rfl, rfl, Upd.refl _ _⟩)
    · have D8 := haf ⟨8, .guard⟩ (by simp) rfl
      have D9 := haf ⟨9, .data⟩ (by simp) rfl
      have D10 := haf ⟨10, .data⟩ (by simp) rfl
      exact ops_wpG rfl ((wanted_of rfl rfl ((hS 8 67 rfl D8).trans (hV 8 D8))).trans rfl) (wp_bs2 (.tmp 68) (.tmp 69) rfl _ _ _ _ _ _ _ _ _ _ _ _ _ _ _ _ _ _ _ _ _ _ _ _ _ _ ((hS 9 68 rfl D9).trans (hV 9 D9)) ((hS 10 69 rfl D10).trans (hV 10 D10)) ⟨_, rfl, ⟨_, rfl, Tb.new _ _ _ rfl⟩, (Upd.refl [] w5).alloc _⟩)
    · have D8 := haf ⟨8, .chain⟩ (by simp) rfl
      have D11 := haf ⟨11, .data⟩ (by simp) rfl
      obtain ⟨gg, eg, htg⟩ := hV 11 D11
      refine ops_wpG rfl ((wanted_of rfl rfl ((hS 8 67 rfl D8).trans (hV 8 D8))).trans rfl) (wp_callA rfl Tryz.call8 (vs := #[.string ⟨#[61, 60]⟩, .slice (some ⟨gg, 0, none⟩) 2 2]) ?_ (R := fun u w' => u = .bool true ∧ Upd [] w5 w') ?_ ?_)
      · have e0 : a'.eval (.tmp 70) = _ := (hS 11 70 rfl D11).trans eg; simp only [List.map_toArray, List.map_cons, List.map_nil, e0]; rfl
      · exact (YleYX.out w5 gg hU htg).mono fun e w' ⟨he, hu⟩ => ⟨_, he, rfl, hu⟩
      · rintro u w6 ⟨rfl, hu⟩; exact ⟨_, rfl, rfl, hu⟩
    · have D8 := haf ⟨8, .data⟩ (by simp) rfl
      have D12 := haf ⟨12, .data⟩ (by simp) rfl
      exact ops_wp rfl rfl (wp_pickT (.tmp 67) (.tmp 71) (.const (.bool false)) rfl ((hS 8 67 rfl D8).trans (hV 8 D8)) _ ((hS 12 71 rfl D12).trans (hV 12 D12)) ⟨_, rfl, rfl, Upd.refl _ _⟩)
    · have D13 := haf ⟨13, .data⟩ (by simp) rfl
      exact ops_wp rfl rfl (wp_move (.tmp 72) rfl _ ((hS 13 72 rfl D13).trans (hV 13 D13)) ⟨_, rfl, rfl, Upd.refl _ _⟩)
    · have D14 := haf ⟨14, .guard⟩ (by simp) rfl
      exact ops_wpG rfl ((wanted_of rfl rfl ((hS 14 73 rfl D14).trans (hV 14 D14))).trans rfl) (wp_load_row 26 (.tmp 2) rfl _ (hA.ev 2 (by decide)) 26 _ (0, 0) _ (tA5.mono hU (by simp)) hdesc rfl (by rw [info_term]; rfl) ⟨_, rfl, rfl, Upd.refl _ _⟩)
    · have D14 := haf ⟨14, .guard⟩ (by simp) rfl
      exact ops_wpG rfl ((wanted_of rfl rfl ((hS 14 73 rfl D14).trans (hV 14 D14))).trans rfl) (wp_load_row 26 (.tmp 3) rfl _ (hA.ev 3 (by decide)) 26 _ (0, 0) _ (tB5.mono hU (by simp)) hdesc rfl (by rw [info_term]; rfl) ⟨_, rfl, rfl, Upd.refl _ _⟩)
    · have D14 := haf ⟨14, .guard⟩ (by simp) rfl
      have D15 := haf ⟨15, .data⟩ (by simp) rfl
      have D16 := haf ⟨16, .data⟩ (by simp) rfl
      exact ops_wpG rfl ((wanted_of rfl rfl ((hS 14 73 rfl D14).trans (hV 14 D14))).trans rfl) (wp_bs2 (.tmp 74) (.tmp 75) rfl _ _ _ _ _ _ _ _ _ _ _ _ _ _ _ _ _ _ _ _ _ _ _ _ _ _ ((hS 15 74 rfl D15).trans (hV 15 D15)) ((hS 16 75 rfl D16).trans (hV 16 D16)) ⟨_, rfl, ⟨_, rfl, Tb.new _ _ _ rfl⟩, (Upd.refl [] w5).alloc _⟩)
    · have D14 := haf ⟨14, .chain⟩ (by simp) rfl
      have D17 := haf ⟨17, .data⟩ (by simp) rfl
      obtain ⟨gg, eg, htg⟩ := hV 17 D17
      refine ops_wpG rfl ((wanted_of rfl rfl ((hS 14 73 rfl D14).trans (hV 14 D14))).trans rfl) (wp_callA rfl Tryz.call8 (vs := #[.string ⟨#[61, 61]⟩, .slice (some ⟨gg, 0, none⟩) 2 2]) ?_ (R := fun u w' => u = .bool false ∧ Upd [] w5 w') ?_ ?_)
      · have e0 : a'.eval (.tmp 76) = _ := (hS 17 76 rfl D17).trans eg; simp only [List.map_toArray, List.map_cons, List.map_nil, e0]; rfl
      · exact (YeqAB.out w5 gg hU htg).mono fun e w' ⟨he, hu⟩ => ⟨_, he, rfl, hu⟩
      · rintro u w6 ⟨rfl, hu⟩; exact ⟨_, rfl, rfl, hu⟩
    · have D14 := haf ⟨14, .guard⟩ (by simp) rfl
      exact ops_wpG rfl ((wanted_of rfl rfl ((hS 14 73 rfl D14).trans (hV 14 D14))).trans rfl) (wp_load_row 26 (.tmp 2) rfl _ (hA.ev 2 (by decide)) 26 _ (0, 0) _ (tA5.mono hU (by simp)) hdesc rfl (by rw [info_term]; rfl) ⟨_, rfl, rfl, Upd.refl _ _⟩)
    · have D14 := haf ⟨14, .guard⟩ (by simp) rfl
      exact ops_wpG rfl ((wanted_of rfl rfl ((hS 14 73 rfl D14).trans (hV 14 D14))).trans rfl) (wp_load_row 26 (.tmp 3) rfl _ (hA.ev 3 (by decide)) 26 _ (0, 0) _ (tB5.mono hU (by simp)) hdesc rfl (by rw [info_term]; rfl) ⟨_, rfl, rfl, Upd.refl _ _⟩)
    · have D14 := haf ⟨14, .guard⟩ (by simp) rfl
      have D19 := haf ⟨19, .data⟩ (by simp) rfl
      have D20 := haf ⟨20, .data⟩ (by simp) rfl
      exact ops_wpG rfl ((wanted_of rfl rfl ((hS 14 73 rfl D14).trans (hV 14 D14))).trans rfl) (wp_bs2 (.tmp 78) (.tmp 79) rfl _ _ _ _ _ _ _ _ _ _ _ _ _ _ _ _ _ _ _ _ _ _ _ _ _ _ ((hS 19 78 rfl D19).trans (hV 19 D19)) ((hS 20 79 rfl D20).trans (hV 20 D20)) ⟨_, rfl, ⟨_, rfl, Tb.new _ _ _ rfl⟩, (Upd.refl [] w5).alloc _⟩)
    · have D14 := haf ⟨14, .guard⟩ (by simp) rfl
      have D21 := haf ⟨21, .data⟩ (by simp) rfl
      obtain ⟨gg, eg, htg⟩ := hV 21 D21
      refine ops_wpG rfl ((wanted_of rfl rfl ((hS 14 73 rfl D14).trans (hV 14 D14))).trans rfl) (wp_callA rfl Tryz.call8 (vs := #[.string ⟨#[61, 58, 61]⟩, .slice (some ⟨gg, 0, none⟩) 2 2]) ?_ (R := fun u w' => u = .bool false ∧ Upd [] w5 w') ?_ ?_)
      · have e0 : a'.eval (.tmp 80) = _ := (hS 21 80 rfl D21).trans eg; simp only [List.map_toArray, List.map_cons, List.map_nil, e0]; rfl
      · exact (YeeAB.out w5 gg hU htg).mono fun e w' ⟨he, hu⟩ => ⟨_, he, rfl, hu⟩
      · rintro u w6 ⟨rfl, hu⟩; exact ⟨_, rfl, rfl, hu⟩
    · have D14 := haf ⟨14, .guard⟩ (by simp) rfl
      have D18 := haf ⟨18, .data⟩ (by simp) rfl
      have D22 := haf ⟨22, .data⟩ (by simp) rfl
      exact ops_wpG rfl ((wanted_of rfl rfl ((hS 14 73 rfl D14).trans (hV 14 D14))).trans rfl) (wp_eql2B (.tmp 77) (.tmp 81) rfl _ _ ((hS 18 77 rfl D18).trans (hV 18 D18)) ((hS 22 81 rfl D22).trans (hV 22 D22)) ⟨_, rfl, rfl, Upd.refl _ _⟩)
    · have D14 := haf ⟨14, .data⟩ (by simp) rfl
      have D23 := haf ⟨23, .data⟩ (by simp) rfl
      exact ops_wp rfl rfl (wp_pickT (.tmp 73) (.tmp 82) (.const (.bool false)) rfl ((hS 14 73 rfl D14).trans (hV 14 D14)) _ ((hS 23 82 rfl D23).trans (hV 23 D23)) ⟨_, rfl, rfl, Upd.refl _ _⟩)
    · have D24 := haf ⟨24, .data⟩ (by simp) rfl
      exact ops_wp rfl rfl (wp_move (.tmp 83) rfl _ ((hS 24 83 rfl D24).trans (hV 24 D24)) ⟨_, rfl, rfl, Upd.refl _ _⟩)
    · have D25 := haf ⟨25, .guard⟩ (by simp) rfl
      exact ops_wpG rfl ((wanted_of rfl rfl ((hS 25 84 rfl D25).trans (hV 25 D25))).trans rfl) (wp_load_row 26 (.tmp 2) rfl _ (hA.ev 2 (by decide)) 26 _ (0, 0) _ (tA5.mono hU (by simp)) hdesc rfl (by rw [info_term]; rfl) ⟨_, rfl, rfl, Upd.refl _ _⟩)
    · have D25 := haf ⟨25, .guard⟩ (by simp) rfl
      exact ops_wpG rfl ((wanted_of rfl rfl ((hS 25 84 rfl D25).trans (hV 25 D25))).trans rfl) (wp_load_row 26 (.tmp 3) rfl _ (hA.ev 3 (by decide)) 26 _ (0, 0) _ (tB5.mono hU (by simp)) hdesc rfl (by rw [info_term]; rfl) ⟨_, rfl, rfl, Upd.refl _ _⟩)
    · have D25 := haf ⟨25, .guard⟩ (by simp) rfl
      have D26 := haf ⟨26, .data⟩ (by simp) rfl
      have D27 := haf ⟨27, .data⟩ (by simp) rfl
      exact ops_wpG rfl ((wanted_of rfl rfl ((hS 25 84 rfl D25).trans (hV 25 D25))).trans rfl) (wp_bs2 (.tmp 85) (.tmp 86) rfl _ _ _ _ _ _ _ _ _ _ _ _ _ _ _ _ _ _ _ _ _ _ _ _ _ _ ((hS 26 85 rfl D26).trans (hV 26 D26)) ((hS 27 86 rfl D27).trans (hV 27 D27)) ⟨_, rfl, ⟨_, rfl, Tb.new _ _ _ rfl⟩, (Upd.refl [] w5).alloc _⟩)
    · have D25 := haf ⟨25, .chain⟩ (by simp) rfl
      have D28 := haf ⟨28, .data⟩ (by simp) rfl
      obtain ⟨gg, eg, htg⟩ := hV 28 D28
      refine ops_wpG rfl ((wanted_of rfl rfl ((hS 25 84 rfl D25).trans (hV 25 D25))).trans rfl) (wp_callA rfl Tryz.call8 (vs := #[.string ⟨#[47, 61]⟩, .slice (some ⟨gg, 0, none⟩) 2 2]) ?_ (R := fun u w' => u = .bool true ∧ Upd [] w5 w') ?_ ?_)
      · have e0 : a'.eval (.tmp 87) = _ := (hS 28 87 rfl D28).trans eg; simp only [List.map_toArray, List.map_cons, List.map_nil, e0]; rfl
      · exact (YneAB.out w5 gg hU htg).mono fun e w' ⟨he, hu⟩ => ⟨_, he, rfl, hu⟩
      · rintro u w6 ⟨rfl, hu⟩; exact ⟨_, rfl, rfl, hu⟩
    · have D25 := haf ⟨25, .guard⟩ (by simp) rfl
      exact ops_wpG rfl ((wanted_of rfl rfl ((hS 25 84 rfl D25).trans (hV 25 D25))).trans rfl) (wp_load_row 26 (.tmp 2) rfl _ (hA.ev 2 (by decide)) 26 _ (0, 0) _ (tA5.mono hU (by simp)) hdesc rfl (by rw [info_term]; rfl) ⟨_, rfl, rfl, Upd.refl _ _⟩)
    · have D25 := haf ⟨25, .guard⟩ (by simp) rfl
      exact ops_wpG rfl ((wanted_of rfl rfl ((hS 25 84 rfl D25).trans (hV 25 D25))).trans rfl) (wp_load_row 26 (.tmp 3) rfl _ (hA.ev 3 (by decide)) 26 _ (0, 0) _ (tB5.mono hU (by simp)) hdesc rfl (by rw [info_term]; rfl) ⟨_, rfl, rfl, Upd.refl _ _⟩)
    · have D25 := haf ⟨25, .guard⟩ (by simp) rfl
      have D30 := haf ⟨30, .data⟩ (by simp) rfl
      have D31 := haf ⟨31, .data⟩ (by simp) rfl
      exact ops_wpG rfl ((wanted_of rfl rfl ((hS 25 84 rfl D25).trans (hV 25 D25))).trans rfl) (wp_bs2 (.tmp 89) (.tmp 90) rfl _ _ _ _ _ _ _ _ _ _ _ _ _ _ _ _ _ _ _ _ _ _ _ _ _ _ ((hS 30 89 rfl D30).trans (hV 30 D30)) ((hS 31 90 rfl D31).trans (hV 31 D31)) ⟨_, rfl, ⟨_, rfl, Tb.new _ _ _ rfl⟩, (Upd.refl [] w5).alloc _⟩)
    · have D25 := haf ⟨25, .guard⟩ (by simp) rfl
      have D32 := haf ⟨32, .data⟩ (by simp) rfl
      obtain ⟨gg, eg, htg⟩ := hV 32 D32
      refine ops_wpG rfl ((wanted_of rfl rfl ((hS 25 84 rfl D25).trans (hV 25 D25))).trans rfl) (wp_callA rfl Tryz.call8 (vs := #[.string ⟨#[61, 61]⟩, .slice (some ⟨gg, 0, none⟩) 2 2]) ?_ (R := fun u w' => u = .bool false ∧ Upd [] w5 w') ?_ ?_)
      · have e0 : a'.eval (.tmp 91) = _ := (hS 32 91 rfl D32).trans eg; simp only [List.map_toArray, List.map_cons, List.map_nil, e0]; rfl
      · exact (YeqAB.out w5 gg hU htg).mono fun e w' ⟨he, hu⟩ => ⟨_, he, rfl, hu⟩
      · rintro u w6 ⟨rfl, hu⟩; exact ⟨_, rfl, rfl, hu⟩
    · have D25 := haf ⟨25, .guard⟩ (by simp) rfl
      have D29 := haf ⟨29, .data⟩ (by simp) rfl
      have D33 := haf ⟨33, .data⟩ (by simp) rfl
      exact ops_wpG rfl ((wanted_of rfl rfl ((hS 25 84 rfl D25).trans (hV 25 D25))).trans rfl) (wp_neqB (.tmp 88) (.tmp 92) rfl _ _ ((hS 29 88 rfl D29).trans (hV 29 D29)) ((hS 33 92 rfl D33).trans (hV 33 D33)) ⟨_, rfl, rfl, Upd.refl _ _⟩)
    · have D25 := haf ⟨25, .data⟩ (by simp) rfl
      have D34 := haf ⟨34, .data⟩ (by simp) rfl
      exact ops_wp rfl rfl (wp_pickT (.tmp 84) (.tmp 93) (.const (.bool false)) rfl ((hS 25 84 rfl D25).trans (hV 25 D25)) _ ((hS 34 93 rfl D34).trans (hV 34 D34)) ⟨_, rfl, rfl, Upd.refl _ _⟩)
    · have D35 := haf ⟨35, .data⟩ (by simp) rfl
      exact ops_wp rfl rfl (wp_move (.tmp 94) rfl _ ((hS 35 94 rfl D35).trans (hV 35 D35)) ⟨_, rfl, rfl, Upd.refl _ _⟩)
    · have D36 := haf ⟨36, .guard⟩ (by simp) rfl
      exact ops_wpG rfl ((wanted_of rfl rfl ((hS 36 95 rfl D36).trans (hV 36 D36))).trans rfl) (wp_load_row 26 (.tmp 6) rfl _ (hA.ev 6 (by decide)) 26 _ (0, 0) _ (tx5.mono hU (by simp)) hdesc rfl (by rw [info_term]; rfl) ⟨_, rfl, rfl, Upd.refl _ _⟩)
    · have D36 := haf ⟨36, .guard⟩ (by simp) rfl
      exact ops_wpG rfl ((wanted_of rfl rfl ((hS 36 95 rfl D36).trans (hV 36 D36))).trans rfl) (wp_load_row 26 (.tmp 2) rfl _ (hA.ev 2 (by decide)) 26 _ (0, 0) _ (tA5.mono hU (by simp)) hdesc rfl (by rw [info_term]; rfl) ⟨_, rfl, rfl, Upd.refl _ _⟩)
    · have D36 := haf ⟨36, .chain⟩ (by simp) rfl
      have D37 := haf ⟨37, .data⟩ (by simp) rfl
      have D38 := haf ⟨38, .data⟩ (by simp) rfl
      refine ops_wpG rfl ((wanted_of rfl rfl ((hS 36 95 rfl D36).trans (hV 36 D36))).trans rfl) (wp_callA rfl Tryz.call10 (vs := #[.agg #[.int .u8 k3, .bool g3, .slice a31 n31 c31, .string s3, .int .i64 m3, .slice a32 n32 c32, .slice a33 n33 c33], .agg #[.int .u8 k1, .bool g1, .slice a11 n11 c11, .string s1, .int .i64 m1, .slice a12 n12 c12, .slice a13 n13 c13]]) ?_ (R := fun u w' => u = .bool true ∧ Upd [] w5 w') ?_ ?_)
      · have e0 : a'.eval (.tmp 96) = _ := ((hS 37 96 rfl D37).trans (hV 37 D37)); have e1 : a'.eval (.tmp 97) = _ := ((hS 38 97 rfl D38).trans (hV 38 D38)); simp only [List.map_toArray, List.map_cons, List.map_nil, e0, e1]
      · exact (SXA.out w5 hU).mono fun e w' ⟨he, hu⟩ => ⟨_, he, rfl, hu⟩
      · rintro u w6 ⟨rfl, hu⟩; exact ⟨_, rfl, rfl, hu⟩
    · have D36 := haf ⟨36, .guard⟩ (by simp) rfl
      have D39 := haf ⟨39, .data⟩ (by simp) rfl
      exact ops_wpG rfl ((wanted_of rfl rfl ((hS 36 95 rfl D36).trans (hV 36 D36))).trans rfl) (wp_move (.tmp 98) rfl _ ((hS 39 98 rfl D39).trans (hV 39 D39)) ⟨_, rfl, rfl, Upd.refl _ _⟩)
    · have D40 := haf ⟨40, .guard⟩ (by simp) rfl
      exact ops_wpG rfl ((wanted_of rfl rfl ((hS 40 99 rfl D40).trans (hV 40 D40))).trans rfl) (wp_load_row 26 (.tmp 8) rfl _ (hA.ev 8 (by decide)) 26 _ (0, 0) _ (ty5.mono hU (by simp)) hdesc rfl (by rw [info_term]; rfl) ⟨_, rfl, rfl, Upd.refl _ _⟩)
    · have D40 := haf ⟨40, .guard⟩ (by simp) rfl
      exact ops_wpG rfl ((wanted_of rfl rfl ((hS 40 99 rfl D40).trans (hV 40 D40))).trans rfl) (wp_load_row 26 (.tmp 3) rfl _ (hA.ev 3 (by decide)) 26 _ (0, 0) _ (tB5.mono hU (by simp)) hdesc rfl (by rw [info_term]; rfl) ⟨_, rfl, rfl, Upd.refl _ _⟩)
    · have D40 := haf ⟨40, .chain⟩ (by simp) rfl
      have D41 := haf ⟨41, .data⟩ (by simp) rfl
      have D42 := haf ⟨42, .data⟩ (by simp) rfl
      refine ops_wpG rfl ((wanted_of rfl rfl ((hS 40 99 rfl D40).trans (hV 40 D40))).trans rfl) (wp_callA rfl Tryz.call10 (vs := #[.agg #[.int .u8 k4, .bool g4, .slice a41 n41 c41, .string s4, .int .i64 m4, .slice a42 n42 c42, .slice a43 n43 c43], .agg #[.int .u8 k2, .bool g2, .slice a21 n21 c21, .string s2, .int .i64 m2, .slice a22 n22 c22, .slice a23 n23 c23]]) ?_ (R := fun u w' => u = .bool true ∧ Upd [] w5 w') ?_ ?_)
      · have e0 : a'.eval (.tmp 100) = _ := ((hS 41 100 rfl D41).trans (hV 41 D41)); have e1 : a'.eval (.tmp 101) = _ := ((hS 42 101 rfl D42).trans (hV 42 D42)); simp only [List.map_toArray, List.map_cons, List.map_nil, e0, e1]
      · exact (SYB.out w5 hU).mono fun e w' ⟨he, hu⟩ => ⟨_, he, rfl, hu⟩
      · rintro u w6 ⟨rfl, hu⟩; exact ⟨_, rfl, rfl, hu⟩
    · have D36 := haf ⟨36, .guard⟩ (by simp) rfl
      have D40 := haf ⟨40, .data⟩ (by simp) rfl
      have D43 := haf ⟨43, .data⟩ (by simp) rfl
      exact ops_wpG rfl ((wanted_of rfl rfl ((hS 36 95 rfl D36).trans (hV 36 D36))).trans rfl) (wp_pickT (.tmp 99) (.tmp 102) (.const (.bool false)) rfl ((hS 40 99 rfl D40).trans (hV 40 D40)) _ ((hS 43 102 rfl D43).trans (hV 43 D43)) ⟨_, rfl, rfl, Upd.refl _ _⟩)
    · have D36 := haf ⟨36, .guard⟩ (by simp) rfl
      have D44 := haf ⟨44, .data⟩ (by simp) rfl
      exact ops_wpG rfl ((wanted_of rfl rfl ((hS 36 95 rfl D36).trans (hV 36 D36))).trans rfl) (wp_move (.tmp 103) rfl _ ((hS 44 103 rfl D44).trans (hV 44 D44)) ⟨_, rfl, rfl, Upd.refl _ _⟩)
    · have D45 := haf ⟨45, .guard⟩ (by simp) rfl
      exact ops_skip rfl ((wanted_of rfl rfl ((hS 45 104 rfl D45).trans (hV 45 D45))).trans rfl) ⟨undef, rfl, rfl, Upd.refl _ _⟩
    · have D45 := haf ⟨45, .guard⟩ (by simp) rfl
      exact ops_skip rfl ((wanted_of rfl rfl ((hS 45 104 rfl D45).trans (hV 45 D45))).trans rfl) ⟨undef, rfl, rfl, Upd.refl _ _⟩
    · have D45 := haf ⟨45, .chain⟩ (by simp) rfl
      exact ops_skip rfl ((wanted_of rfl rfl ((hS 45 104 rfl D45).trans (hV 45 D45))).trans rfl) ⟨undef, rfl, rfl, Upd.refl _ _⟩
    · have D45 := haf ⟨45, .guard⟩ (by simp) rfl
      exact ops_skip rfl ((wanted_of rfl rfl ((hS 45 104 rfl D45).trans (hV 45 D45))).trans rfl) ⟨undef, rfl, rfl, Upd.refl _ _⟩
    · have D49 := haf ⟨49, .guard⟩ (by simp) rfl
      exact ops_skip rfl (wanted_no rfl rfl ((hS 49 108 rfl D49).trans (hV 49 D49))) ⟨undef, rfl, rfl, Upd.refl _ _⟩
    · have D49 := haf ⟨49, .guard⟩ (by simp) rfl
      exact ops_skip rfl (wanted_no rfl rfl ((hS 49 108 rfl D49).trans (hV 49 D49))) ⟨undef, rfl, rfl, Upd.refl _ _⟩
    · have D49 := haf ⟨49, .chain⟩ (by simp) rfl
      exact ops_skip rfl (wanted_no rfl rfl ((hS 49 108 rfl D49).trans (hV 49 D49))) ⟨undef, rfl, rfl, Upd.refl _ _⟩
    · have D45 := haf ⟨45, .guard⟩ (by simp) rfl
      exact ops_skip rfl ((wanted_of rfl rfl ((hS 45 104 rfl D45).trans (hV 45 D45))).trans rfl) ⟨undef, rfl, rfl, Upd.refl _ _⟩
    · have D36 := haf ⟨36, .guard⟩ (by simp) rfl
      have D45 := haf ⟨45, .data⟩ (by simp) rfl
      exact ops_wpG rfl ((wanted_of rfl rfl ((hS 36 95 rfl D36).trans (hV 36 D36))).trans rfl) (wp_pickT (.tmp 104) (.const (.bool true)) (.tmp 112) rfl ((hS 45 104 rfl D45).trans (hV 45 D45)) _ rfl ⟨_, rfl, rfl, Upd.refl _ _⟩)
    · have D36 := haf ⟨36, .data⟩ (by simp) rfl
      have D54 := haf ⟨54, .data⟩ (by simp) rfl
      exact ops_wp rfl rfl (wp_pickT (.tmp 95) (.tmp 113) (.const (.bool false)) rfl ((hS 36 95 rfl D36).trans (hV 36 D36)) _ ((hS 54 113 rfl D54).trans (hV 54 D54)) ⟨_, rfl, rfl, Upd.refl _ _⟩)
    · have D55 := haf ⟨55, .data⟩ (by simp) rfl
      exact ops_wp rfl rfl (wp_move (.tmp 114) rfl _ ((hS 55 114 rfl D55).trans (hV 55 D55)) ⟨_, rfl, rfl, Upd.refl _ _⟩)
    · have D56 := haf ⟨56, .guard⟩ (by simp) rfl
      exact ops_wpG rfl ((wanted_of rfl rfl ((hS 56 115 rfl D56).trans (hV 56 D56))).trans rfl) (wp_load_row 26 (.tmp 2) rfl _ (hA.ev 2 (by decide)) 26 _ (0, 0) _ (tA5.mono hU (by simp)) hdesc rfl (by rw [info_term]; rfl) ⟨_, rfl, rfl, Upd.refl _ _⟩)
    · have D56 := haf ⟨56, .guard⟩ (by simp) rfl
      exact ops_wpG rfl ((wanted_of rfl rfl ((hS 56 115 rfl D56).trans (hV 56 D56))).trans rfl) (wp_load_row 26 (.tmp 3) rfl _ (hA.ev 3 (by decide)) 26 _ (0, 0) _ (tB5.mono hU (by simp)) hdesc rfl (by rw [info_term]; rfl) ⟨_, rfl, rfl, Upd.refl _ _⟩)
    · have D56 := haf ⟨56, .guard⟩ (by simp) rfl
      have D57 := haf ⟨57, .data⟩ (by simp) rfl
      have D58 := haf ⟨58, .data⟩ (by simp) rfl
      exact ops_wpG rfl ((wanted_of rfl rfl ((hS 56 115 rfl D56).trans (hV 56 D56))).trans rfl) (wp_bs2 (.tmp 116) (.tmp 117) rfl _ _ _ _ _ _ _ _ _ _ _ _ _ _ _ _ _ _ _ _ _ _ _ _ _ _ ((hS 57 116 rfl D57).trans (hV 57 D57)) ((hS 58 117 rfl D58).trans (hV 58 D58)) ⟨_, rfl, ⟨_, rfl, Tb.new _ _ _ rfl⟩, (Upd.refl [] w5).alloc _⟩)
    · have D56 := haf ⟨56, .chain⟩ (by simp) rfl
      have D59 := haf ⟨59, .data⟩ (by simp) rfl
      obtain ⟨gg, eg, htg⟩ := hV 59 D59
      refine ops_wpG rfl ((wanted_of rfl rfl ((hS 56 115 rfl D56).trans (hV 56 D56))).trans rfl) (wp_callA rfl Tryz.call8 (vs := #[.string ⟨#[61, 60]⟩, .slice (some ⟨gg, 0, none⟩) 2 2]) ?_ (R := fun u w' => u = .bool false ∧ Upd [] w5 w') ?_ ?_)
      · have e0 : a'.eval (.tmp 118) = _ := (hS 59 118 rfl D59).trans eg; simp only [List.map_toArray, List.map_cons, List.map_nil, e0]; rfl
      · exact (YleAB.out w5 gg hU htg).mono fun e w' ⟨he, hu⟩ => ⟨_, he, rfl, hu⟩
      · rintro u w6 ⟨rfl, hu⟩; exact ⟨_, rfl, rfl, hu⟩
    · have D56 := haf ⟨56, .guard⟩ (by simp) rfl
      exact ops_wpG rfl ((wanted_of rfl rfl ((hS 56 115 rfl D56).trans (hV 56 D56))).trans rfl) (wp_load_row 26 (.tmp 2) rfl _ (hA.ev 2 (by decide)) 26 _ (0, 0) _ (tA5.mono hU (by simp)) hdesc rfl (by rw [info_term]; rfl) ⟨_, rfl, rfl, Upd.refl _ _⟩)
    · have D56 := haf ⟨56, .guard⟩ (by simp) rfl
      exact ops_wpG rfl ((wanted_of rfl rfl ((hS 56 115 rfl D56).trans (hV 56 D56))).trans rfl) (wp_load_row 26 (.tmp 3) rfl _ (hA.ev 3 (by decide)) 26 _ (0, 0) _ (tB5.mono hU (by simp)) hdesc rfl (by rw [info_term]; rfl) ⟨_, rfl, rfl, Upd.refl _ _⟩)
    · have D56 := haf ⟨56, .guard⟩ (by simp) rfl
      have D61 := haf ⟨61, .data⟩ (by simp) rfl
      have D62 := haf ⟨62, .data⟩ (by simp) rfl
      exact ops_wpG rfl ((wanted_of rfl rfl ((hS 56 115 rfl D56).trans (hV 56 D56))).trans rfl) (wp_bs2 (.tmp 120) (.tmp 121) rfl _ _ _ _ _ _ _ _ _ _ _ _ _ _ _ _ _ _ _ _ _ _ _ _ _ _ ((hS 61 120 rfl D61).trans (hV 61 D61)) ((hS 62 121 rfl D62).trans (hV 62 D62)) ⟨_, rfl, ⟨_, rfl, Tb.new _ _ _ rfl⟩, (Upd.refl [] w5).alloc _⟩)
    · have D56 := haf ⟨56, .guard⟩ (by simp) rfl
      have D63 := haf ⟨63, .data⟩ (by simp) rfl
      obtain ⟨gg, eg, htg⟩ := hV 63 D63
      refine ops_wpG rfl ((wanted_of rfl rfl ((hS 56 115 rfl D56).trans (hV 56 D56))).trans rfl) (wp_callA rfl Tryz.call8 (vs := #[.string ⟨#[62]⟩, .slice (some ⟨gg, 0, none⟩) 2 2]) ?_ (R := fun u w' => u = .bool true ∧ Upd [] w5 w') ?_ ?_)
      · have e0 : a'.eval (.tmp 122) = _ := (hS 63 122 rfl D63).trans eg; simp only [List.map_toArray, List.map_cons, List.map_nil, e0]; rfl
      · exact (YgtAB.out w5 gg hU htg).mono fun e w' ⟨he, hu⟩ => ⟨_, he, rfl, hu⟩
      · rintro u w6 ⟨rfl, hu⟩; exact ⟨_, rfl, rfl, hu⟩
    · have D56 := haf ⟨56, .guard⟩ (by simp) rfl
      have D64 := haf ⟨64, .data⟩ (by simp) rfl
      exact ops_wpG rfl ((wanted_of rfl rfl ((hS 56 115 rfl D56).trans (hV 56 D56))).trans rfl) (wp_not (.tmp 123) rfl _ ((hS 64 123 rfl D64).trans (hV 64 D64)) ⟨_, rfl, rfl, Upd.refl _ _⟩)
    · have D56 := haf ⟨56, .guard⟩ (by simp) rfl
      have D60 := haf ⟨60, .data⟩ (by simp) rfl
      have D65 := haf ⟨65, .data⟩ (by simp) rfl
      exact ops_wpG rfl ((wanted_of rfl rfl ((hS 56 115 rfl D56).trans (hV 56 D56))).trans rfl) (wp_eql2B (.tmp 119) (.tmp 124) rfl _ _ ((hS 60 119 rfl D60).trans (hV 60 D60)) ((hS 65 124 rfl D65).trans (hV 65 D65)) ⟨_, rfl, rfl, Upd.refl _ _⟩)
    · have D56 := haf ⟨56, .data⟩ (by simp) rfl
      have D66 := haf ⟨66, .data⟩ (by simp) rfl
      exact ops_wp rfl rfl (wp_pickT (.tmp 115) (.tmp 125) (.const (.bool false)) rfl ((hS 56 115 rfl D56).trans (hV 56 D56)) _ ((hS 66 125 rfl D66).trans (hV 66 D66)) ⟨_, rfl, rfl, Upd.refl _ _⟩)
  · intro vs a' w5 o' hv hA hU hV hS ho
    cases ho
    have e126 : a'.eval (.tmp 126) = .bool true := (hS 67 126 rfl (by omega)).trans (hV 67 (by omega))
    refine ops_wp rfl rfl (wp_asg (.tmp 126) rfl _ e126 ⟨_, rfl, ?_⟩)
    show K1 _ _
    refine hK1 _ _ ?_
    refine wp_ret_end ?_
    show bodyPost Tryz.prog Tryz.f3 (fun e w' => e = .returned (.bool true) ∧ Upd [] w w') .ret (putAll _ _ _) w5
    exact put_end (i := 68) rfl rfl (by simpa using hv) (of_decide_eq_true (by kernel_rfl)) rfl (of_decide_eq_true rfl) (by rw [List.getD_eq_getElem?_getD, List.getElem?_set_self (by omega)]; rfl) ⟨rfl, U11.out.trans hU⟩


end Go.Proofs.YtnpocmhaoaigfaaGreatDoor

/- BifOrder, of whatever two terms. -/
namespace Go.Proofs.YtnpocmhaoaigfaaGreatDoor
open Go.RowKit

theorem same_me {t : Tm} (h : okS t = true) : samS t t = true := by
  unfold samS
  rw [h, ordT_self t (okS_ok h)]
  rfl
theorem cmp_of {t u : Tm} (h : okS t = true) (h' : okS u = true) : cmpS t u = ordT t u := by unfold cmpS; rw [h, h']; rfl
theorem sam_of {t u : Tm} (h : okS t = true) (h' : okS u = true) : samS t u = (ordT t u == 0) := by unfold samS; rw [h, h']; rfl
/-- BifOrder, of whatever two terms. -/
theorem Order_core (w : World) (hB : Blt w) (d : Nat) (cs0 cs1 : List Value) (t0 t1 : Tm) (h0 : In w (d + 1) cs0 t0) (h1 : In w (d + 1) cs1 t1) (z0 : tsz t0 ≤ 1353245080330) (z1 : tsz t1 ≤ 1353245080330) :
    Calls Tryz.prog 3 #[.agg cs0.toArray, .agg cs1.toArray] w fun e w' => e = .returned (.bool true) ∧ Upd [] w w' := by
  obtain ⟨o0, e0⟩ : ∃ o, okS t0 = o := ⟨_, rfl⟩
  obtain ⟨o1, e1⟩ : ∃ o, okS t1 = o := ⟨_, rfl⟩
  cases o0 with
  | false => exact Order_no w d cs0 cs1 t0 t1 hB h0 h1 z0 z1 false o1 e0 e1 rfl
  | true =>
    cases o1 with
    | false => exact Order_no w d cs0 cs1 t0 t1 hB h0 h1 z0 z1 true false e0 e1 rfl
    | true =>
      have k0 := okS_ok e0
      have k1 := okS_ok e1
      have hn := ordT_neg t0 t1 k0 k1
      have c01 := cmp_of e0 e1
      have c10 := cmp_of e1 e0
      have c00 : cmpS t0 t0 = 0 := (cmp_of e0 e0).trans (ordT_self t0 k0)
      rcases ordT_range t0 t1 k0 k1 with e | e | e
      · refine Order_lt w d cs0 cs1 t0 t1 hB h0 h1 z0 z1 e0 e1 (c01.trans e) (by rw [c01, e]; rfl) ?_ (same_me e1) (same_me e0)
        rw [sam_of e1 e0, show ordT t1 t0 = 1 by omega]
        rfl
      · refine Order_eq w d cs0 cs1 t0 t1 hB h0 h1 z0 z1 e0 e1 (c01.trans e) (by rw [c00]; rfl) (same_me e0) ?_
        rw [sam_of e0 e1, e]
        rfl
      · exact Order_gt w d cs0 cs1 t0 t1 hB h0 h1 z0 z1 e0 e1 (c01.trans e) (by rw [c10, show ordT t1 t0 = -1 by omega]; rfl) (same_me e0) (same_me e1)

end Go.Proofs.YtnpocmhaoaigfaaGreatDoor

/- The card of BifOrder: whatever two terms it is given, the call returns true and leaves its arguments as they were. Conditions: the row's own alone. -/
namespace Go.Proofs.YtnpocmhaoaigfaaGreatDoor
open Go.ChangeShapes Go.WideShapes Go.ChangeAt Go.RowKit Go.Joins

theorem In.lift {w : World} {d : Nat} {cs : List Value} {t : Tm} (h : In w d cs t) : ∀ n, In w (d + n) cs t
  | 0 => h
  | n + 1 => In.more (d + n) cs t (In.lift h n)

set_option maxHeartbeats 1000000 in
set_option maxRecDepth 100000 in
theorem bifOrder_contract (H : Type) (enc : TypeId × Value → H) (W : World) (base : Nat) (args : Array Value) (ds gs : List (DataW H)) (before : List MemPlace) (hgl : Blt W)
    (hval : ∀ (j : Nat) t v, Tryz.f3.params[j]? = some t → args[j]? = some v → Value.okWide Tryz.prog W .any base t v)
    (hW : DataW.Whole enc Tryz.prog Tryz.f3.params.toList Rows.bifOrderSpec.vars false W args.toList ds gs before)
    (hwt : (DataW.weightsEach Tryz.prog (Tryz.f3.params.toList ++ (OpenSpec.ofChange Rows.bifOrderSpec).bare.plain.varTypes Tryz.prog) (ds ++ gs)).all (· ≤ reachBytes) = true) :
    Calls Tryz.prog 3 args W fun e W' => ∃ v, e = .returned v ∧ Rows.bifOrderSpec.post enc Tryz.prog Tryz.f3 false true false false W args v W' := by
  have hW' := hW
  obtain ⟨p, q, hA0, hV, rfl, hfz, hnd⟩ := hW
  have hA : DataW.TrodAll enc Tryz.prog W 0 (fun _ => true) true Tryz.f3.params.toList args.toList ds p := hA0
  rw [Tryz.params3] at hA hval
  obtain ⟨v0, vs0, d0, ds0, p0, q0, hargs, rfl, rfl, h0, r0⟩ := trodAll_cons hA
  obtain ⟨v1, vs1, d1, ds1, p1, q1, rfl, rfl, rfl, h1, r1⟩ := trodAll_cons r0
  obtain ⟨rfl, rfl, rfl⟩ := trodAll_nil r1
  obtain rfl : args = #[v0, v1] := by cases args; simp_all
  obtain ⟨rfl, rfl⟩ := trodVars_none hV
  clear hA0
  simp only [List.append_nil] at hW'
  have hlt0 : ∀ x ∈ p0, x.block < W.heap.size := fun x hx => by simpa using hW'.lt x (by simp [hx])
  have hlt1 : ∀ x ∈ p1, x.block < W.heap.size := fun x hx => by simpa using hW'.lt x (by simp [hx])
  have hk0 : ∀ (W' : World), Below W.heap.size W W' → DataW.Trod enc Tryz.prog W' 0 (fun b => decide (b < W.heap.size)) true 26 v0 d0 p0 :=
    fun W' hn => Below.trod laidOut (by kernel_rfl) (of_decide_eq_true (by kernel_rfl)) h0 hn hlt0
  obtain ⟨k0, num0, neg0, a0, ai0, at0, L0, c0, ni0, ci0, nt0, ct0, s0, rfl, hA0, hD0, hl0, hi0, ht0⟩ := open_term (hval 0 26 v0 rfl rfl) h0 hlt0
  have hk1 : ∀ (W' : World), Below W.heap.size W W' → DataW.Trod enc Tryz.prog W' 0 (fun b => decide (b < W.heap.size)) true 26 v1 d1 p1 :=
    fun W' hn => Below.trod laidOut (by kernel_rfl) (of_decide_eq_true (by kernel_rfl)) h1 hn hlt1
  obtain ⟨k1, num1, neg1, a1, ai1, at1, L1, c1, ni1, ci1, nt1, ct1, s1, rfl, hA1, hD1, hl1, hi1, ht1⟩ := open_term (hval 1 26 v1 rfl rfl) h1 hlt1
  obtain ⟨f0, g0⟩ := h0
  obtain ⟨f1, g1⟩ := h1
  rw [Tryz.params3] at hwt
  have hw0 : ∀ n ∈ DataW.weights Tryz.prog 26 d0, n ≤ reachBytes := fun n hn => by
    have := List.all_eq_true.1 hwt n (DataW.weights_mem_each (j := 0) (t := 26) (d := d0) rfl rfl n hn)
    simpa using this
  have hw1 : ∀ n ∈ DataW.weights Tryz.prog 26 d1, n ≤ reachBytes := fun n hn => by
    have := List.all_eq_true.1 hwt n (DataW.weights_mem_each (j := 1) (t := 26) (d := d1) rfl rfl n hn)
    simpa using this
  obtain ⟨t0, in0, z0⟩ := in_open f0 _ _ g0 hw0
  obtain ⟨t1, in1, z1⟩ := in_open f1 _ _ g1 hw1
  have in0' := in0.lift (f1 + 1)
  have in1' := in1.lift (f0 + 1)
  rw [show f0 + (f1 + 1) = f0 + f1 + 1 by omega] at in0'
  rw [show f1 + (f0 + 1) = f0 + f1 + 1 by omega] at in1'
  refine (Order_core W hgl (f0 + f1) _ _ t0 t1 in0' in1' z0 z1).mono fun e W' ⟨he, hU⟩ => ?_
  subst he
  have hbel := hU.below
  refine ⟨_, rfl, _, _, _, [], p0 ++ (p1 ++ ([])), [], hW', ?_, ?_, rfl, hbel.frame _, fun h => by cases h⟩
  · exact trodAll_cons_mk (shut_bool Tryz.underlying4 _) trodAll_mk0
  · exact (trodAll_cons_mk (hk0 _ hbel) (trodAll_cons_mk (hk1 _ hbel) trodAll_mk0))

theorem bifOrder_laid (os : Os) : laidMet Tryz.prog Rows.bifOrderRow.laid ((witW os).forCall (fun _ _ => 0) ⟨#[], #[.agg #[.int .u8 0, .bool false, .slice none 0 0, .string ⟨#[]⟩, .int .i64 0, .slice none 0 0, .slice none 0 0], .agg #[.int .u8 0, .bool false, .slice none 0 0, .string ⟨#[]⟩, .int .i64 0, .slice none 0 0, .slice none 0 0]], []⟩).memory := laid_met os _
theorem bifOrder_reads (os : Os) {H : Type} (enc : TypeId × Value → H) : ∃ places, DataW.whole enc Tryz.prog ((witW os).forCall (fun _ _ => 0) ⟨#[], #[.agg #[.int .u8 0, .bool false, .slice none 0 0, .string ⟨#[]⟩, .int .i64 0, .slice none 0 0, .slice none 0 0], .agg #[.int .u8 0, .bool false, .slice none 0 0, .string ⟨#[]⟩, .int .i64 0, .slice none 0 0, .slice none 0 0]], []⟩).memory Tryz.f3.params.toList Rows.bifOrderSpec.vars false #[.agg #[.int .u8 0, .bool false, .slice none 0 0, .string ⟨#[]⟩, .int .i64 0, .slice none 0 0, .slice none 0 0], .agg #[.int .u8 0, .bool false, .slice none 0 0, .string ⟨#[]⟩, .int .i64 0, .slice none 0 0, .slice none 0 0]].toList 8 = some ([.agg [.lit (.int .u8 0), .lit (.bool false), .nil, .lit (.string []), .lit (.int .i64 0), .nil, .nil], .agg [.lit (.int .u8 0), .lit (.bool false), .nil, .lit (.string []), .lit (.int .i64 0), .nil, .nil]], [], places) :=
  ⟨[], by kernel_rfl⟩

set_option maxHeartbeats 1000000 in
set_option maxRecDepth 100000 in
theorem bifOrder_lifted (os : Os) (started : os.Started) (H : Type) (enc : TypeId × Value → H) (F : Stop.Interp) :
    ReturnsInHanded {} Tryz.checked os 3 .any ((OpenSpec.ofChange Rows.bifOrderSpec).preRow enc Tryz.prog Tryz.f3 Rows.bifOrderRow.domain false Rows.bifOrderRow.laid) (((OpenSpec.ofChange Rows.bifOrderSpec).at F).post enc Tryz.prog Tryz.f3 false true false false) := by
  obtain ⟨places, hx⟩ := bifOrder_reads os enc
  refine returnsInHanded_of_row (C := Tryz.checked) (s := OpenSpec.ofChange Rows.bifOrderSpec) own started (by kernel_rfl) Tryz.func3
    (witness_row_atRef (enc := enc) (C := Tryz.checked) false (witW os) #[.agg #[.int .u8 0, .bool false, .slice none 0 0, .string ⟨#[]⟩, .int .i64 0, .slice none 0 0, .slice none 0 0], .agg #[.int .u8 0, .bool false, .slice none 0 0, .string ⟨#[]⟩, .int .i64 0, .slice none 0 0, .slice none 0 0]] rfl (by kernel_rfl) (by kernel_rfl) (by kernel_rfl)
      (OpenSpec.preRow_of_cond 8 hx (by kernel_rfl) (fun k hk => by cases hk) (by kernel_rfl) (bifOrder_laid os))) ?_
  intro W base args ds gs before hval hW _ _ hwt hlaid _ _
  exact bifOrder_contract H enc W base args ds gs before (blt_of_laid hlaid) hval hW hwt

set_option maxRecDepth 100000 in
theorem bifOrder_said : Rows.BifOrderSaid :=
  OpenClaim.holds_of_cond 3 Tryz.f3 rfl rfl rfl rfl rfl rfl rfl ⟨rfl, rfl, rfl, rfl, rfl⟩ rfl rfl rfl rfl rfl (by kernel_rfl) Tryz.func3 (by kernel_rfl)
    (of_decide_eq_true (by kernel_rfl)) (by unfold Func.isWrapper; first | (rw [if_pos (by decide +kernel)]; kernel_rfl) | (rw [if_neg (by decide +kernel)]; exact ⟨rfl, rfl⟩))
    (fun os started H enc _ F => by rw [OpenClaim.pre_eq_preRow]; exact bifOrder_lifted  os started H enc F)

theorem bifOrder_plain (f : FuncId) (fn : Func) (hf : Tryz.pinned.checked.prog.funcNamed "pigeonhole/pigeonholelaw10.BifOrder" = some f) (hfn : Tryz.pinned.checked.prog.funcs[f]? = some fn) :
    false = Tryz.pinned.checked.prog.looks [] ∧ ∀ (j : Nat) t, fn.params[j]? = some t → Tryz.pinned.checked.prog.wantsStandIn t = false := by
  obtain rfl : f = 3 := Option.some.inj ((show Tryz.prog.funcNamed "pigeonhole/pigeonholelaw10.BifOrder" = some 3 by kernel_rfl).symm.trans hf) |>.symm
  obtain rfl : fn = Tryz.f3 := (Option.some.inj (Tryz.func3.symm.trans hfn)).symm
  refine ⟨by kernel_rfl, fun j t ht => ?_⟩
  rw [Tryz.params3] at ht
  have hm : t = 26 := by have := Array.mem_of_getElem? ht; simpa using this
  subst hm
  exact (show Tryz.prog.wantsStandIn 26 = false by kernel_rfl)

/-- The card: BifOrder returns true, of whatever two terms. -/
theorem bifOrder_card_holds : Rows.BifOrderCardSaid :=
  Claim7.holds_tied_plain_at .later [] _ _ _ _ (bifOrder_said ) (fun _ h => by cases h) (by kernel_rfl) (fun _ h => by cases h) bifOrder_row_tie rfl ⟨rfl, rfl⟩ (by kernel_rfl) rfl bifOrder_plain (by kernel_rfl)

end Go.Proofs.YtnpocmhaoaigfaaGreatDoor
