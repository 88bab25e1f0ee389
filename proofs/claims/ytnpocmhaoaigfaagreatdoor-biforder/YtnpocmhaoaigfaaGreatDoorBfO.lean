/- awake of the statements of layer 10. -/
import Derived.Test.YtnpocmhaoaigfaaGreatDoorJAQ
import Derived.Test.YtnpocmhaoaigfaaGreatDoorBfE
import Derived.Test.YtnpocmhaoaigfaaGreatDoorJAT
import Derived.Deep.DeepCutAuto
namespace Go.Proofs.YtnpocmhaoaigfaaGreatDoor
open Go.RowKit

theorem text_42 : IsText [52, 50] 42 := ⟨[52, 50], rfl, Or.inr ⟨by decide, ⟨by unfold IsDig; decide, by decide, fun x hx => by simp at hx; omega⟩⟩⟩

set_option maxHeartbeats 1000000 in
set_option maxRecDepth 100000 in
theorem is_atom {d : Nat} (s x : ByteArray) (cs : List Value) (w : World) (r : Bool) (hin : In w d cs (tmA s)) (e1 : (s == x) = r) (e2 : (s.toList == x.toList) = r) :
    Calls Tryz.prog 17 #[.agg cs.toArray, .string x] w fun e w' => e = .returned (.bool r) ∧ Upd [] w w' := by
  cases d with
  | zero => exact hin.elim
  | succ d =>
    obtain ⟨a, ai, at', c, ci, ct, rfl, _⟩ := hin
    have HU1 : Hid (Upd [] w (w.alloc (.cells #[.int .u8 2, .bool false, .slice a 0 c, .string s, .int .i64 0, .slice ai 0 ci, .slice at' 0 ct] 26))) := (Upd.refl [] w).alloc _
    have tb0 : Tb (w.alloc (.cells #[.int .u8 2, .bool false, .slice a 0 c, .string s, .int .i64 0, .slice ai 0 ci, .slice at' 0 ct] 26)) w.heap.size #[.int .u8 2, .bool false, .slice a 0 c, .string s, .int .i64 0, .slice ai 0 ci, .slice at' 0 ct] := Tb.new _ _ _ rfl
    have y0 : (w.alloc (.cells #[.int .u8 2, .bool false, .slice a 0 c, .string s, .int .i64 0, .slice ai 0 ci, .slice at' 0 ct] 26)).cell? ⟨w.heap.size, 0, none⟩ = some (.int .u8 2) := tb0.cell 0
    have y3 : (w.alloc (.cells #[.int .u8 2, .bool false, .slice a 0 c, .string s, .int .i64 0, .slice ai 0 ci, .slice at' 0 ct] 26)).cell? ⟨w.heap.size, 3, none⟩ = some (.string s) := tb0.cell 3
    clear tb0
    simp only [List.length_nil]
    cases r
    all_goals
      go_enter Tryz.func17, Tryz.ntmps17
      go_wp2
      go_ret
      exact ⟨rfl, HU1.out⟩

theorem one_ok {z : Int} {x : Tm} (hx : IntT z x) : okS (tmL [x]) = true := by
  obtain ⟨L, rfl, n1, l1⟩ := hx
  have o1 := IntT.ok (z := z) ⟨L, rfl, n1, l1⟩
  unfold okS at o1 ⊢
  rw [Bool.and_eq_true] at o1 ⊢
  refine ⟨?_, ?_⟩
  · unfold tmL
    rw [okT', okR, okR, o1.1]
    rfl
  · simp [tmL, szT, szR, ownZ]
    omega

theorem errT_form {w : World} {d : Nat} {cs : List Value} {s y : ByteArray} (h : In w (d + 1) cs (errT s y)) : ∃ (a ai at' : Option Addr) (c ci ct : Nat), cs = [.int .u8 6, .bool false, .slice a 0 c, .string ⟨#[]⟩, .int .i64 0, .slice ai 2 ci, .slice at' 0 ct] ∧ RowAt (In w d) w ai [tmA s, tmA y] := by
  obtain ⟨a, ai, at', c, ci, ct, e, _, _, h1, _⟩ := h
  exact ⟨a, ai, at', c, ci, ct, e, h1⟩

set_option maxHeartbeats 8000000 in
set_option maxRecDepth 100000 in
theorem awake_any (w : World) (hB : Blt w) : Calls Tryz.prog 5 #[] w fun e w' => e = .returned (.bool true) ∧ Upd [] w w' := by
  have HB : Hid (Blt w) := hB
  clear hB
  go_enter Tryz.func5, Tryz.ntmps5
  go_wp2_with fail
  refine Calls.mono (number_any 40 0 _ (by omega)) ?_
  rintro e w1 ⟨cs, x40, _, rfl, hx, kx, u1⟩
  obtain ⟨n0, a0, i0, t0, c0, ci0, ct0, L0, rfl, _⟩ := hx.plain.int' kx
  have HX : Hid (In w1 1 _ x40 ∧ IntT 40 x40) := ⟨hx.plain, kx⟩
  have U1 : Hid (Upd [] w w1) := u1
  clear hx kx u1
  go_wp2_with fail
  refine Calls.mono (number_any 2 0 _ (by omega)) ?_
  rintro e w2 ⟨cs, x2, _, rfl, hx, kx, u2⟩
  obtain ⟨n1, a1, i1, t1, c1, ci1, ct1, L1, rfl, _⟩ := hx.plain.int' kx
  have HY : Hid (In w2 1 _ x2 ∧ IntT 2 x2) := ⟨hx.plain, kx⟩
  have HX2 : Hid (In w2 1 _ x40) := In.mono u2 _ _ _ HX.out.1
  have U2 : Hid (Upd [] w w2) := U1.out.trans u2
  clear hx kx u2 U1
  go_wp2_with fail
  refine Calls.mono (call_add (D := 1) (x := 40) (y := 2) (t := x40) (u := x2) (d := 1) _ _ (HB.out.mono (U2.out.alloc _)) (row_two (Tb.new _ _ _ rfl) (In.mono ((Upd.refl [] w2).alloc _) _ _ _ HX2.out) (In.mono ((Upd.refl [] w2).alloc _) _ _ _ HY.out.1)) HX.out.2 HY.out.2 (by decide +kernel)) ?_
  rintro e w3 ⟨cs, cr, v, u, _, l2, rfl, hv, kv, hu, rfl, u3⟩
  obtain ⟨n2, a2, i2, t2, c2, ci2, ct2, L2, rfl, hTI⟩ := hv.plain.int' kv
  have o1 := hv.plain.one
  have o2 := hu.plain.one
  obtain ⟨z1, z2, z3, z4, z5, z6, rfl⟩ := hu.plain.kdform
  have HT2 : Hid (TI w3 n2 a2 L2 42) := hTI
  have U3 : Hid (Upd [] w w3) := (U2.out.alloc _).trans u3
  clear hv kv hu hTI u3 U2 HX HY HX2
  have ta : Tb ((w3.alloc (.cells #[.int .u8 0, .bool false, .slice none 0 0, .string ⟨#[]⟩, .int .i64 0, .slice none 0 0, .slice none 0 0] 26)).alloc (.cells #[.int .u8 0, .bool false, .slice none 0 0, .string ⟨#[]⟩, .int .i64 0, .slice none 0 0, .slice none 0 0] 26)) w3.heap.size #[.int .u8 0, .bool false, .slice none 0 0, .string ⟨#[]⟩, .int .i64 0, .slice none 0 0, .slice none 0 0] := (Tb.new _ _ _ rfl).old _
  have tb : Tb ((w3.alloc (.cells #[.int .u8 0, .bool false, .slice none 0 0, .string ⟨#[]⟩, .int .i64 0, .slice none 0 0, .slice none 0 0] 26)).alloc (.cells #[.int .u8 0, .bool false, .slice none 0 0, .string ⟨#[]⟩, .int .i64 0, .slice none 0 0, .slice none 0 0] 26)) (w3.heap.size + 1) #[.int .u8 0, .bool false, .slice none 0 0, .string ⟨#[]⟩, .int .i64 0, .slice none 0 0, .slice none 0 0] := Tb.new _ _ _ (by simp)
  have HUa : Hid (Upd [] w3 ((w3.alloc (.cells #[.int .u8 0, .bool false, .slice none 0 0, .string ⟨#[]⟩, .int .i64 0, .slice none 0 0, .slice none 0 0] 26)).alloc (.cells #[.int .u8 0, .bool false, .slice none 0 0, .string ⟨#[]⟩, .int .i64 0, .slice none 0 0, .slice none 0 0] 26))) := ((Upd.refl [] w3).alloc _).alloc _
  go_wp2_with (first | (refine store_T _ rfl _ _ rfl _ #[.int .u8 1, .bool n2, .slice a2 L2.length c2, .string ⟨#[]⟩, .int .i64 0, .slice i2 0 ci2, .slice t2 0 ct2] _ rfl rfl ta rfl rfl o1 ?_; intro w4 hT4 hU4; have tb4 := tb.mono hU4 (by simp)) | (refine store_T _ rfl _ _ rfl _ #[.int .u8 tmZ.kd, z1, z2, z3, z4, z5, z6] _ rfl rfl tb4 rfl rfl o2 ?_; intro w5 hT5 hU5) | fail)
  have hk0 : tmZ.kd = 0 := rfl
  rw [hk0] at hT5 ⊢
  have V5 : Upd [] w3 w5 := (HUa.out.then hU4 (by simp)).then hU5 (by simp)
  have U5 : Hid (Upd [] w w5) := U3.out.trans V5
  have TA : Hid (Tb w5 w3.heap.size #[.int .u8 1, .bool n2, .slice a2 L2.length c2, .string ⟨#[]⟩, .int .i64 0, .slice i2 0 ci2, .slice t2 0 ct2]) := hT4.mono hU5 (by simp)
  have TB : Hid (Tb w5 (w3.heap.size + 1) #[.int .u8 0, z1, z2, z3, z4, z5, z6]) := hT5
  have HT25 : Hid (TI w5 n2 a2 L2 42) := HT2.out.mono V5
  clear ta tb HUa hT4 hT5 hU4 hU5 tb4 V5 U3 o1 o2 HT2 hk0
  refine Calls.mono (number_any 1 0 _ (by omega)) ?_
  rintro e w6 ⟨cs, y1, _, rfl, hx, kx, u6⟩
  obtain ⟨n3, a3, i3, t3, c3, ci3, ct3, L3, rfl, _⟩ := hx.plain.int' kx
  have HX : Hid (In w6 1 _ y1 ∧ IntT 1 y1) := ⟨hx.plain, kx⟩
  have U6 : Hid (Upd [] w w6) := U5.out.trans u6
  have V6 : Hid (Upd [] w5 w6) := u6
  clear hx kx u6 U5
  go_wp2_with fail
  refine Calls.mono (list_any _ 1 1 _) ?_
  rintro e w7 ⟨rfl, u7⟩
  have V7 : Hid (Upd [] w6 w7) := Upd.trans ((Upd.refl [] w6).alloc _) u7
  have HR1 : Hid (RowAt (In w7 1) w7 (some ⟨w6.heap.size, 0, none⟩) [y1]) := row_one ((Tb.new w6 #[.int .u8 1, .bool n3, .slice a3 L3.length c3, .string ⟨#[]⟩, .int .i64 0, .slice i3 0 ci3, .slice t3 0 ct3] _ rfl).mono u7 (by simp)) (In.mono V7.out _ _ _ HX.out.1)
  clear u7
  go_wp2_with fail
  refine Calls.mono (number_any 2 0 _ (by omega)) ?_
  rintro e w8 ⟨cs, y2, _, rfl, hx, kx, u8⟩
  obtain ⟨n4, a4, i4, t4, c4, ci4, ct4, L4, rfl, _⟩ := hx.plain.int' kx
  have HY : Hid (In w8 1 _ y2 ∧ IntT 2 y2) := ⟨hx.plain, kx⟩
  have V8 : Hid (Upd [] w7 w8) := u8
  clear hx kx u8
  go_wp2_with fail
  refine Calls.mono (list_any _ 1 1 _) ?_
  rintro e w9 ⟨rfl, u9⟩
  have V9 : Hid (Upd [] w8 w9) := Upd.trans ((Upd.refl [] w8).alloc _) u9
  have HR2 : Hid (RowAt (In w9 1) w9 (some ⟨w8.heap.size, 0, none⟩) [y2]) := row_one ((Tb.new w8 #[.int .u8 1, .bool n4, .slice a4 L4.length c4, .string ⟨#[]⟩, .int .i64 0, .slice i4 0 ci4, .slice t4 0 ct4] _ rfl).mono u9 (by simp)) (In.mono V9.out _ _ _ HY.out.1)
  have HR19 : Hid (RowAt (In w9 1) w9 (some ⟨w6.heap.size, 0, none⟩) [y1]) := HR1.out.imp (V8.out.trans V9.out) (fun cs t h => In.mono (V8.out.trans V9.out) 1 cs t h)
  have V59 : Hid (Upd [] w5 w9) := ((V6.out.trans V7.out).trans V8.out).trans V9.out
  have U9 : Hid (Upd [] w w9) := ((U6.out.trans V7.out).trans V8.out).trans V9.out
  clear u9 V6 V7 V8 V9 U6 HR1
  go_wp2_with fail
  have CJ : Hid _ := call_join (d := 1) (c := 2) (x := y1) (y := y2) (z := 1) (z' := 2) (some ⟨w9.heap.size, 0, none⟩) (w9.alloc (.cells #[.int .u8 7, .bool false, .slice none 0 0, .string ⟨#[]⟩, .int .i64 0, .slice (some ⟨w6.heap.size, 0, none⟩) 1 1, .slice none 0 0, .int .u8 7, .bool false, .slice none 0 0, .string ⟨#[]⟩, .int .i64 0, .slice (some ⟨w8.heap.size, 0, none⟩) 1 1, .slice none 0 0] 26)) (HB.out.mono (U9.out.alloc _)) (row_two (Tb.new _ _ _ rfl) (In.mono ((Upd.refl [] w9).alloc _) _ _ _ (in_list HR19.out 1 rfl 1)) (In.mono ((Upd.refl [] w9).alloc _) _ _ _ (in_list HR2.out 1 rfl 1))) HX.out.2 HY.out.2 (one_ok HX.out.2) (one_ok HY.out.2)
  refine Calls.mono CJ.out ?_
  rintro e w10 ⟨cs, cr, v, u, _, l2, rfl, hv, kv, hu, rfl, u10⟩
  obtain ⟨_, yy1, yy2, rfl⟩ := kv
  have o1 := hv.plain.one
  have o2 := hu.plain.one
  obtain ⟨b0, b1, b2, d0, d1, d2, rfl, _⟩ := tmL_form hv.plain
  obtain ⟨r1, r2, r3, r4, r5, r6, rfl⟩ := hu.plain.kdform
  have V10 : Hid (Upd [] w5 w10) := (V59.out.alloc _).trans u10
  have U10 : Hid (Upd [] w w10) := (U9.out.alloc _).trans u10
  clear hv hu u10 U9 V59 HX HY HR2 HR19 CJ
  have ta : Tb ((w10.alloc (.cells #[.int .u8 0, .bool false, .slice none 0 0, .string ⟨#[]⟩, .int .i64 0, .slice none 0 0, .slice none 0 0] 26)).alloc (.cells #[.int .u8 0, .bool false, .slice none 0 0, .string ⟨#[]⟩, .int .i64 0, .slice none 0 0, .slice none 0 0] 26)) w10.heap.size #[.int .u8 0, .bool false, .slice none 0 0, .string ⟨#[]⟩, .int .i64 0, .slice none 0 0, .slice none 0 0] := (Tb.new _ _ _ rfl).old _
  have tb : Tb ((w10.alloc (.cells #[.int .u8 0, .bool false, .slice none 0 0, .string ⟨#[]⟩, .int .i64 0, .slice none 0 0, .slice none 0 0] 26)).alloc (.cells #[.int .u8 0, .bool false, .slice none 0 0, .string ⟨#[]⟩, .int .i64 0, .slice none 0 0, .slice none 0 0] 26)) (w10.heap.size + 1) #[.int .u8 0, .bool false, .slice none 0 0, .string ⟨#[]⟩, .int .i64 0, .slice none 0 0, .slice none 0 0] := Tb.new _ _ _ (by simp)
  have HUa : Hid (Upd [] w10 ((w10.alloc (.cells #[.int .u8 0, .bool false, .slice none 0 0, .string ⟨#[]⟩, .int .i64 0, .slice none 0 0, .slice none 0 0] 26)).alloc (.cells #[.int .u8 0, .bool false, .slice none 0 0, .string ⟨#[]⟩, .int .i64 0, .slice none 0 0, .slice none 0 0] 26))) := ((Upd.refl [] w10).alloc _).alloc _
  simp only [List.length_cons, List.length_nil, Nat.zero_add] at o1 ⊢
  go_wp2_with (first | (refine store_T _ rfl _ _ rfl _ #[.int .u8 7, .bool false, .slice b0 0 d0, .string ⟨#[]⟩, .int .i64 0, .slice b1 2 d1, .slice b2 0 d2] _ rfl rfl ta rfl rfl o1 ?_; intro w11 hT4 hU4; have tb4 := tb.mono hU4 (by simp)) | (refine store_T _ rfl _ _ rfl _ #[.int .u8 tmZ.kd, r1, r2, r3, r4, r5, r6] _ rfl rfl tb4 rfl rfl o2 ?_; intro w12 hT5 hU5) | fail)
  have hk0 : tmZ.kd = 0 := rfl
  rw [hk0] at hT5 ⊢
  have V12' : Upd [] w10 w12 := (HUa.out.then hU4 (by simp)).then hU5 (by simp)
  have U12 : Hid (Upd [] w w12) := U10.out.trans V12'
  have V12 : Hid (Upd [] w5 w12) := V10.out.trans V12'
  have TC : Hid (Tb w12 w10.heap.size #[.int .u8 7, .bool false, .slice b0 0 d0, .string ⟨#[]⟩, .int .i64 0, .slice b1 2 d1, .slice b2 0 d2]) := hT4.mono hU5 (by simp)
  have TD : Hid (Tb w12 (w10.heap.size + 1) #[.int .u8 0, r1, r2, r3, r4, r5, r6]) := hT5
  clear ta tb HUa hT4 hT5 hU4 hU5 tb4 V12' U10 V10 o1 o2 hk0
  refine Calls.mono (atom_any _ _) ?_
  rintro e w13 ⟨rfl, u13⟩
  have V13 : Hid (Upd [] w5 w13) := V12.out.trans u13
  have V1213 : Hid (Upd [] w12 w13) := u13
  have U13 : Hid (Upd [] w w13) := U12.out.trans u13
  clear u13 U12
  go_wp2_with fail
  refine Calls.mono (call_hd (D := 1) (g := w13.heap.size) _ _ (HB.out.mono (U13.out.alloc _)) (Tb.new _ _ _ rfl) (by kernel_rfl)) ?_
  rintro e w14 ⟨cs, cr, v, u, _, _, rfl, hv, rfl, hu, rfl, u14⟩
  have o1 := hv.plain.one
  have o2 := hu.plain.one
  obtain ⟨g1, g2, g3, g4, g5, g6, rfl⟩ := hv.plain.kdform
  obtain ⟨e0, e1, e2, f0, f1, f2, rfl, hrow⟩ := errT_form hu.plain
  obtain ⟨gb, go, q0, q1, q2, q3, q4, q5, q6, p0, p1, p2, p3, p4, p5, p6, rfl, hgb, _, hp, _, hpc⟩ := row_cells hrow
  have HP : Hid (In w14 2 [p0, p1, p2, p3, p4, p5, p6] (tmA ⟨#[98, 97, 100, 97, 114, 103]⟩)) := hp
  have HPC : Hid (gb < w14.heap.size ∧ (w14.cell? ⟨gb, go + 7, none⟩ = some p0 ∧ w14.cell? ⟨gb, go + 7 + 1, none⟩ = some p1 ∧ w14.cell? ⟨gb, go + 7 + 2, none⟩ = some p2 ∧ w14.cell? ⟨gb, go + 7 + 3, none⟩ = some p3 ∧ w14.cell? ⟨gb, go + 7 + 4, none⟩ = some p4 ∧ w14.cell? ⟨gb, go + 7 + 5, none⟩ = some p5 ∧ w14.cell? ⟨gb, go + 7 + 6, none⟩ = some p6)) := ⟨hgb, hpc⟩
  have V1314 : Upd [] w13 w14 := Upd.trans ((Upd.refl [] w13).alloc _) u14
  have V14 : Hid (Upd [] w5 w14) := V13.out.trans V1314
  have V1214 : Hid (Upd [] w12 w14) := V1213.out.trans V1314
  have U14 : Hid (Upd [] w w14) := U13.out.trans V1314
  clear hv hu u14 V1314 V13 V1213 U13 hrow hp hgb hpc
  have ta : Tb ((w14.alloc (.cells #[.int .u8 0, .bool false, .slice none 0 0, .string ⟨#[]⟩, .int .i64 0, .slice none 0 0, .slice none 0 0] 26)).alloc (.cells #[.int .u8 0, .bool false, .slice none 0 0, .string ⟨#[]⟩, .int .i64 0, .slice none 0 0, .slice none 0 0] 26)) w14.heap.size #[.int .u8 0, .bool false, .slice none 0 0, .string ⟨#[]⟩, .int .i64 0, .slice none 0 0, .slice none 0 0] := (Tb.new _ _ _ rfl).old _
  have tb : Tb ((w14.alloc (.cells #[.int .u8 0, .bool false, .slice none 0 0, .string ⟨#[]⟩, .int .i64 0, .slice none 0 0, .slice none 0 0] 26)).alloc (.cells #[.int .u8 0, .bool false, .slice none 0 0, .string ⟨#[]⟩, .int .i64 0, .slice none 0 0, .slice none 0 0] 26)) (w14.heap.size + 1) #[.int .u8 0, .bool false, .slice none 0 0, .string ⟨#[]⟩, .int .i64 0, .slice none 0 0, .slice none 0 0] := Tb.new _ _ _ (by simp)
  have HUa : Hid (Upd [] w14 ((w14.alloc (.cells #[.int .u8 0, .bool false, .slice none 0 0, .string ⟨#[]⟩, .int .i64 0, .slice none 0 0, .slice none 0 0] 26)).alloc (.cells #[.int .u8 0, .bool false, .slice none 0 0, .string ⟨#[]⟩, .int .i64 0, .slice none 0 0, .slice none 0 0] 26))) := ((Upd.refl [] w14).alloc _).alloc _
  go_wp2_with (first | (refine store_T _ rfl _ _ rfl _ #[.int .u8 tmZ.kd, g1, g2, g3, g4, g5, g6] _ rfl rfl ta rfl rfl o1 ?_; intro w15 hT4 hU4; have tb4 := tb.mono hU4 (by simp)) | (refine store_T _ rfl _ _ rfl _ #[.int .u8 6, .bool false, .slice e0 0 f0, .string ⟨#[]⟩, .int .i64 0, .slice (some ⟨gb, go, none⟩) 2 f1, .slice e2 0 f2] _ rfl rfl tb4 rfl rfl o2 ?_; intro w16 hT5 hU5) | fail)
  have V16' : Upd [] w14 w16 := (HUa.out.then hU4 (by simp)).then hU5 (by simp)
  have V16 : Hid (Upd [] w5 w16) := V14.out.trans V16'
  have V1216 : Hid (Upd [] w12 w16) := V1214.out.trans V16'
  have V1416 : Hid (Upd [] w14 w16) := V16'
  have U16 : Hid (Upd [] w w16) := U14.out.trans V16'
  have TE : Hid (Tb w16 (w14.heap.size + 1) #[.int .u8 6, .bool false, .slice e0 0 f0, .string ⟨#[]⟩, .int .i64 0, .slice (some ⟨gb, go, none⟩) 2 f1, .slice e2 0 f2]) := hT5
  clear ta tb HUa hT4 hT5 hU4 hU5 tb4 V16' U14 V14 V1214 o1 o2
  refine Calls.mono (call_self 1 _ (HB.out.mono U16.out)) ?_
  rintro e w17 ⟨cs, cr, v, u, l1, l2, rfl, hv, rfl, hu, rfl, u17⟩
  have o1 := hv.plain.one
  have o2 := hu.plain.one
  obtain ⟨h0, h1, h2, h3, h4, h5, h6, rfl⟩ := list7 l1
  obtain ⟨j0, j1, j2, j3, j4, j5, j6, rfl⟩ := list7 l2
  have V17 : Hid (Upd [] w16 w17) := u17
  clear hv hu u17
  have ta : Tb ((w17.alloc (.cells #[.int .u8 0, .bool false, .slice none 0 0, .string ⟨#[]⟩, .int .i64 0, .slice none 0 0, .slice none 0 0] 26)).alloc (.cells #[.int .u8 0, .bool false, .slice none 0 0, .string ⟨#[]⟩, .int .i64 0, .slice none 0 0, .slice none 0 0] 26)) w17.heap.size #[.int .u8 0, .bool false, .slice none 0 0, .string ⟨#[]⟩, .int .i64 0, .slice none 0 0, .slice none 0 0] := (Tb.new _ _ _ rfl).old _
  have tb : Tb ((w17.alloc (.cells #[.int .u8 0, .bool false, .slice none 0 0, .string ⟨#[]⟩, .int .i64 0, .slice none 0 0, .slice none 0 0] 26)).alloc (.cells #[.int .u8 0, .bool false, .slice none 0 0, .string ⟨#[]⟩, .int .i64 0, .slice none 0 0, .slice none 0 0] 26)) (w17.heap.size + 1) #[.int .u8 0, .bool false, .slice none 0 0, .string ⟨#[]⟩, .int .i64 0, .slice none 0 0, .slice none 0 0] := Tb.new _ _ _ (by simp)
  have HUa : Hid (Upd [] w17 ((w17.alloc (.cells #[.int .u8 0, .bool false, .slice none 0 0, .string ⟨#[]⟩, .int .i64 0, .slice none 0 0, .slice none 0 0] 26)).alloc (.cells #[.int .u8 0, .bool false, .slice none 0 0, .string ⟨#[]⟩, .int .i64 0, .slice none 0 0, .slice none 0 0] 26))) := ((Upd.refl [] w17).alloc _).alloc _
  go_wp2_with (first | (refine store_T _ rfl _ _ rfl _ #[h0, h1, h2, h3, h4, h5, h6] _ rfl rfl ta rfl rfl o1 ?_; intro w18 hT4 hU4; have tb4 := tb.mono hU4 (by simp)) | (refine store_T _ rfl _ _ rfl _ #[j0, j1, j2, j3, j4, j5, j6] _ rfl rfl tb4 rfl rfl o2 ?_; intro w19 hT5 hU5; have V19 : Hid (Upd [] w16 w19) := V17.out.trans ((HUa.out.then hU4 (by simp)).then hU5 (by simp)); have y2 : w19.cell? ⟨w3.heap.size + 1, 0, none⟩ = some (.int .u8 0) := Tb.cell (Tb.mono TB.out (V16.out.trans V19.out) (by simp)) 0; have TA19 : Tb w19 w3.heap.size #[.int .u8 1, .bool n2, .slice a2 L2.length c2, .string ⟨#[]⟩, .int .i64 0, .slice i2 0 ci2, .slice t2 0 ct2] := Tb.mono TA.out (V16.out.trans V19.out) (by simp)) | (refine load_G _ _ rfl _ _ rfl TA19 rfl rfl ?_) | fail)
  refine Calls.mono (Text_any a2 i2 t2 c2 ci2 ct2 n2 L2 42 w19 (HT25.out.mono (V16.out.trans V19.out))) ?_
  rintro e w20 ⟨u20, T, rfl, hT⟩
  obtain rfl : T = [52, 50] := hT.uniq text_42
  have hbs : bs [52, 50] = ⟨#[52, 50]⟩ := by kernel_rfl
  rw [hbs]
  have V20 : Hid (Upd [] w16 w20) := V19.out.trans u20
  have U20 : Hid (Upd [] w w20) := U16.out.trans V20.out
  have k1 : w20.cell? ⟨w10.heap.size + 1, 0, none⟩ = some (.int .u8 0) := Tb.cell (Tb.mono TD.out (V1216.out.trans V20.out) (by simp)) 0
  have k2 : w20.cell? ⟨w10.heap.size, 5, none⟩ = some (.slice b1 2 d1) := Tb.cell (Tb.mono TC.out (V1216.out.trans V20.out) (by simp)) 5
  have k3 : w20.cell? ⟨w14.heap.size + 1, 0, none⟩ = some (.int .u8 6) := Tb.cell (Tb.mono TE.out V20.out (by simp)) 0
  have k4 : w20.cell? ⟨w14.heap.size + 1, 5, none⟩ = some (.slice (some ⟨gb, go, none⟩) 2 f1) := Tb.cell (Tb.mono TE.out V20.out (by simp)) 5
  have VG := V1416.out.trans V20.out
  have hgb := HPC.out.1
  obtain ⟨m0, m1, m2, m3, m4, m5, m6⟩ := HPC.out.2
  have s0 := (VG.cell (p := ⟨gb, go + 7, none⟩) hgb (by simp)).trans m0
  have s1 := (VG.cell (p := ⟨gb, go + 7 + 1, none⟩) hgb (by simp)).trans m1
  have s2 := (VG.cell (p := ⟨gb, go + 7 + 2, none⟩) hgb (by simp)).trans m2
  have s3 := (VG.cell (p := ⟨gb, go + 7 + 3, none⟩) hgb (by simp)).trans m3
  have s4 := (VG.cell (p := ⟨gb, go + 7 + 4, none⟩) hgb (by simp)).trans m4
  have s5 := (VG.cell (p := ⟨gb, go + 7 + 5, none⟩) hgb (by simp)).trans m5
  have s6 := (VG.cell (p := ⟨gb, go + 7 + 6, none⟩) hgb (by simp)).trans m6
  have HP20 : Hid (In w20 2 [p0, p1, p2, p3, p4, p5, p6] (tmA ⟨#[98, 97, 100, 97, 114, 103]⟩)) := In.mono VG _ _ _ HP.out
  clear m0 m1 m2 m3 m4 m5 m6 VG u20 hT hbs TA19 y2 hT5 hU5 hT4 hU4 tb4 ta tb HUa o1 o2 hgb
  go_wp2_with fail
  refine Calls.mono (is_atom _ ⟨#[98, 97, 100, 97, 114, 103]⟩ _ _ true HP20.out (by kernel_rfl) (by kernel_rfl)) ?_
  rintro e w21 ⟨rfl, u21⟩
  have U21 : Hid (Upd [] w w21) := U20.out.trans u21
  clear k1 k2 k3 k4 s0 s1 s2 s3 s4 s5 s6 u21
  go_wp2
  go_ret
  exact ⟨rfl, U21.out⟩

end Go.Proofs.YtnpocmhaoaigfaaGreatDoor
