/- BifWhole, walked: quotient and rest. -/
import Derived.Test.YtnpocmhaoaigfaaGreatDoorJAU
namespace Go.Proofs.YtnpocmhaoaigfaaGreatDoor
open Go.RowKit

theorem fit_mul {x y : Int} (h : x.natAbs < 4294967296 ^ 32) : (x.tdiv y * y).natAbs < 4294967296 ^ 32 := by
  have h1 : (x.tdiv y * y).natAbs ≤ x.natAbs := by
    rw [Int.natAbs_mul, Int.natAbs_tdiv]
    exact Nat.div_mul_le_self _ _
  generalize 4294967296 ^ 32 = N at h ⊢
  omega
theorem tdiv_tmod (x y : Int) : x.tdiv y * y + x.tmod y = x := by rw [Int.mul_comm]; exact Int.mul_tdiv_add_tmod x y
theorem IntT.small {z : Int} {t : Tm} (h : IntT z t) : z.natAbs < 4294967296 ^ 32 := by
  obtain ⟨L, _, h1, h2⟩ := h
  exact (h1.len_le 32).1 h2
theorem same_self {t : Tm} (h : okS t = true) : samS t t = true := by
  unfold samS
  rw [h, ordT_self t (okS_ok h)]
  rfl

set_option maxHeartbeats 8000000 in
set_option maxRecDepth 100000 in
theorem Whole_div (w : World) (d : Nat) (cs0 cs1 : List Value) (t u : Tm) (x y : Int) (hB : Blt w) (h0 : In w (d + 1) cs0 t) (h1 : In w (d + 1) cs1 u) (k0 : IntT x t) (k1 : IntT y u) (hy : y ≠ 0) :
    Calls Tryz.prog 4 #[.agg cs0.toArray, .agg cs1.toArray] w fun e w' => e = .returned (.bool true) ∧ Upd [] w w' := by
  have HY : Hid (y ≠ 0) := hy
  clear hy
  obtain ⟨na, a, ai, at', ca, ci, ct, A, rfl, TA⟩ := h0.int' k0
  obtain ⟨nb, b, bi, bt, cb, cbi, cbt, B, rfl, TB⟩ := h1.int' k1
  have H0 : Hid (In w (d + 1) _ t) := h0
  have H1 : Hid (In w (d + 1) _ u) := h1
  have K : Hid (IntT x t ∧ IntT y u) := ⟨k0, k1⟩
  have HB : Hid (Blt w) := hB
  have RA : Hid (∀ W, Upd [] w W → Calls Tryz.prog 11 #[.agg #[.int .u8 1, .bool na, .slice a A.length ca, .string ⟨#[]⟩, .int .i64 0, .slice ai 0 ci, .slice at' 0 ct]] W fun e w' => e = .returned (.bool true) ∧ Upd [] W w') := fun W hu => (TA.mono hu).rightU ai at' ca ci ct
  have RB : Hid (∀ W, Upd [] w W → Calls Tryz.prog 11 #[.agg #[.int .u8 1, .bool nb, .slice b B.length cb, .string ⟨#[]⟩, .int .i64 0, .slice bi 0 cbi, .slice bt 0 cbt]] W fun e w' => e = .returned (.bool true) ∧ Upd [] W w') := fun W hu => (TB.mono hu).rightU bi bt cb cbi cbt
  have HNB : Hid (TI w nb b B y) := TB
  have tA : Tb ((w.alloc (.cells #[.int .u8 1, .bool na, .slice a A.length ca, .string ⟨#[]⟩, .int .i64 0, .slice ai 0 ci, .slice at' 0 ct] 26)).alloc (.cells #[.int .u8 1, .bool nb, .slice b B.length cb, .string ⟨#[]⟩, .int .i64 0, .slice bi 0 cbi, .slice bt 0 cbt] 26)) w.heap.size #[.int .u8 1, .bool na, .slice a A.length ca, .string ⟨#[]⟩, .int .i64 0, .slice ai 0 ci, .slice at' 0 ct] := (Tb.new _ _ _ rfl).old _
  have tB : Tb ((w.alloc (.cells #[.int .u8 1, .bool na, .slice a A.length ca, .string ⟨#[]⟩, .int .i64 0, .slice ai 0 ci, .slice at' 0 ct] 26)).alloc (.cells #[.int .u8 1, .bool nb, .slice b B.length cb, .string ⟨#[]⟩, .int .i64 0, .slice bi 0 cbi, .slice bt 0 cbt] 26)) (w.heap.size + 1) #[.int .u8 1, .bool nb, .slice b B.length cb, .string ⟨#[]⟩, .int .i64 0, .slice bi 0 cbi, .slice bt 0 cbt] := Tb.new _ _ _ (by simp)
  have HU0 : Hid (Upd [] w ((w.alloc (.cells #[.int .u8 1, .bool na, .slice a A.length ca, .string ⟨#[]⟩, .int .i64 0, .slice ai 0 ci, .slice at' 0 ct] 26)).alloc (.cells #[.int .u8 1, .bool nb, .slice b B.length cb, .string ⟨#[]⟩, .int .i64 0, .slice bi 0 cbi, .slice bt 0 cbt] 26))) := ((Upd.refl [] w).alloc _).alloc _
  clear h0 h1 k0 k1 hB TA TB
  go_enter Tryz.func4, Tryz.ntmps4
  go_wp2_with fail
  refine Calls.mono (awake_any _ (HB.out.mono HU0.out)) ?_
  rintro e w1 ⟨rfl, v1⟩
  have U1 : Hid (Upd [] w w1) := HU0.out.trans v1
  have tA1 := tA.mono v1 (by simp)
  have tB1 := tB.mono v1 (by simp)
  clear v1 tA tB HU0
  go_wp2_with (first | (refine load_G _ _ rfl _ _ rfl tA1 rfl rfl ?_) | fail)
  refine Calls.mono (RA.out _ U1.out) ?_
  rintro e w2 ⟨rfl, v2⟩
  have U2 : Hid (Upd [] w w2) := U1.out.trans v2
  have tA2 := tA1.mono v2 (by simp)
  have tB2 := tB1.mono v2 (by simp)
  clear v2 tA1 tB1 U1 RA
  go_wp2_with (first | (refine load_G _ _ rfl _ _ rfl tB2 rfl rfl ?_) | fail)
  refine Calls.mono (RB.out _ U2.out) ?_
  rintro e w3 ⟨rfl, v3⟩
  have U3 : Hid (Upd [] w w3) := U2.out.trans v3
  have tA3 := tA2.mono v3 (by simp)
  have tB3 := tB2.mono v3 (by simp)
  clear v3 tA2 tB2 U2 RB
  go_wp2_with (first | (refine load_G _ _ rfl _ _ rfl tA3 rfl rfl ?_) | (refine load_G _ _ rfl _ _ rfl tB3 rfl rfl ?_) | fail)
  refine Calls.mono (lc_div (D := d) (some ⟨w3.heap.size, 0, none⟩) (w3.alloc (.cells #[.int .u8 1, .bool na, .slice a A.length ca, .string ⟨#[]⟩, .int .i64 0, .slice ai 0 ci, .slice at' 0 ct, .int .u8 1, .bool nb, .slice b B.length cb, .string ⟨#[]⟩, .int .i64 0, .slice bi 0 cbi, .slice bt 0 cbt] 26)) (HB.out.mono (U3.out.alloc _)) (row_two (Tb.new _ _ _ rfl) (In.mono (U3.out.alloc _) _ _ _ H0.out) (In.mono (U3.out.alloc _) _ _ _ H1.out)) K.out.1 K.out.2 HY.out) ?_
  rintro e w4 ⟨cs, vq, _, rfl, hv, kv, v4⟩
  obtain ⟨nq, aq, iq, tq, cq, ciq, ctq, Lq, rfl, _⟩ := hv.plain.int' kv
  have o4 := hv.plain.one
  have V4 : Upd [] w3 w4 := Upd.trans ((Upd.refl [] w3).alloc _) v4
  have U4 : Hid (Upd [] w w4) := U3.out.trans V4
  have HQ : Hid (InU 0 w4.heap.size w4 (d + 1) _ vq ∧ IntT (x.tdiv y) vq) := ⟨InU.int 0 w4.heap.size hv.plain kv, kv⟩
  have tA4 := tA3.mono V4 (by simp)
  have tB4 := tB3.mono V4 (by simp)
  have tz4 : Tb (w4.alloc (.cells #[.int .u8 0, .bool false, .slice none 0 0, .string ⟨#[]⟩, .int .i64 0, .slice none 0 0, .slice none 0 0] 26)) w4.heap.size #[.int .u8 0, .bool false, .slice none 0 0, .string ⟨#[]⟩, .int .i64 0, .slice none 0 0, .slice none 0 0] := Tb.new _ _ _ rfl
  have HL4 : Hid (w.heap.size + 1 < w4.heap.size) := Tb.lt tB4
  clear v4 V4 hv kv tA3 tB3 U3
  go_wp2_with (first | (refine store_T _ rfl _ _ rfl _ #[.int .u8 1, .bool nq, .slice aq Lq.length cq, .string ⟨#[]⟩, .int .i64 0, .slice iq 0 ciq, .slice tq 0 ctq] _ rfl rfl tz4 rfl rfl o4 ?_; intro w5 hT5 hU5; have V45 : Hid (Upd [] w4 w5) := ((Upd.refl [] w4).alloc _).then hU5 (by simp); have tA5 : Tb w5 w.heap.size #[.int .u8 1, .bool na, .slice a A.length ca, .string ⟨#[]⟩, .int .i64 0, .slice ai 0 ci, .slice at' 0 ct] := tA4.mono V45.out (by simp); have tB5 : Tb w5 (w.heap.size + 1) #[.int .u8 1, .bool nb, .slice b B.length cb, .string ⟨#[]⟩, .int .i64 0, .slice bi 0 cbi, .slice bt 0 cbt] := tB4.mono V45.out (by simp); have U5 : Hid (Upd [] w w5) := U4.out.trans V45.out; clear hU5 tA4 tB4 tz4) | (refine load_G _ _ rfl _ _ rfl tA5 rfl rfl ?_) | (refine load_G _ _ rfl _ _ rfl tB5 rfl rfl ?_) | fail)
  have HQ5 : Hid (In w5 (d + 1) _ vq) := In.mono V45.out _ _ _ HQ.out.1.plain
  refine Calls.mono (lc_rem (D := d) (some ⟨w5.heap.size, 0, none⟩) (w5.alloc (.cells #[.int .u8 1, .bool na, .slice a A.length ca, .string ⟨#[]⟩, .int .i64 0, .slice ai 0 ci, .slice at' 0 ct, .int .u8 1, .bool nb, .slice b B.length cb, .string ⟨#[]⟩, .int .i64 0, .slice bi 0 cbi, .slice bt 0 cbt] 26)) (HB.out.mono (U5.out.alloc _)) (row_two (Tb.new _ _ _ rfl) (In.mono (U5.out.alloc _) _ _ _ H0.out) (In.mono (U5.out.alloc _) _ _ _ H1.out)) K.out.1 K.out.2 HY.out) ?_
  rintro e w6 ⟨cs, vr, _, rfl, hv, kv, v6⟩
  obtain ⟨nr, ar, ir, tr, cr, cir, ctr, Lr, rfl, _⟩ := hv.plain.int' kv
  have o6 := hv.plain.one
  have V56 : Hid (Upd [] w5 w6) := Upd.trans ((Upd.refl [] w5).alloc _) v6
  have U6 : Hid (Upd [] w w6) := U5.out.trans V56.out
  have HR : Hid (In w6 (d + 1) _ vr ∧ IntT (x.tmod y) vr) := ⟨hv.plain, kv⟩
  have tA6 := tA5.mono V56.out (by simp)
  have tB6 := tB5.mono V56.out (by simp)
  have tq6 := hT5.mono V56.out (by simp)
  have tz6 : Tb (w6.alloc (.cells #[.int .u8 0, .bool false, .slice none 0 0, .string ⟨#[]⟩, .int .i64 0, .slice none 0 0, .slice none 0 0] 26)) w6.heap.size #[.int .u8 0, .bool false, .slice none 0 0, .string ⟨#[]⟩, .int .i64 0, .slice none 0 0, .slice none 0 0] := Tb.new _ _ _ rfl
  have hBl : ((B.length : Int) == 0) = false := by
    have h : B.length ≠ 0 := fun e => by
      have := HNB.out.norm.nil_iff.1 (List.eq_nil_of_length_eq_zero e)
      have := HY.out
      omega
    simp
    intro e
    exact h (by rw [e]; rfl)
  clear v6 hv kv tA5 tB5 hT5 U5
  go_wp2_with (first | (refine store_T _ rfl _ _ rfl _ #[.int .u8 1, .bool nr, .slice ar Lr.length cr, .string ⟨#[]⟩, .int .i64 0, .slice ir 0 cir, .slice tr 0 ctr] _ rfl rfl tz6 rfl rfl o6 ?_; intro w7 hT7 hU7; have V67 : Hid (Upd [] w6 w7) := ((Upd.refl [] w6).alloc _).then hU7 (by simp); have tA7 : Tb w7 w.heap.size #[.int .u8 1, .bool na, .slice a A.length ca, .string ⟨#[]⟩, .int .i64 0, .slice ai 0 ci, .slice at' 0 ct] := tA6.mono V67.out (by simp); have tB7 : Tb w7 (w.heap.size + 1) #[.int .u8 1, .bool nb, .slice b B.length cb, .string ⟨#[]⟩, .int .i64 0, .slice bi 0 cbi, .slice bt 0 cbt] := tB6.mono V67.out (by simp); have tq7 : Tb w7 w4.heap.size #[.int .u8 1, .bool nq, .slice aq Lq.length cq, .string ⟨#[]⟩, .int .i64 0, .slice iq 0 ciq, .slice tq 0 ctq] := tq6.mono V67.out (by simp); have x7 : w7.cell? ⟨w.heap.size + 1, 2, none⟩ = some (.slice b B.length cb) := tB7.cell 2; have U7 : Hid (Upd [] w w7) := U6.out.trans V67.out; clear hU7 tA6 tB6 tq6 tz6) | (refine load_G _ _ rfl _ _ rfl tq7 rfl rfl ?_) | (refine load_G _ _ rfl _ _ rfl tB7 rfl rfl ?_) | fail)
  have HQ7 : Hid (In w7 (d + 1) _ vq) := In.mono (V56.out.trans V67.out) _ _ _ HQ5.out
  have HR7 : Hid (In w7 (d + 1) _ vr) := In.mono V67.out _ _ _ HR.out.1
  refine Calls.mono (lc_mul (D := d) (some ⟨w7.heap.size, 0, none⟩) (w7.alloc (.cells #[.int .u8 1, .bool nq, .slice aq Lq.length cq, .string ⟨#[]⟩, .int .i64 0, .slice iq 0 ciq, .slice tq 0 ctq, .int .u8 1, .bool nb, .slice b B.length cb, .string ⟨#[]⟩, .int .i64 0, .slice bi 0 cbi, .slice bt 0 cbt] 26)) (HB.out.mono (U7.out.alloc _)) (row_two (Tb.new _ _ _ rfl) (In.mono ((Upd.refl [] w7).alloc _) _ _ _ HQ7.out) (In.mono (U7.out.alloc _) _ _ _ H1.out)) HQ.out.2 K.out.2 (fit_mul K.out.1.small)) ?_
  rintro e w8 ⟨cs, vp, _, rfl, hv, kv, v8⟩
  obtain ⟨np, ap, ip, tp, cp, cip, ctp, Lp, rfl, _⟩ := hv.plain.int' kv
  have o8 := hv.plain.one
  have V78 : Hid (Upd [] w7 w8) := Upd.trans ((Upd.refl [] w7).alloc _) v8
  have U8 : Hid (Upd [] w w8) := U7.out.trans V78.out
  have HP : Hid (In w8 (d + 1) _ vp ∧ IntT (x.tdiv y * y) vp) := ⟨hv.plain, kv⟩
  have tA8 := tA7.mono V78.out (by simp)
  have tr8 := hT7.mono V78.out (by simp)
  have tz8 : Tb (w8.alloc (.cells #[.int .u8 0, .bool false, .slice none 0 0, .string ⟨#[]⟩, .int .i64 0, .slice none 0 0, .slice none 0 0] 26)) w8.heap.size #[.int .u8 0, .bool false, .slice none 0 0, .string ⟨#[]⟩, .int .i64 0, .slice none 0 0, .slice none 0 0] := Tb.new _ _ _ rfl
  clear v8 hv kv tA7 tB7 tq7 hT7 U7 x7
  go_wp2_with (first | (refine store_T _ rfl _ _ rfl _ #[.int .u8 1, .bool np, .slice ap Lp.length cp, .string ⟨#[]⟩, .int .i64 0, .slice ip 0 cip, .slice tp 0 ctp] _ rfl rfl tz8 rfl rfl o8 ?_; intro w9 hT9 hU9; have V89 : Hid (Upd [] w8 w9) := ((Upd.refl [] w8).alloc _).then hU9 (by simp); have tA9 : Tb w9 w.heap.size #[.int .u8 1, .bool na, .slice a A.length ca, .string ⟨#[]⟩, .int .i64 0, .slice ai 0 ci, .slice at' 0 ct] := tA8.mono V89.out (by simp); have tr9 : Tb w9 w6.heap.size #[.int .u8 1, .bool nr, .slice ar Lr.length cr, .string ⟨#[]⟩, .int .i64 0, .slice ir 0 cir, .slice tr 0 ctr] := tr8.mono V89.out (by simp); have U9 : Hid (Upd [] w w9) := U8.out.trans V89.out; clear hU9 tA8 tr8 tz8) | (refine load_G _ _ rfl _ _ rfl hT9 rfl rfl ?_) | (refine load_G _ _ rfl _ _ rfl tr9 rfl rfl ?_) | fail)
  have HP9 : Hid (In w9 (d + 1) _ vp) := In.mono V89.out _ _ _ HP.out.1
  have HR9 : Hid (In w9 (d + 1) _ vr) := In.mono (V78.out.trans V89.out) _ _ _ HR7.out
  refine Calls.mono (lc_add (D := d) (some ⟨w9.heap.size, 0, none⟩) (w9.alloc (.cells #[.int .u8 1, .bool np, .slice ap Lp.length cp, .string ⟨#[]⟩, .int .i64 0, .slice ip 0 cip, .slice tp 0 ctp, .int .u8 1, .bool nr, .slice ar Lr.length cr, .string ⟨#[]⟩, .int .i64 0, .slice ir 0 cir, .slice tr 0 ctr] 26)) (HB.out.mono (U9.out.alloc _)) (row_two (Tb.new _ _ _ rfl) (In.mono ((Upd.refl [] w9).alloc _) _ _ _ HP9.out) (In.mono ((Upd.refl [] w9).alloc _) _ _ _ HR9.out)) HP.out.2 HR.out.2 (by rw [tdiv_tmod]; exact K.out.1.small)) ?_
  rintro e w10 ⟨cs, vs, _, rfl, hv, kv, v10⟩
  rw [tdiv_tmod] at kv
  obtain ⟨nv, av, iv, tv, cv, civ, ctv, Lv, rfl, _⟩ := hv.plain.int' kv
  have o10 := hv.plain.one
  have V910 : Hid (Upd [] w9 w10) := Upd.trans ((Upd.refl [] w9).alloc _) v10
  have U10 : Hid (Upd [] w w10) := U9.out.trans V910.out
  have e10 : vs = t := kv.uniq K.out.1
  have HS : Hid (In w10 (d + 1) _ vs) := hv.plain
  rw [e10] at HS
  have tA10 := tA9.mono V910.out (by simp)
  have tz10 : Tb (w10.alloc (.cells #[.int .u8 0, .bool false, .slice none 0 0, .string ⟨#[]⟩, .int .i64 0, .slice none 0 0, .slice none 0 0] 26)) w10.heap.size #[.int .u8 0, .bool false, .slice none 0 0, .string ⟨#[]⟩, .int .i64 0, .slice none 0 0, .slice none 0 0] := Tb.new _ _ _ rfl
  clear v10 hv kv tA9 tr9 hT9 U9 e10
  go_wp2_with (first | (refine store_T _ rfl _ _ rfl _ #[.int .u8 1, .bool nv, .slice av Lv.length cv, .string ⟨#[]⟩, .int .i64 0, .slice iv 0 civ, .slice tv 0 ctv] _ rfl rfl tz10 rfl rfl o10 ?_; intro w11 hT11 hU11; have V1011 : Hid (Upd [] w10 w11) := ((Upd.refl [] w10).alloc _).then hU11 (by simp); have tA11 : Tb w11 w.heap.size #[.int .u8 1, .bool na, .slice a A.length ca, .string ⟨#[]⟩, .int .i64 0, .slice ai 0 ci, .slice at' 0 ct] := tA10.mono V1011.out (by simp); have U11 : Hid (Upd [] w w11) := U10.out.trans V1011.out; clear hU11 tA10 tz10) | (refine load_G _ _ rfl _ _ rfl hT11 rfl rfl ?_) | (refine load_G _ _ rfl _ _ rfl tA11 rfl rfl ?_) | fail)
  have SM : Hid _ := TSame_in (d + 1) w11 _ _ t t (In.mono V1011.out _ _ _ HS.out) (In.mono U11.out _ _ _ H0.out) (okS_tsz K.out.1.ok) (okS_tsz K.out.1.ok)
  rw [same_self K.out.1.ok] at SM
  refine Calls.mono SM.out ?_
  rintro e w12 ⟨rfl, v12⟩
  have U12 : Hid (Upd [] w w12) := U11.out.trans v12
  clear v12 tA11 hT11
  go_wp2
  go_ret
  exact ⟨rfl, U12.out⟩

set_option maxHeartbeats 4000000 in
set_option maxRecDepth 100000 in
theorem Whole_no0 (w : World) (hB : Blt w) (k0 num0 k1 num1 : Int) (neg0 neg1 : Bool) (s0 s1 : ByteArray) (L0 L1 : List Nat) (I0 T0 I1 T1 : List Tm) (a0 ai0 at0 a1 ai1 at1 : Option Addr) (c0 ci0 ct0 c1 ci1 ct1 : Nat)
    (RA : Hid (∀ W, Upd [] w W → Calls Tryz.prog 11 #[.agg #[.int .u8 k0, .bool neg0, .slice a0 L0.length c0, .string s0, .int .i64 num0, .slice ai0 I0.length ci0, .slice at0 T0.length ct0]] W fun e w' => e = .returned (.bool false) ∧ Upd [] W w')) :
    Calls Tryz.prog 4 #[.agg #[.int .u8 k0, .bool neg0, .slice a0 L0.length c0, .string s0, .int .i64 num0, .slice ai0 I0.length ci0, .slice at0 T0.length ct0], .agg #[.int .u8 k1, .bool neg1, .slice a1 L1.length c1, .string s1, .int .i64 num1, .slice ai1 I1.length ci1, .slice at1 T1.length ct1]] w fun e w' => e = .returned (.bool true) ∧ Upd [] w w' := by
  have HB : Hid (Blt w) := hB
  have tA : Tb ((w.alloc (.cells #[.int .u8 k0, .bool neg0, .slice a0 L0.length c0, .string s0, .int .i64 num0, .slice ai0 I0.length ci0, .slice at0 T0.length ct0] 26)).alloc (.cells #[.int .u8 k1, .bool neg1, .slice a1 L1.length c1, .string s1, .int .i64 num1, .slice ai1 I1.length ci1, .slice at1 T1.length ct1] 26)) w.heap.size #[.int .u8 k0, .bool neg0, .slice a0 L0.length c0, .string s0, .int .i64 num0, .slice ai0 I0.length ci0, .slice at0 T0.length ct0] := (Tb.new _ _ _ rfl).old _
  have tB : Tb ((w.alloc (.cells #[.int .u8 k0, .bool neg0, .slice a0 L0.length c0, .string s0, .int .i64 num0, .slice ai0 I0.length ci0, .slice at0 T0.length ct0] 26)).alloc (.cells #[.int .u8 k1, .bool neg1, .slice a1 L1.length c1, .string s1, .int .i64 num1, .slice ai1 I1.length ci1, .slice at1 T1.length ct1] 26)) (w.heap.size + 1) #[.int .u8 k1, .bool neg1, .slice a1 L1.length c1, .string s1, .int .i64 num1, .slice ai1 I1.length ci1, .slice at1 T1.length ct1] := Tb.new _ _ _ (by simp)
  have HU0 : Hid (Upd [] w ((w.alloc (.cells #[.int .u8 k0, .bool neg0, .slice a0 L0.length c0, .string s0, .int .i64 num0, .slice ai0 I0.length ci0, .slice at0 T0.length ct0] 26)).alloc (.cells #[.int .u8 k1, .bool neg1, .slice a1 L1.length c1, .string s1, .int .i64 num1, .slice ai1 I1.length ci1, .slice at1 T1.length ct1] 26))) := ((Upd.refl [] w).alloc _).alloc _
  clear hB
  go_enter Tryz.func4, Tryz.ntmps4
  go_wp2_with fail
  refine Calls.mono (awake_any _ (HB.out.mono HU0.out)) ?_
  rintro e w1 ⟨rfl, v1⟩
  have U1 : Hid (Upd [] w w1) := HU0.out.trans v1
  have tA1 := tA.mono v1 (by simp)
  have tB1 := tB.mono v1 (by simp)
  clear v1 tA tB HU0
  go_wp2_with (first | (refine load_G _ _ rfl _ _ rfl tA1 rfl rfl ?_) | fail)
  refine Calls.mono (RA.out _ U1.out) ?_
  rintro e w2 ⟨rfl, v2⟩
  have U2 : Hid (Upd [] w w2) := U1.out.trans v2
  have tB2 := tB1.mono v2 (by simp)
  clear v2 tA1 tB1 U1 RA
  clear tB2
  go_wp2
  go_ret
  exact ⟨rfl, U2.out⟩

set_option maxHeartbeats 4000000 in
set_option maxRecDepth 100000 in
theorem Whole_no1 (w : World) (hB : Blt w) (k0 num0 k1 num1 : Int) (neg0 neg1 : Bool) (s0 s1 : ByteArray) (L0 L1 : List Nat) (I0 T0 I1 T1 : List Tm) (a0 ai0 at0 a1 ai1 at1 : Option Addr) (c0 ci0 ct0 c1 ci1 ct1 : Nat)
    (RA : Hid (∀ W, Upd [] w W → Calls Tryz.prog 11 #[.agg #[.int .u8 k0, .bool neg0, .slice a0 L0.length c0, .string s0, .int .i64 num0, .slice ai0 I0.length ci0, .slice at0 T0.length ct0]] W fun e w' => e = .returned (.bool true) ∧ Upd [] W w'))
    (RB : Hid (∀ W, Upd [] w W → Calls Tryz.prog 11 #[.agg #[.int .u8 k1, .bool neg1, .slice a1 L1.length c1, .string s1, .int .i64 num1, .slice ai1 I1.length ci1, .slice at1 T1.length ct1]] W fun e w' => e = .returned (.bool false) ∧ Upd [] W w')) :
    Calls Tryz.prog 4 #[.agg #[.int .u8 k0, .bool neg0, .slice a0 L0.length c0, .string s0, .int .i64 num0, .slice ai0 I0.length ci0, .slice at0 T0.length ct0], .agg #[.int .u8 k1, .bool neg1, .slice a1 L1.length c1, .string s1, .int .i64 num1, .slice ai1 I1.length ci1, .slice at1 T1.length ct1]] w fun e w' => e = .returned (.bool true) ∧ Upd [] w w' := by
  have HB : Hid (Blt w) := hB
  have tA : Tb ((w.alloc (.cells #[.int .u8 k0, .bool neg0, .slice a0 L0.length c0, .string s0, .int .i64 num0, .slice ai0 I0.length ci0, .slice at0 T0.length ct0] 26)).alloc (.cells #[.int .u8 k1, .bool neg1, .slice a1 L1.length c1, .string s1, .int .i64 num1, .slice ai1 I1.length ci1, .slice at1 T1.length ct1] 26)) w.heap.size #[.int .u8 k0, .bool neg0, .slice a0 L0.length c0, .string s0, .int .i64 num0, .slice ai0 I0.length ci0, .slice at0 T0.length ct0] := (Tb.new _ _ _ rfl).old _
  have tB : Tb ((w.alloc (.cells #[.int .u8 k0, .bool neg0, .slice a0 L0.length c0, .string s0, .int .i64 num0, .slice ai0 I0.length ci0, .slice at0 T0.length ct0] 26)).alloc (.cells #[.int .u8 k1, .bool neg1, .slice a1 L1.length c1, .string s1, .int .i64 num1, .slice ai1 I1.length ci1, .slice at1 T1.length ct1] 26)) (w.heap.size + 1) #[.int .u8 k1, .bool neg1, .slice a1 L1.length c1, .string s1, .int .i64 num1, .slice ai1 I1.length ci1, .slice at1 T1.length ct1] := Tb.new _ _ _ (by simp)
  have HU0 : Hid (Upd [] w ((w.alloc (.cells #[.int .u8 k0, .bool neg0, .slice a0 L0.length c0, .string s0, .int .i64 num0, .slice ai0 I0.length ci0, .slice at0 T0.length ct0] 26)).alloc (.cells #[.int .u8 k1, .bool neg1, .slice a1 L1.length c1, .string s1, .int .i64 num1, .slice ai1 I1.length ci1, .slice at1 T1.length ct1] 26))) := ((Upd.refl [] w).alloc _).alloc _
  clear hB
  go_enter Tryz.func4, Tryz.ntmps4
  go_wp2_with fail
  refine Calls.mono (awake_any _ (HB.out.mono HU0.out)) ?_
  rintro e w1 ⟨rfl, v1⟩
  have U1 : Hid (Upd [] w w1) := HU0.out.trans v1
  have tA1 := tA.mono v1 (by simp)
  have tB1 := tB.mono v1 (by simp)
  clear v1 tA tB HU0
  go_wp2_with (first | (refine load_G _ _ rfl _ _ rfl tA1 rfl rfl ?_) | fail)
  refine Calls.mono (RA.out _ U1.out) ?_
  rintro e w2 ⟨rfl, v2⟩
  have U2 : Hid (Upd [] w w2) := U1.out.trans v2
  have tB2 := tB1.mono v2 (by simp)
  clear v2 tA1 tB1 U1 RA
  go_wp2_with (first | (refine load_G _ _ rfl _ _ rfl tB2 rfl rfl ?_) | fail)
  refine Calls.mono (RB.out _ U2.out) ?_
  rintro e w3 ⟨rfl, v3⟩
  have U3 : Hid (Upd [] w w3) := U2.out.trans v3
  clear v3 tB2 U2 RB
  go_wp2
  go_ret
  exact ⟨rfl, U3.out⟩

theorem okT_int {w : World} {k num : Int} {neg : Bool} {a : Option Addr} {L : List Nat} {s : ByteArray} {I T : List Tm} (h : okT k neg L s num I.length T.length = true) (hd : Dig L) (hm : At w a L) : ∃ z, IntT z (.mk k num neg L s I T) := by
  obtain ⟨rfl, rfl, rfl, h1, h2, h3⟩ := okT_elim (w := w) (a := a) h hd hm
  obtain rfl := List.eq_nil_of_length_eq_zero h1
  obtain rfl := List.eq_nil_of_length_eq_zero h2
  refine ⟨_, L, ?_, h3.norm, h3.len⟩
  rw [← h3.sgn]

/-- BifWhole, of whatever two terms. -/
theorem Whole_core (w : World) (hB : Blt w) (d : Nat) (cs0 cs1 : List Value) (t0 t1 : Tm) (h0 : In w (d + 1) cs0 t0) (h1 : In w (d + 1) cs1 t1) (z0 : tsz t0 ≤ 1353245080330) (z1 : tsz t1 ≤ 1353245080330) :
    Calls Tryz.prog 4 #[.agg cs0.toArray, .agg cs1.toArray] w fun e w' => e = .returned (.bool true) ∧ Upd [] w w' := by
  obtain ⟨k0, num0, neg0, L0, s0, I0, T0⟩ := t0
  obtain ⟨k1, num1, neg1, L1, s1, I1, T1⟩ := t1
  have h0' := h0
  have h1' := h1
  obtain ⟨a0, ai0, at0, c0, ci0, ct0, rfl, hA0, hD0, _, _⟩ := h0
  obtain ⟨a1, ai1, at1, c1, ci1, ct1, rfl, hA1, hD1, _, _⟩ := h1
  simp only [tsz] at z0 z1
  have i0 := tszs_len I0
  have j0 := tszs_len T0
  have i1 := tszs_len I1
  have j1 := tszs_len T1
  obtain ⟨o0, e0⟩ : ∃ o, okT k0 neg0 L0 s0 num0 I0.length T0.length = o := ⟨_, rfl⟩
  obtain ⟨o1, e1⟩ : ∃ o, okT k1 neg1 L1 s1 num1 I1.length T1.length = o := ⟨_, rfl⟩
  have RA : Hid (∀ W, Upd [] w W → Calls Tryz.prog 11 #[.agg #[.int .u8 k0, .bool neg0, .slice a0 L0.length c0, .string s0, .int .i64 num0, .slice ai0 I0.length ci0, .slice at0 T0.length ct0]] W fun e w' => e = .returned (.bool o0) ∧ Upd [] W w') := fun W hu => Right_upd k0 num0 neg0 L0 s0 a0 ai0 at0 c0 _ ci0 _ ct0 W o0 (by omega) (hA0.mono hu) (by omega) (by omega) e0
  have RB : Hid (∀ W, Upd [] w W → Calls Tryz.prog 11 #[.agg #[.int .u8 k1, .bool neg1, .slice a1 L1.length c1, .string s1, .int .i64 num1, .slice ai1 I1.length ci1, .slice at1 T1.length ct1]] W fun e w' => e = .returned (.bool o1) ∧ Upd [] W w') := fun W hu => Right_upd k1 num1 neg1 L1 s1 a1 ai1 at1 c1 _ ci1 _ ct1 W o1 (by omega) (hA1.mono hu) (by omega) (by omega) e1
  cases o0 with
  | false => exact Whole_no0 w hB _ _ _ _ _ _ _ _ _ _ _ _ _ _ _ _ _ _ _ _ _ _ _ _ _ _ RA
  | true =>
    cases o1 with
    | false => exact Whole_no1 w hB _ _ _ _ _ _ _ _ _ _ _ _ _ _ _ _ _ _ _ _ _ _ _ _ _ _ RA RB
    | true =>
      obtain ⟨x, kx⟩ := okT_int e0 hD0 hA0
      obtain ⟨y, ky⟩ := okT_int e1 hD1 hA1
      by_cases hy : y = 0
      · subst hy
        exact Whole_zero w d _ _ _ _ x hB h0' h1' kx ky
      · exact Whole_div w d _ _ _ _ x y hB h0' h1' kx ky hy

end Go.Proofs.YtnpocmhaoaigfaaGreatDoor
