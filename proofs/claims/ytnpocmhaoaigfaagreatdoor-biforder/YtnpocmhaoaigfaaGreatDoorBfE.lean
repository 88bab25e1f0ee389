/- reckoned of package bif: sums, products, quotients and rests of right integers. -/
import Derived.Test.YtnpocmhaoaigfaaGreatDoorJAK
import Derived.Test.YtnpocmhaoaigfaaGreatDoorJAL
namespace Go.Proofs.YtnpocmhaoaigfaaGreatDoor
open Go.RowKit

theorem In.int' {w : World} {d : Nat} {cs : List Value} {t : Tm} {z : Int} (h : In w d cs t) (k : IntT z t) : ∃ (neg : Bool) (a ai at' : Option Addr) (c ci ct : Nat) (L : List Nat), cs = [.int .u8 1, .bool neg, .slice a L.length c, .string ⟨#[]⟩, .int .i64 0, .slice ai 0 ci, .slice at' 0 ct] ∧ TI w neg a L z := by
  obtain ⟨a, ai, at', c, ci, ct, L, e, h⟩ := h.int k
  exact ⟨_, a, ai, at', c, ci, ct, L, e, h⟩
theorem IntT.kd {z : Int} {t : Tm} (h : IntT z t) : t.kd = 1 := by obtain ⟨L, rfl, _⟩ := h; rfl

set_option maxHeartbeats 2000000 in
set_option maxRecDepth 100000 in
theorem reck_add {d D : Nat} {t u : Tm} {x y : Int} (s : ByteArray) (cs0 cs1 : List Value) (w : World) (h0 : In w d cs0 t) (k0 : IntT x t) (h1 : In w d cs1 u) (k1 : IntT y u) (hfit : (x + y).natAbs < 4294967296 ^ 32) (e1 : (s.toList == [43]) = true) :
    Calls Tryz.prog 67 #[.string s, .agg cs0.toArray, .agg cs1.toArray] w (MadeQ 0 (D + 1) (IntT (x + y)) ⟨#[]⟩ w) := by
  have HFIT : Hid ((x + y).natAbs < 4294967296 ^ 32) := hfit
  clear hfit
  obtain ⟨na, a, ai, at', ca, ci, ct, A, rfl, HA⟩ := h0.int' k0
  obtain ⟨nb, b, bi, bt, cb, cbi, cbt, B, rfl, HB⟩ := h1.int' k1
  have HTA : Hid (TI w na a A x) := HA
  have HTB : Hid (TI w nb b B y) := HB
  have AR : Hid (∀ W g, Upd [] w W → Tb W g #[.int .u8 1, .bool na, .slice a A.length ca, .string ⟨#[]⟩, .int .i64 0, .slice ai 0 ci, .slice at' 0 ct, .int .u8 1, .bool nb, .slice b B.length cb, .string ⟨#[]⟩, .int .i64 0, .slice bi 0 cbi, .slice bt 0 cbt] → Calls Tryz.prog 100 #[.int .u8 1, .slice (some ⟨g, 0, none⟩) 2 2] W fun e w' => e = .returned (.bool true) ∧ Upd [] W w') := fun W g hu hT => by
    have h := are_in 1 (some ⟨g, 0, none⟩) 2 d [t, u] W (by simp) (row_two hT (In.mono hu _ _ _ h0) (In.mono hu _ _ _ h1))
    have e : ([t, u].all fun t => t.kd == 1) = true := by simp [k0.kd, k1.kd]
    rw [e] at h
    exact h
  have tA : Tb (((w.alloc (.cells #[.int .u8 1, .bool na, .slice a A.length ca, .string ⟨#[]⟩, .int .i64 0, .slice ai 0 ci, .slice at' 0 ct] 26)).alloc (.cells #[.int .u8 1, .bool nb, .slice b B.length cb, .string ⟨#[]⟩, .int .i64 0, .slice bi 0 cbi, .slice bt 0 cbt] 26)).alloc (.cells #[.int .u8 0, .bool false, .slice none 0 0, .string ⟨#[]⟩, .int .i64 0, .slice none 0 0, .slice none 0 0] 26)) w.heap.size #[.int .u8 1, .bool na, .slice a A.length ca, .string ⟨#[]⟩, .int .i64 0, .slice ai 0 ci, .slice at' 0 ct] := ((Tb.new _ _ _ rfl).old _).old _
  have tB : Tb (((w.alloc (.cells #[.int .u8 1, .bool na, .slice a A.length ca, .string ⟨#[]⟩, .int .i64 0, .slice ai 0 ci, .slice at' 0 ct] 26)).alloc (.cells #[.int .u8 1, .bool nb, .slice b B.length cb, .string ⟨#[]⟩, .int .i64 0, .slice bi 0 cbi, .slice bt 0 cbt] 26)).alloc (.cells #[.int .u8 0, .bool false, .slice none 0 0, .string ⟨#[]⟩, .int .i64 0, .slice none 0 0, .slice none 0 0] 26)) (w.heap.size + 1) #[.int .u8 1, .bool nb, .slice b B.length cb, .string ⟨#[]⟩, .int .i64 0, .slice bi 0 cbi, .slice bt 0 cbt] := (Tb.new _ _ _ (by simp)).old _
  have tZ : Tb (((w.alloc (.cells #[.int .u8 1, .bool na, .slice a A.length ca, .string ⟨#[]⟩, .int .i64 0, .slice ai 0 ci, .slice at' 0 ct] 26)).alloc (.cells #[.int .u8 1, .bool nb, .slice b B.length cb, .string ⟨#[]⟩, .int .i64 0, .slice bi 0 cbi, .slice bt 0 cbt] 26)).alloc (.cells #[.int .u8 0, .bool false, .slice none 0 0, .string ⟨#[]⟩, .int .i64 0, .slice none 0 0, .slice none 0 0] 26)) (w.heap.size + 1 + 1) #[.int .u8 0, .bool false, .slice none 0 0, .string ⟨#[]⟩, .int .i64 0, .slice none 0 0, .slice none 0 0] := Tb.new _ _ _ (by simp)
  have HU0 : Hid (Upd [] w (((w.alloc (.cells #[.int .u8 1, .bool na, .slice a A.length ca, .string ⟨#[]⟩, .int .i64 0, .slice ai 0 ci, .slice at' 0 ct] 26)).alloc (.cells #[.int .u8 1, .bool nb, .slice b B.length cb, .string ⟨#[]⟩, .int .i64 0, .slice bi 0 cbi, .slice bt 0 cbt] 26)).alloc (.cells #[.int .u8 0, .bool false, .slice none 0 0, .string ⟨#[]⟩, .int .i64 0, .slice none 0 0, .slice none 0 0] 26))) := (((Upd.refl [] w).alloc _).alloc _).alloc _
  clear h0 h1 k0 k1 HA HB
  go_enter Tryz.func67, Tryz.ntmps67
  go_wp2_with (first | (refine load_T _ rfl _ rfl _ _ rfl tA rfl ?_) | (refine load_T _ rfl _ rfl _ _ rfl tB rfl ?_) | fail)
  refine Calls.mono (AR.out _ _ (HU0.out.alloc _) (Tb.new _ _ _ (by simp))) ?_
  rintro e w1 ⟨rfl, h1⟩
  have hv := Upd.trans (HU0.out.alloc _) h1
  have U1 : Hid (Upd [] w w1) := hv
  have tA1 := (tA.old _).mono h1 (by simp)
  have tB1 := (tB.old _).mono h1 (by simp)
  have tZ1 := (tZ.old _).mono h1 (by simp)
  clear h1 hv tA tB tZ HU0 AR
  go_wp2_with (first | (refine load_T _ rfl _ rfl _ _ rfl tA1 rfl ?_) | (refine load_T _ rfl _ rfl _ _ rfl tB1 rfl ?_) | fail)
  refine Calls.mono (Add_any a ai at' b bi bt ca ci ct cb cbi cbt na nb A B x y w1 (HTA.out.mono U1.out) (HTB.out.mono U1.out)) ?_
  rintro e w2 ⟨hres, h2⟩
  rcases hres with ⟨_, neg, am, cm, M, rfl, hM⟩ | ⟨hno, _⟩
  · obtain ⟨v, hv, kv⟩ := hM.tm cm D
    have U2 : Hid (Upd [] w w2) := U1.out.trans h2
    have tZ2 := tZ1.mono h2 (by simp)
    have FT : Hid _ := bfit_in (B := 0) (P := IntT (x + y)) _ true w2 (InU.int 0 w2.heap.size hv kv) kv rfl
    clear h2 tA1 tB1 tZ1 hM hv kv U1
    go_wp2_with fail
    refine Calls.mono FT.out ?_
    rintro e w3 ⟨cs, q, h7, rfl, hin, hP, h3⟩
    have hone := hin.plain.one
    obtain ⟨p0, p1, p2, p3, p4, p5, p6, rfl⟩ := list7 h7
    have tZ3 := tZ2.mono h3 (by simp)
    have HTZ : Hid (Tb w3 (w.heap.size + 1 + 1) #[.int .u8 0, .bool false, .slice none 0 0, .string ⟨#[]⟩, .int .i64 0, .slice none 0 0, .slice none 0 0]) := tZ3
    have HLT : Hid (w.heap.size + 1 + 1 < w2.heap.size ∧ w2.heap.size ≤ w3.heap.size) := ⟨Tb.lt tZ2, h3.size⟩
    have HIN : Hid (InU 0 w2.heap.size w3 (D + 1) [p0, p1, p2, p3, p4, p5, p6] q) := hin
    have HP : Hid (IntT (x + y) q) := hP
    have U3 : Hid (Upd [] w w3) := U2.out.trans h3
    clear h3 hin hP tZ2 U2 FT
    go_wp2_with (refine store_T _ rfl _ _ rfl _ #[p0, p1, p2, p3, p4, p5, p6] _ rfl rfl tZ3 rfl rfl hone ?_; intro w4 hT4 hU4)
    exact ret_Tb Tryz.results67 rfl _ _ _ rfl hT4 rfl rfl ⟨_, q, rfl, rfl, HIN.out.step hU4 (bx_zero (Nat.zero_le _) HLT.out.1 HTZ.out) (by omega) HLT.out.2, HP.out, U3.out.then hU4 (by simp; omega)⟩
  · exact absurd HFIT.out hno

set_option maxHeartbeats 2000000 in
set_option maxRecDepth 100000 in
theorem reck_mul {d D : Nat} {t u : Tm} {x y : Int} (s : ByteArray) (cs0 cs1 : List Value) (w : World) (h0 : In w d cs0 t) (k0 : IntT x t) (h1 : In w d cs1 u) (k1 : IntT y u) (hfit : (x * y).natAbs < 4294967296 ^ 32) (e1 : (s.toList == [43]) = false) (e2 : (s.toList == [45]) = false) (e3 : (s.toList == [42]) = true) :
    Calls Tryz.prog 67 #[.string s, .agg cs0.toArray, .agg cs1.toArray] w (MadeQ 0 (D + 1) (IntT (x * y)) ⟨#[]⟩ w) := by
  have HFIT : Hid ((x * y).natAbs < 4294967296 ^ 32) := hfit
  clear hfit
  obtain ⟨na, a, ai, at', ca, ci, ct, A, rfl, HA⟩ := h0.int' k0
  obtain ⟨nb, b, bi, bt, cb, cbi, cbt, B, rfl, HB⟩ := h1.int' k1
  have HTA : Hid (TI w na a A x) := HA
  have HTB : Hid (TI w nb b B y) := HB
  have AR : Hid (∀ W g, Upd [] w W → Tb W g #[.int .u8 1, .bool na, .slice a A.length ca, .string ⟨#[]⟩, .int .i64 0, .slice ai 0 ci, .slice at' 0 ct, .int .u8 1, .bool nb, .slice b B.length cb, .string ⟨#[]⟩, .int .i64 0, .slice bi 0 cbi, .slice bt 0 cbt] → Calls Tryz.prog 100 #[.int .u8 1, .slice (some ⟨g, 0, none⟩) 2 2] W fun e w' => e = .returned (.bool true) ∧ Upd [] W w') := fun W g hu hT => by
    have h := are_in 1 (some ⟨g, 0, none⟩) 2 d [t, u] W (by simp) (row_two hT (In.mono hu _ _ _ h0) (In.mono hu _ _ _ h1))
    have e : ([t, u].all fun t => t.kd == 1) = true := by simp [k0.kd, k1.kd]
    rw [e] at h
    exact h
  have tA : Tb (((w.alloc (.cells #[.int .u8 1, .bool na, .slice a A.length ca, .string ⟨#[]⟩, .int .i64 0, .slice ai 0 ci, .slice at' 0 ct] 26)).alloc (.cells #[.int .u8 1, .bool nb, .slice b B.length cb, .string ⟨#[]⟩, .int .i64 0, .slice bi 0 cbi, .slice bt 0 cbt] 26)).alloc (.cells #[.int .u8 0, .bool false, .slice none 0 0, .string ⟨#[]⟩, .int .i64 0, .slice none 0 0, .slice none 0 0] 26)) w.heap.size #[.int .u8 1, .bool na, .slice a A.length ca, .string ⟨#[]⟩, .int .i64 0, .slice ai 0 ci, .slice at' 0 ct] := ((Tb.new _ _ _ rfl).old _).old _
  have tB : Tb (((w.alloc (.cells #[.int .u8 1, .bool na, .slice a A.length ca, .string ⟨#[]⟩, .int .i64 0, .slice ai 0 ci, .slice at' 0 ct] 26)).alloc (.cells #[.int .u8 1, .bool nb, .slice b B.length cb, .string ⟨#[]⟩, .int .i64 0, .slice bi 0 cbi, .slice bt 0 cbt] 26)).alloc (.cells #[.int .u8 0, .bool false, .slice none 0 0, .string ⟨#[]⟩, .int .i64 0, .slice none 0 0, .slice none 0 0] 26)) (w.heap.size + 1) #[.int .u8 1, .bool nb, .slice b B.length cb, .string ⟨#[]⟩, .int .i64 0, .slice bi 0 cbi, .slice bt 0 cbt] := (Tb.new _ _ _ (by simp)).old _
  have tZ : Tb (((w.alloc (.cells #[.int .u8 1, .bool na, .slice a A.length ca, .string ⟨#[]⟩, .int .i64 0, .slice ai 0 ci, .slice at' 0 ct] 26)).alloc (.cells #[.int .u8 1, .bool nb, .slice b B.length cb, .string ⟨#[]⟩, .int .i64 0, .slice bi 0 cbi, .slice bt 0 cbt] 26)).alloc (.cells #[.int .u8 0, .bool false, .slice none 0 0, .string ⟨#[]⟩, .int .i64 0, .slice none 0 0, .slice none 0 0] 26)) (w.heap.size + 1 + 1) #[.int .u8 0, .bool false, .slice none 0 0, .string ⟨#[]⟩, .int .i64 0, .slice none 0 0, .slice none 0 0] := Tb.new _ _ _ (by simp)
  have HU0 : Hid (Upd [] w (((w.alloc (.cells #[.int .u8 1, .bool na, .slice a A.length ca, .string ⟨#[]⟩, .int .i64 0, .slice ai 0 ci, .slice at' 0 ct] 26)).alloc (.cells #[.int .u8 1, .bool nb, .slice b B.length cb, .string ⟨#[]⟩, .int .i64 0, .slice bi 0 cbi, .slice bt 0 cbt] 26)).alloc (.cells #[.int .u8 0, .bool false, .slice none 0 0, .string ⟨#[]⟩, .int .i64 0, .slice none 0 0, .slice none 0 0] 26))) := (((Upd.refl [] w).alloc _).alloc _).alloc _
  clear h0 h1 k0 k1 HA HB
  go_enter Tryz.func67, Tryz.ntmps67
  go_wp2_with (first | (refine load_T _ rfl _ rfl _ _ rfl tA rfl ?_) | (refine load_T _ rfl _ rfl _ _ rfl tB rfl ?_) | fail)
  refine Calls.mono (AR.out _ _ (HU0.out.alloc _) (Tb.new _ _ _ (by simp))) ?_
  rintro e w1 ⟨rfl, h1⟩
  have hv := Upd.trans (HU0.out.alloc _) h1
  have U1 : Hid (Upd [] w w1) := hv
  have tA1 := (tA.old _).mono h1 (by simp)
  have tB1 := (tB.old _).mono h1 (by simp)
  have tZ1 := (tZ.old _).mono h1 (by simp)
  clear h1 hv tA tB tZ HU0 AR
  go_wp2_with (first | (refine load_T _ rfl _ rfl _ _ rfl tA1 rfl ?_) | (refine load_T _ rfl _ rfl _ _ rfl tB1 rfl ?_) | fail)
  refine Calls.mono (Times_any a ai at' b bi bt ca ci ct cb cbi cbt na nb A B x y w1 (HTA.out.mono U1.out) (HTB.out.mono U1.out)) ?_
  rintro e w2 ⟨hres, h2⟩
  rcases hres with ⟨_, neg, am, cm, M, rfl, hM⟩ | ⟨hno, _⟩
  · obtain ⟨v, hv, kv⟩ := hM.tm cm D
    have U2 : Hid (Upd [] w w2) := U1.out.trans h2
    have tZ2 := tZ1.mono h2 (by simp)
    have FT : Hid _ := bfit_in (B := 0) (P := IntT (x * y)) _ true w2 (InU.int 0 w2.heap.size hv kv) kv rfl
    clear h2 tA1 tB1 tZ1 hM hv kv U1
    go_wp2_with fail
    refine Calls.mono FT.out ?_
    rintro e w3 ⟨cs, q, h7, rfl, hin, hP, h3⟩
    have hone := hin.plain.one
    obtain ⟨p0, p1, p2, p3, p4, p5, p6, rfl⟩ := list7 h7
    have tZ3 := tZ2.mono h3 (by simp)
    have HTZ : Hid (Tb w3 (w.heap.size + 1 + 1) #[.int .u8 0, .bool false, .slice none 0 0, .string ⟨#[]⟩, .int .i64 0, .slice none 0 0, .slice none 0 0]) := tZ3
    have HLT : Hid (w.heap.size + 1 + 1 < w2.heap.size ∧ w2.heap.size ≤ w3.heap.size) := ⟨Tb.lt tZ2, h3.size⟩
    have HIN : Hid (InU 0 w2.heap.size w3 (D + 1) [p0, p1, p2, p3, p4, p5, p6] q) := hin
    have HP : Hid (IntT (x * y) q) := hP
    have U3 : Hid (Upd [] w w3) := U2.out.trans h3
    clear h3 hin hP tZ2 U2 FT
    go_wp2_with (refine store_T _ rfl _ _ rfl _ #[p0, p1, p2, p3, p4, p5, p6] _ rfl rfl tZ3 rfl rfl hone ?_; intro w4 hT4 hU4)
    exact ret_Tb Tryz.results67 rfl _ _ _ rfl hT4 rfl rfl ⟨_, q, rfl, rfl, HIN.out.step hU4 (bx_zero (Nat.zero_le _) HLT.out.1 HTZ.out) (by omega) HLT.out.2, HP.out, U3.out.then hU4 (by simp; omega)⟩
  · exact absurd HFIT.out hno

set_option maxHeartbeats 2000000 in
set_option maxRecDepth 100000 in
theorem reck_div {d D : Nat} {t u : Tm} {x y : Int} (s : ByteArray) (cs0 cs1 : List Value) (w : World) (h0 : In w d cs0 t) (k0 : IntT x t) (h1 : In w d cs1 u) (k1 : IntT y u) (hy : y ≠ 0) (e1 : (s.toList == [43]) = false) (e2 : (s.toList == [45]) = false) (e3 : (s.toList == [42]) = false) (e4 : (s.toList == [100, 105, 118]) = true) :
    Calls Tryz.prog 67 #[.string s, .agg cs0.toArray, .agg cs1.toArray] w (MadeQ 0 (D + 1) (IntT (x.tdiv y)) ⟨#[]⟩ w) := by
  have HY : Hid (y ≠ 0) := hy
  clear hy
  obtain ⟨na, a, ai, at', ca, ci, ct, A, rfl, HA⟩ := h0.int' k0
  obtain ⟨nb, b, bi, bt, cb, cbi, cbt, B, rfl, HB⟩ := h1.int' k1
  have HTA : Hid (TI w na a A x) := HA
  have HTB : Hid (TI w nb b B y) := HB
  have AR : Hid (∀ W g, Upd [] w W → Tb W g #[.int .u8 1, .bool na, .slice a A.length ca, .string ⟨#[]⟩, .int .i64 0, .slice ai 0 ci, .slice at' 0 ct, .int .u8 1, .bool nb, .slice b B.length cb, .string ⟨#[]⟩, .int .i64 0, .slice bi 0 cbi, .slice bt 0 cbt] → Calls Tryz.prog 100 #[.int .u8 1, .slice (some ⟨g, 0, none⟩) 2 2] W fun e w' => e = .returned (.bool true) ∧ Upd [] W w') := fun W g hu hT => by
    have h := are_in 1 (some ⟨g, 0, none⟩) 2 d [t, u] W (by simp) (row_two hT (In.mono hu _ _ _ h0) (In.mono hu _ _ _ h1))
    have e : ([t, u].all fun t => t.kd == 1) = true := by simp [k0.kd, k1.kd]
    rw [e] at h
    exact h
  have tA : Tb (((w.alloc (.cells #[.int .u8 1, .bool na, .slice a A.length ca, .string ⟨#[]⟩, .int .i64 0, .slice ai 0 ci, .slice at' 0 ct] 26)).alloc (.cells #[.int .u8 1, .bool nb, .slice b B.length cb, .string ⟨#[]⟩, .int .i64 0, .slice bi 0 cbi, .slice bt 0 cbt] 26)).alloc (.cells #[.int .u8 0, .bool false, .slice none 0 0, .string ⟨#[]⟩, .int .i64 0, .slice none 0 0, .slice none 0 0] 26)) w.heap.size #[.int .u8 1, .bool na, .slice a A.length ca, .string ⟨#[]⟩, .int .i64 0, .slice ai 0 ci, .slice at' 0 ct] := ((Tb.new _ _ _ rfl).old _).old _
  have tB : Tb (((w.alloc (.cells #[.int .u8 1, .bool na, .slice a A.length ca, .string ⟨#[]⟩, .int .i64 0, .slice ai 0 ci, .slice at' 0 ct] 26)).alloc (.cells #[.int .u8 1, .bool nb, .slice b B.length cb, .string ⟨#[]⟩, .int .i64 0, .slice bi 0 cbi, .slice bt 0 cbt] 26)).alloc (.cells #[.int .u8 0, .bool false, .slice none 0 0, .string ⟨#[]⟩, .int .i64 0, .slice none 0 0, .slice none 0 0] 26)) (w.heap.size + 1) #[.int .u8 1, .bool nb, .slice b B.length cb, .string ⟨#[]⟩, .int .i64 0, .slice bi 0 cbi, .slice bt 0 cbt] := (Tb.new _ _ _ (by simp)).old _
  have tZ : Tb (((w.alloc (.cells #[.int .u8 1, .bool na, .slice a A.length ca, .string ⟨#[]⟩, .int .i64 0, .slice ai 0 ci, .slice at' 0 ct] 26)).alloc (.cells #[.int .u8 1, .bool nb, .slice b B.length cb, .string ⟨#[]⟩, .int .i64 0, .slice bi 0 cbi, .slice bt 0 cbt] 26)).alloc (.cells #[.int .u8 0, .bool false, .slice none 0 0, .string ⟨#[]⟩, .int .i64 0, .slice none 0 0, .slice none 0 0] 26)) (w.heap.size + 1 + 1) #[.int .u8 0, .bool false, .slice none 0 0, .string ⟨#[]⟩, .int .i64 0, .slice none 0 0, .slice none 0 0] := Tb.new _ _ _ (by simp)
  have HU0 : Hid (Upd [] w (((w.alloc (.cells #[.int .u8 1, .bool na, .slice a A.length ca, .string ⟨#[]⟩, .int .i64 0, .slice ai 0 ci, .slice at' 0 ct] 26)).alloc (.cells #[.int .u8 1, .bool nb, .slice b B.length cb, .string ⟨#[]⟩, .int .i64 0, .slice bi 0 cbi, .slice bt 0 cbt] 26)).alloc (.cells #[.int .u8 0, .bool false, .slice none 0 0, .string ⟨#[]⟩, .int .i64 0, .slice none 0 0, .slice none 0 0] 26))) := (((Upd.refl [] w).alloc _).alloc _).alloc _
  clear h0 h1 k0 k1 HA HB
  go_enter Tryz.func67, Tryz.ntmps67
  go_wp2_with (first | (refine load_T _ rfl _ rfl _ _ rfl tA rfl ?_) | (refine load_T _ rfl _ rfl _ _ rfl tB rfl ?_) | fail)
  refine Calls.mono (AR.out _ _ (HU0.out.alloc _) (Tb.new _ _ _ (by simp))) ?_
  rintro e w1 ⟨rfl, h1⟩
  have hv := Upd.trans (HU0.out.alloc _) h1
  have U1 : Hid (Upd [] w w1) := hv
  have tA1 := (tA.old _).mono h1 (by simp)
  have tB1 := (tB.old _).mono h1 (by simp)
  have tZ1 := (tZ.old _).mono h1 (by simp)
  clear h1 hv tA tB tZ HU0 AR
  go_wp2_with (first | (refine load_T _ rfl _ rfl _ _ rfl tA1 rfl ?_) | (refine load_T _ rfl _ rfl _ _ rfl tB1 rfl ?_) | fail)
  refine Calls.mono (Div_any a ai at' b bi bt ca ci ct cb cbi cbt na nb A B x y w1 (HTA.out.mono U1.out) (HTB.out.mono U1.out) HY.out) ?_
  rintro e w2 ⟨h2, nq, nr, a1, a2, c1, c2, Q, R, rfl, hQ, hR⟩
  obtain ⟨v, hv, kv⟩ := hQ.tm c1 D
  have U2 : Hid (Upd [] w w2) := U1.out.trans h2
  have tZ2 := tZ1.mono h2 (by simp)
  have HV : Hid (InU 0 w2.heap.size w2 (D + 1) _ v) := InU.int 0 w2.heap.size hv kv
  have HK : Hid (IntT (x.tdiv y) v) := kv
  have tq : Tb ((w2.alloc (.cells #[.int .u8 0, .bool false, .slice none 0 0, .string ⟨#[]⟩, .int .i64 0, .slice none 0 0, .slice none 0 0] 26)).alloc (.cells #[.int .u8 0, .bool false, .slice none 0 0, .string ⟨#[]⟩, .int .i64 0, .slice none 0 0, .slice none 0 0] 26)) w2.heap.size #[.int .u8 0, .bool false, .slice none 0 0, .string ⟨#[]⟩, .int .i64 0, .slice none 0 0, .slice none 0 0] := (Tb.new _ _ _ rfl).old _
  have tr : Tb ((w2.alloc (.cells #[.int .u8 0, .bool false, .slice none 0 0, .string ⟨#[]⟩, .int .i64 0, .slice none 0 0, .slice none 0 0] 26)).alloc (.cells #[.int .u8 0, .bool false, .slice none 0 0, .string ⟨#[]⟩, .int .i64 0, .slice none 0 0, .slice none 0 0] 26)) (w2.heap.size + 1) #[.int .u8 0, .bool false, .slice none 0 0, .string ⟨#[]⟩, .int .i64 0, .slice none 0 0, .slice none 0 0] := Tb.new _ _ _ (by simp)
  have tz : Tb ((w2.alloc (.cells #[.int .u8 0, .bool false, .slice none 0 0, .string ⟨#[]⟩, .int .i64 0, .slice none 0 0, .slice none 0 0] 26)).alloc (.cells #[.int .u8 0, .bool false, .slice none 0 0, .string ⟨#[]⟩, .int .i64 0, .slice none 0 0, .slice none 0 0] 26)) (w.heap.size + 1 + 1) #[.int .u8 0, .bool false, .slice none 0 0, .string ⟨#[]⟩, .int .i64 0, .slice none 0 0, .slice none 0 0] := (tZ2.old _).old _
  have HL2 : Hid (w.heap.size + 1 + 1 < w2.heap.size) := Tb.lt tZ2
  have HUa : Hid (Upd [] w2 ((w2.alloc (.cells #[.int .u8 0, .bool false, .slice none 0 0, .string ⟨#[]⟩, .int .i64 0, .slice none 0 0, .slice none 0 0] 26)).alloc (.cells #[.int .u8 0, .bool false, .slice none 0 0, .string ⟨#[]⟩, .int .i64 0, .slice none 0 0, .slice none 0 0] 26))) := ((Upd.refl [] w2).alloc _).alloc _
  clear h2 tA1 tB1 tZ1 hv kv U1 hQ hR tZ2
  go_wp2_with (first
    | (refine store_V _ rfl _ _ rfl _ _ _ _ _ _ _ _ _ _ _ _ _ _ _ rfl rfl tq rfl ?_; intro w3 hT3 hU3; have tr3 := tr.mono hU3 (by simp))
    | (refine store_V _ rfl _ _ rfl _ _ _ _ _ _ _ _ _ _ _ _ _ _ _ rfl rfl tr3 rfl ?_; intro w4 hT4 hU4; have tq4 := hT3.mono hU4 (by simp); have HZ4 : Hid (Tb w4 (w.heap.size + 1 + 1) #[.int .u8 0, .bool false, .slice none 0 0, .string ⟨#[]⟩, .int .i64 0, .slice none 0 0, .slice none 0 0]) := (tz.mono hU3 (by have := HL2.out; simp; omega)).mono hU4 (by have := HL2.out; simp; omega); have tz4 := HZ4.out; have HU4 : Hid (Upd [] w2 w4) := (HUa.out.then hU3 (by simp)).then hU4 (by simp); clear tr3 tr tq tz)
    | (refine load_T _ rfl _ rfl _ _ rfl tq4 rfl ?_)
    | (refine load_T _ rfl _ rfl _ _ rfl hT4 rfl ?_)
    | (refine store_V _ rfl _ _ rfl _ _ _ _ _ _ _ _ _ _ _ _ _ _ _ rfl rfl tz4 rfl ?_; intro w5 hT5 hU5)
    | fail)
  exact ret_Tb Tryz.results67 rfl _ _ _ rfl hT5 rfl rfl ⟨_, v, rfl, rfl, (HV.out.mono HU4.out (Nat.le_refl _)).step hU5 (bx_zero (Nat.zero_le _) HL2.out HZ4.out) (by omega) HU4.out.size, HK.out, (U2.out.trans HU4.out).then hU5 (by simp; omega)⟩

set_option maxHeartbeats 2000000 in
set_option maxRecDepth 100000 in
theorem reck_rem {d D : Nat} {t u : Tm} {x y : Int} (s : ByteArray) (cs0 cs1 : List Value) (w : World) (h0 : In w d cs0 t) (k0 : IntT x t) (h1 : In w d cs1 u) (k1 : IntT y u) (hy : y ≠ 0) (e1 : (s.toList == [43]) = false) (e2 : (s.toList == [45]) = false) (e3 : (s.toList == [42]) = false) (e4 : (s.toList == [100, 105, 118]) = false) :
    Calls Tryz.prog 67 #[.string s, .agg cs0.toArray, .agg cs1.toArray] w (MadeQ 0 (D + 1) (IntT (x.tmod y)) ⟨#[]⟩ w) := by
  have HY : Hid (y ≠ 0) := hy
  clear hy
  obtain ⟨na, a, ai, at', ca, ci, ct, A, rfl, HA⟩ := h0.int' k0
  obtain ⟨nb, b, bi, bt, cb, cbi, cbt, B, rfl, HB⟩ := h1.int' k1
  have HTA : Hid (TI w na a A x) := HA
  have HTB : Hid (TI w nb b B y) := HB
  have AR : Hid (∀ W g, Upd [] w W → Tb W g #[.int .u8 1, .bool na, .slice a A.length ca, .string ⟨#[]⟩, .int .i64 0, .slice ai 0 ci, .slice at' 0 ct, .int .u8 1, .bool nb, .slice b B.length cb, .string ⟨#[]⟩, .int .i64 0, .slice bi 0 cbi, .slice bt 0 cbt] → Calls Tryz.prog 100 #[.int .u8 1, .slice (some ⟨g, 0, none⟩) 2 2] W fun e w' => e = .returned (.bool true) ∧ Upd [] W w') := fun W g hu hT => by
    have h := are_in 1 (some ⟨g, 0, none⟩) 2 d [t, u] W (by simp) (row_two hT (In.mono hu _ _ _ h0) (In.mono hu _ _ _ h1))
    have e : ([t, u].all fun t => t.kd == 1) = true := by simp [k0.kd, k1.kd]
    rw [e] at h
    exact h
  have tA : Tb (((w.alloc (.cells #[.int .u8 1, .bool na, .slice a A.length ca, .string ⟨#[]⟩, .int .i64 0, .slice ai 0 ci, .slice at' 0 ct] 26)).alloc (.cells #[.int .u8 1, .bool nb, .slice b B.length cb, .string ⟨#[]⟩, .int .i64 0, .slice bi 0 cbi, .slice bt 0 cbt] 26)).alloc (.cells #[.int .u8 0, .bool false, .slice none 0 0, .string ⟨#[]⟩, .int .i64 0, .slice none 0 0, .slice none 0 0] 26)) w.heap.size #[.int .u8 1, .bool na, .slice a A.length ca, .string ⟨#[]⟩, .int .i64 0, .slice ai 0 ci, .slice at' 0 ct] := ((Tb.new _ _ _ rfl).old _).old _
  have tB : Tb (((w.alloc (.cells #[.int .u8 1, .bool na, .slice a A.length ca, .string ⟨#[]⟩, .int .i64 0, .slice ai 0 ci, .slice at' 0 ct] 26)).alloc (.cells #[.int .u8 1, .bool nb, .slice b B.length cb, .string ⟨#[]⟩, .int .i64 0, .slice bi 0 cbi, .slice bt 0 cbt] 26)).alloc (.cells #[.int .u8 0, .bool false, .slice none 0 0, .string ⟨#[]⟩, .int .i64 0, .slice none 0 0, .slice none 0 0] 26)) (w.heap.size + 1) #[.int .u8 1, .bool nb, .slice b B.length cb, .string ⟨#[]⟩, .int .i64 0, .slice bi 0 cbi, .slice bt 0 cbt] := (Tb.new _ _ _ (by simp)).old _
  have tZ : Tb (((w.alloc (.cells #[.int .u8 1, .bool na, .slice a A.length ca, .string ⟨#[]⟩, .int .i64 0, .slice ai 0 ci, .slice at' 0 ct] 26)).alloc (.cells #[.int .u8 1, .bool nb, .slice b B.length cb, .string ⟨#[]⟩, .int .i64 0, .slice bi 0 cbi, .slice bt 0 cbt] 26)).alloc (.cells #[.int .u8 0, .bool false, .slice none 0 0, .string ⟨#[]⟩, .int .i64 0, .slice none 0 0, .slice none 0 0] 26)) (w.heap.size + 1 + 1) #[.int .u8 0, .bool false, .slice none 0 0, .string ⟨#[]⟩, .int .i64 0, .slice none 0 0, .slice none 0 0] := Tb.new _ _ _ (by simp)
  have HU0 : Hid (Upd [] w (((w.alloc (.cells #[.int .u8 1, .bool na, .slice a A.length ca, .string ⟨#[]⟩, .int .i64 0, .slice ai 0 ci, .slice at' 0 ct] 26)).alloc (.cells #[.int .u8 1, .bool nb, .slice b B.length cb, .string ⟨#[]⟩, .int .i64 0, .slice bi 0 cbi, .slice bt 0 cbt] 26)).alloc (.cells #[.int .u8 0, .bool false, .slice none 0 0, .string ⟨#[]⟩, .int .i64 0, .slice none 0 0, .slice none 0 0] 26))) := (((Upd.refl [] w).alloc _).alloc _).alloc _
  clear h0 h1 k0 k1 HA HB
  go_enter Tryz.func67, Tryz.ntmps67
  go_wp2_with (first | (refine load_T _ rfl _ rfl _ _ rfl tA rfl ?_) | (refine load_T _ rfl _ rfl _ _ rfl tB rfl ?_) | fail)
  refine Calls.mono (AR.out _ _ (HU0.out.alloc _) (Tb.new _ _ _ (by simp))) ?_
  rintro e w1 ⟨rfl, h1⟩
  have hv := Upd.trans (HU0.out.alloc _) h1
  have U1 : Hid (Upd [] w w1) := hv
  have tA1 := (tA.old _).mono h1 (by simp)
  have tB1 := (tB.old _).mono h1 (by simp)
  have tZ1 := (tZ.old _).mono h1 (by simp)
  clear h1 hv tA tB tZ HU0 AR
  go_wp2_with (first | (refine load_T _ rfl _ rfl _ _ rfl tA1 rfl ?_) | (refine load_T _ rfl _ rfl _ _ rfl tB1 rfl ?_) | fail)
  refine Calls.mono (Div_any a ai at' b bi bt ca ci ct cb cbi cbt na nb A B x y w1 (HTA.out.mono U1.out) (HTB.out.mono U1.out) HY.out) ?_
  rintro e w2 ⟨h2, nq, nr, a1, a2, c1, c2, Q, R, rfl, hQ, hR⟩
  obtain ⟨v, hv, kv⟩ := hR.tm c2 D
  have U2 : Hid (Upd [] w w2) := U1.out.trans h2
  have tZ2 := tZ1.mono h2 (by simp)
  have HV : Hid (InU 0 w2.heap.size w2 (D + 1) _ v) := InU.int 0 w2.heap.size hv kv
  have HK : Hid (IntT (x.tmod y) v) := kv
  have tq : Tb ((w2.alloc (.cells #[.int .u8 0, .bool false, .slice none 0 0, .string ⟨#[]⟩, .int .i64 0, .slice none 0 0, .slice none 0 0] 26)).alloc (.cells #[.int .u8 0, .bool false, .slice none 0 0, .string ⟨#[]⟩, .int .i64 0, .slice none 0 0, .slice none 0 0] 26)) w2.heap.size #[.int .u8 0, .bool false, .slice none 0 0, .string ⟨#[]⟩, .int .i64 0, .slice none 0 0, .slice none 0 0] := (Tb.new _ _ _ rfl).old _
  have tr : Tb ((w2.alloc (.cells #[.int .u8 0, .bool false, .slice none 0 0, .string ⟨#[]⟩, .int .i64 0, .slice none 0 0, .slice none 0 0] 26)).alloc (.cells #[.int .u8 0, .bool false, .slice none 0 0, .string ⟨#[]⟩, .int .i64 0, .slice none 0 0, .slice none 0 0] 26)) (w2.heap.size + 1) #[.int .u8 0, .bool false, .slice none 0 0, .string ⟨#[]⟩, .int .i64 0, .slice none 0 0, .slice none 0 0] := Tb.new _ _ _ (by simp)
  have tz : Tb ((w2.alloc (.cells #[.int .u8 0, .bool false, .slice none 0 0, .string ⟨#[]⟩, .int .i64 0, .slice none 0 0, .slice none 0 0] 26)).alloc (.cells #[.int .u8 0, .bool false, .slice none 0 0, .string ⟨#[]⟩, .int .i64 0, .slice none 0 0, .slice none 0 0] 26)) (w.heap.size + 1 + 1) #[.int .u8 0, .bool false, .slice none 0 0, .string ⟨#[]⟩, .int .i64 0, .slice none 0 0, .slice none 0 0] := (tZ2.old _).old _
  have HL2 : Hid (w.heap.size + 1 + 1 < w2.heap.size) := Tb.lt tZ2
  have HUa : Hid (Upd [] w2 ((w2.alloc (.cells #[.int .u8 0, .bool false, .slice none 0 0, .string ⟨#[]⟩, .int .i64 0, .slice none 0 0, .slice none 0 0] 26)).alloc (.cells #[.int .u8 0, .bool false, .slice none 0 0, .string ⟨#[]⟩, .int .i64 0, .slice none 0 0, .slice none 0 0] 26))) := ((Upd.refl [] w2).alloc _).alloc _
  clear h2 tA1 tB1 tZ1 hv kv U1 hQ hR tZ2
  go_wp2_with (first
    | (refine store_V _ rfl _ _ rfl _ _ _ _ _ _ _ _ _ _ _ _ _ _ _ rfl rfl tq rfl ?_; intro w3 hT3 hU3; have tr3 := tr.mono hU3 (by simp))
    | (refine store_V _ rfl _ _ rfl _ _ _ _ _ _ _ _ _ _ _ _ _ _ _ rfl rfl tr3 rfl ?_; intro w4 hT4 hU4; have tq4 := hT3.mono hU4 (by simp); have HZ4 : Hid (Tb w4 (w.heap.size + 1 + 1) #[.int .u8 0, .bool false, .slice none 0 0, .string ⟨#[]⟩, .int .i64 0, .slice none 0 0, .slice none 0 0]) := (tz.mono hU3 (by have := HL2.out; simp; omega)).mono hU4 (by have := HL2.out; simp; omega); have tz4 := HZ4.out; have HU4 : Hid (Upd [] w2 w4) := (HUa.out.then hU3 (by simp)).then hU4 (by simp); clear tr3 tr tq tz)
    | (refine load_T _ rfl _ rfl _ _ rfl tq4 rfl ?_)
    | (refine load_T _ rfl _ rfl _ _ rfl hT4 rfl ?_)
    | (refine store_V _ rfl _ _ rfl _ _ _ _ _ _ _ _ _ _ _ _ _ _ _ rfl rfl tz4 rfl ?_; intro w5 hT5 hU5)
    | fail)
  exact ret_Tb Tryz.results67 rfl _ _ _ rfl hT5 rfl rfl ⟨_, v, rfl, rfl, (HV.out.mono HU4.out (Nat.le_refl _)).step hU5 (bx_zero (Nat.zero_le _) HL2.out HZ4.out) (by omega) HU4.out.size, HK.out, (U2.out.trans HU4.out).then hU5 (by simp; omega)⟩

set_option maxHeartbeats 2000000 in
set_option maxRecDepth 100000 in
theorem reck_zero {d D : Nat} {t u : Tm} {x : Int} (s : ByteArray) (cs0 cs1 : List Value) (w : World) (h0 : In w d cs0 t) (k0 : IntT x t) (h1 : In w d cs1 u) (k1 : IntT 0 u) (e1 : (s.toList == [43]) = false) (e2 : (s.toList == [45]) = false) (e3 : (s.toList == [42]) = false) :
    Calls Tryz.prog 67 #[.string s, .agg cs0.toArray, .agg cs1.toArray] w (MadeQ 0 (D + 1) (fun t => t = tmZ) ⟨#[98, 97, 100, 97, 114, 105, 116, 104]⟩ w) := by
  obtain ⟨na, a, ai, at', ca, ci, ct, A, rfl, HA⟩ := h0.int' k0
  obtain ⟨nb, b, bi, bt, cb, cbi, cbt, B, rfl, HB⟩ := h1.int' k1
  have HTA : Hid (TI w na a A x) := HA
  have HTB : Hid (TI w nb b B 0) := HB
  have AR : Hid (∀ W g, Upd [] w W → Tb W g #[.int .u8 1, .bool na, .slice a A.length ca, .string ⟨#[]⟩, .int .i64 0, .slice ai 0 ci, .slice at' 0 ct, .int .u8 1, .bool nb, .slice b B.length cb, .string ⟨#[]⟩, .int .i64 0, .slice bi 0 cbi, .slice bt 0 cbt] → Calls Tryz.prog 100 #[.int .u8 1, .slice (some ⟨g, 0, none⟩) 2 2] W fun e w' => e = .returned (.bool true) ∧ Upd [] W w') := fun W g hu hT => by
    have h := are_in 1 (some ⟨g, 0, none⟩) 2 d [t, u] W (by simp) (row_two hT (In.mono hu _ _ _ h0) (In.mono hu _ _ _ h1))
    have e : ([t, u].all fun t => t.kd == 1) = true := by simp [k0.kd, k1.kd]
    rw [e] at h
    exact h
  have tA : Tb (((w.alloc (.cells #[.int .u8 1, .bool na, .slice a A.length ca, .string ⟨#[]⟩, .int .i64 0, .slice ai 0 ci, .slice at' 0 ct] 26)).alloc (.cells #[.int .u8 1, .bool nb, .slice b B.length cb, .string ⟨#[]⟩, .int .i64 0, .slice bi 0 cbi, .slice bt 0 cbt] 26)).alloc (.cells #[.int .u8 0, .bool false, .slice none 0 0, .string ⟨#[]⟩, .int .i64 0, .slice none 0 0, .slice none 0 0] 26)) w.heap.size #[.int .u8 1, .bool na, .slice a A.length ca, .string ⟨#[]⟩, .int .i64 0, .slice ai 0 ci, .slice at' 0 ct] := ((Tb.new _ _ _ rfl).old _).old _
  have tB : Tb (((w.alloc (.cells #[.int .u8 1, .bool na, .slice a A.length ca, .string ⟨#[]⟩, .int .i64 0, .slice ai 0 ci, .slice at' 0 ct] 26)).alloc (.cells #[.int .u8 1, .bool nb, .slice b B.length cb, .string ⟨#[]⟩, .int .i64 0, .slice bi 0 cbi, .slice bt 0 cbt] 26)).alloc (.cells #[.int .u8 0, .bool false, .slice none 0 0, .string ⟨#[]⟩, .int .i64 0, .slice none 0 0, .slice none 0 0] 26)) (w.heap.size + 1) #[.int .u8 1, .bool nb, .slice b B.length cb, .string ⟨#[]⟩, .int .i64 0, .slice bi 0 cbi, .slice bt 0 cbt] := (Tb.new _ _ _ (by simp)).old _
  have tZ : Tb (((w.alloc (.cells #[.int .u8 1, .bool na, .slice a A.length ca, .string ⟨#[]⟩, .int .i64 0, .slice ai 0 ci, .slice at' 0 ct] 26)).alloc (.cells #[.int .u8 1, .bool nb, .slice b B.length cb, .string ⟨#[]⟩, .int .i64 0, .slice bi 0 cbi, .slice bt 0 cbt] 26)).alloc (.cells #[.int .u8 0, .bool false, .slice none 0 0, .string ⟨#[]⟩, .int .i64 0, .slice none 0 0, .slice none 0 0] 26)) (w.heap.size + 1 + 1) #[.int .u8 0, .bool false, .slice none 0 0, .string ⟨#[]⟩, .int .i64 0, .slice none 0 0, .slice none 0 0] := Tb.new _ _ _ (by simp)
  have HU0 : Hid (Upd [] w (((w.alloc (.cells #[.int .u8 1, .bool na, .slice a A.length ca, .string ⟨#[]⟩, .int .i64 0, .slice ai 0 ci, .slice at' 0 ct] 26)).alloc (.cells #[.int .u8 1, .bool nb, .slice b B.length cb, .string ⟨#[]⟩, .int .i64 0, .slice bi 0 cbi, .slice bt 0 cbt] 26)).alloc (.cells #[.int .u8 0, .bool false, .slice none 0 0, .string ⟨#[]⟩, .int .i64 0, .slice none 0 0, .slice none 0 0] 26))) := (((Upd.refl [] w).alloc _).alloc _).alloc _
  clear h0 h1 k0 k1 HA HB
  go_enter Tryz.func67, Tryz.ntmps67
  go_wp2_with (first | (refine load_T _ rfl _ rfl _ _ rfl tA rfl ?_) | (refine load_T _ rfl _ rfl _ _ rfl tB rfl ?_) | fail)
  refine Calls.mono (AR.out _ _ (HU0.out.alloc _) (Tb.new _ _ _ (by simp))) ?_
  rintro e w1 ⟨rfl, h1⟩
  have hv := Upd.trans (HU0.out.alloc _) h1
  have U1 : Hid (Upd [] w w1) := hv
  have tA1 := (tA.old _).mono h1 (by simp)
  have tB1 := (tB.old _).mono h1 (by simp)
  have tZ1 := (tZ.old _).mono h1 (by simp)
  clear h1 hv tA tB tZ HU0 AR
  go_wp2_with (first | (refine load_T _ rfl _ rfl _ _ rfl tA1 rfl ?_) | (refine load_T _ rfl _ rfl _ _ rfl tB1 rfl ?_) | fail)
  refine Calls.mono (Div_zero a ai at' b bi bt ca ci ct cb cbi cbt na nb A B x w1 (HTA.out.mono U1.out) (HTB.out.mono U1.out)) ?_
  rintro e w2 ⟨rfl, h2⟩
  have U2 : Hid (Upd [] w w2) := U1.out.trans h2
  have tZ2 := tZ1.mono h2 (by simp)
  have tq : Tb ((w2.alloc (.cells #[.int .u8 0, .bool false, .slice none 0 0, .string ⟨#[]⟩, .int .i64 0, .slice none 0 0, .slice none 0 0] 26)).alloc (.cells #[.int .u8 0, .bool false, .slice none 0 0, .string ⟨#[]⟩, .int .i64 0, .slice none 0 0, .slice none 0 0] 26)) w2.heap.size #[.int .u8 0, .bool false, .slice none 0 0, .string ⟨#[]⟩, .int .i64 0, .slice none 0 0, .slice none 0 0] := (Tb.new _ _ _ rfl).old _
  have tr : Tb ((w2.alloc (.cells #[.int .u8 0, .bool false, .slice none 0 0, .string ⟨#[]⟩, .int .i64 0, .slice none 0 0, .slice none 0 0] 26)).alloc (.cells #[.int .u8 0, .bool false, .slice none 0 0, .string ⟨#[]⟩, .int .i64 0, .slice none 0 0, .slice none 0 0] 26)) (w2.heap.size + 1) #[.int .u8 0, .bool false, .slice none 0 0, .string ⟨#[]⟩, .int .i64 0, .slice none 0 0, .slice none 0 0] := Tb.new _ _ _ (by simp)
  have tz : Tb ((w2.alloc (.cells #[.int .u8 0, .bool false, .slice none 0 0, .string ⟨#[]⟩, .int .i64 0, .slice none 0 0, .slice none 0 0] 26)).alloc (.cells #[.int .u8 0, .bool false, .slice none 0 0, .string ⟨#[]⟩, .int .i64 0, .slice none 0 0, .slice none 0 0] 26)) (w.heap.size + 1 + 1) #[.int .u8 0, .bool false, .slice none 0 0, .string ⟨#[]⟩, .int .i64 0, .slice none 0 0, .slice none 0 0] := (tZ2.old _).old _
  have HL2 : Hid (w.heap.size + 1 + 1 < w2.heap.size) := Tb.lt tZ2
  have HUa : Hid (Upd [] w2 ((w2.alloc (.cells #[.int .u8 0, .bool false, .slice none 0 0, .string ⟨#[]⟩, .int .i64 0, .slice none 0 0, .slice none 0 0] 26)).alloc (.cells #[.int .u8 0, .bool false, .slice none 0 0, .string ⟨#[]⟩, .int .i64 0, .slice none 0 0, .slice none 0 0] 26))) := ((Upd.refl [] w2).alloc _).alloc _
  clear h2 tA1 tB1 tZ1 U1 tZ2
  go_wp2_with (first
    | (refine store_V _ rfl _ _ rfl _ _ _ _ _ _ _ _ _ _ _ _ _ _ _ rfl rfl tq rfl ?_; intro w3 hT3 hU3; have tr3 := tr.mono hU3 (by simp))
    | (refine store_V _ rfl _ _ rfl _ _ _ _ _ _ _ _ _ _ _ _ _ _ _ rfl rfl tr3 rfl ?_; intro w4 hT4 hU4; have HZ4 : Hid (Tb w4 (w.heap.size + 1 + 1) #[.int .u8 0, .bool false, .slice none 0 0, .string ⟨#[]⟩, .int .i64 0, .slice none 0 0, .slice none 0 0]) := (tz.mono hU3 (by have := HL2.out; simp; omega)).mono hU4 (by have := HL2.out; simp; omega); have tz4 := HZ4.out; have HU4 : Hid (Upd [] w2 w4) := (HUa.out.then hU3 (by simp)).then hU4 (by simp); clear tr3 tr tq tz)
    | (refine store_V _ rfl _ _ rfl _ _ _ _ _ _ _ _ _ _ _ _ _ _ _ rfl rfl tz4 rfl ?_; intro w5 hT5 hU5)
    | fail)
  exact ret_Tb Tryz.results67 rfl _ _ _ rfl hT5 rfl rfl ⟨_, tmZ, rfl, rfl, InU.zero _ _ _ _, rfl, (U2.out.trans HU4.out).then hU5 (by simp; omega)⟩

end Go.Proofs.YtnpocmhaoaigfaaGreatDoor
