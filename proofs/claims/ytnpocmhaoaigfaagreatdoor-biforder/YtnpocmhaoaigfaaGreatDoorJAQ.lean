/- ofTwo with ++, made and ofOne with hd. -/
import Derived.Test.YtnpocmhaoaigfaaGreatDoorJAO
import Derived.Test.YtnpocmhaoaigfaaGreatDoorBfK
import Derived.Test.YtnpocmhaoaigfaaGreatDoorSplG
import Derived.Test.YtnpocmhaoaigfaaGreatDoorBfE
import Derived.Test.YtnpocmhaoaigfaaGreatDoorJAN

namespace Go.Proofs.YtnpocmhaoaigfaaGreatDoor
open Go.RowKit

set_option maxHeartbeats 2000000 in
set_option maxRecDepth 100000 in
theorem ofTwo_join {B d D : Nat} {t u : Tm} {P : Tm → Prop} {why : ByteArray} (s : ByteArray) (cs0 cs1 : List Value) (w : World) (h0 : In w d cs0 t) (h1 : In w d cs1 u) (hB : B ≤ w.heap.size) (hF : ∀ (cs cs' : List Value) (W : World), Upd [] w W → In W d cs t → In W d cs' u → Calls Tryz.prog 78 #[.agg cs.toArray, .agg cs'.toArray] W (MadeQ B D P why W)) (e1 : (s.toList == [43]) = false) (e2 : (s.toList == [45]) = false) (e3 : (s.toList == [42]) = false) (e4 : (s.toList == [100, 105, 118]) = false) (e5 : (s.toList == [114, 101, 109]) = false) (e6 : (s.toList == [97, 110, 100]) = false) (e7 : (s.toList == [111, 114]) = false) (e8 : (s.toList == [120, 111, 114]) = false) (e9 : (s.toList == [109, 97, 120]) = false) (e10 : (s.toList == [109, 105, 110]) = false) (e11 : (s.toList == [43, 43]) = true) :
    Calls Tryz.prog 48 #[.string s, .agg cs0.toArray, .agg cs1.toArray] w (MadeQ B D P why w) := by
  have lh0 : cs0.length = 7 := h0.len
  have lh1 : cs1.length = 7 := h1.len
  obtain ⟨q0, q1, q2, q3, q4, q5, q6, rfl⟩ := list7 lh0
  obtain ⟨p0, p1, p2, p3, p4, p5, p6, rfl⟩ := list7 lh1
  have tA : Tb (((w.alloc (.cells #[q0, q1, q2, q3, q4, q5, q6] 26)).alloc (.cells #[p0, p1, p2, p3, p4, p5, p6] 26)).alloc (.cells #[.int .u8 0, .bool false, .slice none 0 0, .string ⟨#[]⟩, .int .i64 0, .slice none 0 0, .slice none 0 0] 26)) w.heap.size #[q0, q1, q2, q3, q4, q5, q6] := ((Tb.new _ _ _ rfl).old _).old _
  have tB : Tb (((w.alloc (.cells #[q0, q1, q2, q3, q4, q5, q6] 26)).alloc (.cells #[p0, p1, p2, p3, p4, p5, p6] 26)).alloc (.cells #[.int .u8 0, .bool false, .slice none 0 0, .string ⟨#[]⟩, .int .i64 0, .slice none 0 0, .slice none 0 0] 26)) (w.heap.size + 1) #[p0, p1, p2, p3, p4, p5, p6] := (Tb.new _ _ _ (by simp)).old _
  have tZ : Tb (((w.alloc (.cells #[q0, q1, q2, q3, q4, q5, q6] 26)).alloc (.cells #[p0, p1, p2, p3, p4, p5, p6] 26)).alloc (.cells #[.int .u8 0, .bool false, .slice none 0 0, .string ⟨#[]⟩, .int .i64 0, .slice none 0 0, .slice none 0 0] 26)) (w.heap.size + 1 + 1) #[.int .u8 0, .bool false, .slice none 0 0, .string ⟨#[]⟩, .int .i64 0, .slice none 0 0, .slice none 0 0] := Tb.new _ _ _ (by simp)
  have HU0 : Hid (Upd [] w (((w.alloc (.cells #[q0, q1, q2, q3, q4, q5, q6] 26)).alloc (.cells #[p0, p1, p2, p3, p4, p5, p6] 26)).alloc (.cells #[.int .u8 0, .bool false, .slice none 0 0, .string ⟨#[]⟩, .int .i64 0, .slice none 0 0, .slice none 0 0] 26))) := (((Upd.refl [] w).alloc _).alloc _).alloc _
  have HBL : Hid (B ≤ w.heap.size) := hB
  have HTZ : Hid (Tb (((w.alloc (.cells #[q0, q1, q2, q3, q4, q5, q6] 26)).alloc (.cells #[p0, p1, p2, p3, p4, p5, p6] 26)).alloc (.cells #[.int .u8 0, .bool false, .slice none 0 0, .string ⟨#[]⟩, .int .i64 0, .slice none 0 0, .slice none 0 0] 26)) (w.heap.size + 1 + 1) #[.int .u8 0, .bool false, .slice none 0 0, .string ⟨#[]⟩, .int .i64 0, .slice none 0 0, .slice none 0 0]) := tZ
  have H0 : Hid (In w d [q0, q1, q2, q3, q4, q5, q6] t) := h0
  have H1 : Hid (In w d [p0, p1, p2, p3, p4, p5, p6] u) := h1
  have HF : Hid (∀ (W : World), Upd [] w W → Calls Tryz.prog 78 #[.agg #[q0, q1, q2, q3, q4, q5, q6], .agg #[p0, p1, p2, p3, p4, p5, p6]] W (MadeQ B D P why W)) := fun W hu => hF _ _ W hu (In.mono hu _ _ _ h0) (In.mono hu _ _ _ h1)
  clear hF h0 h1 hB lh0 lh1
  go_enter Tryz.func48, Tryz.ntmps48
  go_wp2_with (first | (refine load_T _ rfl _ rfl _ _ rfl tA rfl ?_) | (refine load_T _ rfl _ rfl _ _ rfl tB rfl ?_) | fail)
  refine Calls.mono (HF.out _ HU0.out) ?_
  rintro e w1 ⟨cs, q, h7, rfl, hin, hP, hu1⟩
  have hone := hin.plain.one
  obtain ⟨r0, r1, r2, r3, r4, r5, r6, rfl⟩ := list7 h7
  have tZ1 := tZ.mono hu1 (by simp)
  have HTZ1 : Hid (Tb w1 (w.heap.size + 1 + 1) #[.int .u8 0, .bool false, .slice none 0 0, .string ⟨#[]⟩, .int .i64 0, .slice none 0 0, .slice none 0 0]) := tZ1
  have HIN : Hid (InU B (w.heap.size + 1 + 1 + 1) w1 D [r0, r1, r2, r3, r4, r5, r6] q) := hin.less (Nat.le_refl _) (by simp)
  have HP : Hid (P q) := hP
  have U1 : Hid (Upd [] w w1) := HU0.out.trans hu1
  clear hu1 hin hP tA tB tZ HU0
  go_wp2_with (refine store_T _ rfl _ _ rfl _ #[r0, r1, r2, r3, r4, r5, r6] _ rfl rfl tZ1 rfl rfl hone ?_; intro w2 hT2 hU2)
  exact ret_Tb Tryz.results48 rfl _ _ _ rfl hT2 rfl rfl ⟨_, q, rfl, rfl, HIN.out.step hU2 (bx_zero (Nat.le_trans HBL.out (by omega)) (by omega) HTZ1.out) (by omega) (Nat.succ_le_of_lt (Tb.lt HTZ1.out)), HP.out, U1.out.then hU2 (by simp; omega)⟩

set_option maxHeartbeats 2000000 in
set_option maxRecDepth 100000 in
/-- end of package bif: an atom has none. -/
theorem end_atom (s x : ByteArray) (B D : Nat) (w : World) :
    Calls Tryz.prog 71 #[.string s, .agg #[.int .u8 2, .bool false, .slice none 0 0, .string x, .int .i64 0, .slice none 0 0, .slice none 0 0]] w (MadeQ B (D + 1) (fun t => t = tmZ) ⟨#[98, 97, 100, 97, 114, 103]⟩ w) := by
  have SP : Hid (∀ W, Calls Tryz.prog 106 #[.agg #[.int .u8 2, .bool false, .slice none 0 0, .string x, .int .i64 0, .slice none 0 0, .slice none 0 0]] W fun e w' => ∃ cs cs' : List Value, cs.length = 7 ∧ cs'.length = 7 ∧ cs.toArray.all (·.oneCell') = true ∧ cs'.toArray.all (·.oneCell') = true ∧ e = .returned (.tuple #[.agg cs.toArray, .agg cs'.toArray, .bool false]) ∧ Upd [] W w') := fun W => by
    refine (Split_in 0 W [.int .u8 2, .bool false, .slice none 0 0, .string x, .int .i64 0, .slice none 0 0, .slice none 0 0] (tmA x) (InU.atom 0 0 W x 1).plain ⟨none, 0, 0, rfl, by omega, by omega⟩ (by simp [tmA, tsz, tszs])).mono ?_
    rintro e w' ⟨cs, cs', l1, l2, rfl, i1, i2, hu⟩
    exact ⟨cs, cs', l1, l2, i1.one, i2.one, rfl, hu⟩
  have tA : Tb ((w.alloc (.cells #[.int .u8 2, .bool false, .slice none 0 0, .string x, .int .i64 0, .slice none 0 0, .slice none 0 0] 26)).alloc (.cells #[.int .u8 0, .bool false, .slice none 0 0, .string ⟨#[]⟩, .int .i64 0, .slice none 0 0, .slice none 0 0] 26)) w.heap.size #[.int .u8 2, .bool false, .slice none 0 0, .string x, .int .i64 0, .slice none 0 0, .slice none 0 0] := (Tb.new _ _ _ rfl).old _
  have tZ : Tb ((w.alloc (.cells #[.int .u8 2, .bool false, .slice none 0 0, .string x, .int .i64 0, .slice none 0 0, .slice none 0 0] 26)).alloc (.cells #[.int .u8 0, .bool false, .slice none 0 0, .string ⟨#[]⟩, .int .i64 0, .slice none 0 0, .slice none 0 0] 26)) (w.heap.size + 1) #[.int .u8 0, .bool false, .slice none 0 0, .string ⟨#[]⟩, .int .i64 0, .slice none 0 0, .slice none 0 0] := Tb.new _ _ _ (by simp)
  have HU0 : Hid (Upd [] w ((w.alloc (.cells #[.int .u8 2, .bool false, .slice none 0 0, .string x, .int .i64 0, .slice none 0 0, .slice none 0 0] 26)).alloc (.cells #[.int .u8 0, .bool false, .slice none 0 0, .string ⟨#[]⟩, .int .i64 0, .slice none 0 0, .slice none 0 0] 26))) := ((Upd.refl [] w).alloc _).alloc _
  go_enter Tryz.func71, Tryz.ntmps71
  go_wp2_with (first | (refine load_T _ rfl _ rfl _ _ rfl tA rfl ?_) | fail)
  refine Calls.mono (SP.out _) ?_
  rintro e w1 ⟨cs, cs', l1, l2, o1, o2, rfl, u1⟩
  obtain ⟨q0, q1, q2, q3, q4, q5, q6, rfl⟩ := list7 l1
  obtain ⟨p0, p1, p2, p3, p4, p5, p6, rfl⟩ := list7 l2
  have U1 : Hid (Upd [] w w1) := HU0.out.trans u1
  have tZ1 := tZ.mono u1 (by simp)
  have HL : Hid (w.heap.size + 1 < w1.heap.size) := Tb.lt tZ1
  have ta : Tb ((w1.alloc (.cells #[.int .u8 0, .bool false, .slice none 0 0, .string ⟨#[]⟩, .int .i64 0, .slice none 0 0, .slice none 0 0] 26)).alloc (.cells #[.int .u8 0, .bool false, .slice none 0 0, .string ⟨#[]⟩, .int .i64 0, .slice none 0 0, .slice none 0 0] 26)) w1.heap.size #[.int .u8 0, .bool false, .slice none 0 0, .string ⟨#[]⟩, .int .i64 0, .slice none 0 0, .slice none 0 0] := (Tb.new _ _ _ rfl).old _
  have tb : Tb ((w1.alloc (.cells #[.int .u8 0, .bool false, .slice none 0 0, .string ⟨#[]⟩, .int .i64 0, .slice none 0 0, .slice none 0 0] 26)).alloc (.cells #[.int .u8 0, .bool false, .slice none 0 0, .string ⟨#[]⟩, .int .i64 0, .slice none 0 0, .slice none 0 0] 26)) (w1.heap.size + 1) #[.int .u8 0, .bool false, .slice none 0 0, .string ⟨#[]⟩, .int .i64 0, .slice none 0 0, .slice none 0 0] := Tb.new _ _ _ (by simp)
  have tc : Tb ((w1.alloc (.cells #[.int .u8 0, .bool false, .slice none 0 0, .string ⟨#[]⟩, .int .i64 0, .slice none 0 0, .slice none 0 0] 26)).alloc (.cells #[.int .u8 0, .bool false, .slice none 0 0, .string ⟨#[]⟩, .int .i64 0, .slice none 0 0, .slice none 0 0] 26)) (w.heap.size + 1) #[.int .u8 0, .bool false, .slice none 0 0, .string ⟨#[]⟩, .int .i64 0, .slice none 0 0, .slice none 0 0] := (tZ1.old _).old _
  have HU2 : Hid (Upd [] w1 ((w1.alloc (.cells #[.int .u8 0, .bool false, .slice none 0 0, .string ⟨#[]⟩, .int .i64 0, .slice none 0 0, .slice none 0 0] 26)).alloc (.cells #[.int .u8 0, .bool false, .slice none 0 0, .string ⟨#[]⟩, .int .i64 0, .slice none 0 0, .slice none 0 0] 26))) := ((Upd.refl [] w1).alloc _).alloc _
  clear u1 tA tZ SP HU0 tZ1 l1 l2
  go_wp2_with (first | (refine store_T _ rfl _ _ rfl _ #[q0, q1, q2, q3, q4, q5, q6] _ rfl rfl ta rfl rfl o1 ?_; intro w3 hT3 hU3; have tb3 := tb.mono hU3 (by simp)) | (refine store_T _ rfl _ _ rfl _ #[p0, p1, p2, p3, p4, p5, p6] _ rfl rfl tb3 rfl rfl o2 ?_; intro w4 hT4 hU4; have tc4 : Tb w4 (w.heap.size + 1) #[.int .u8 0, .bool false, .slice none 0 0, .string ⟨#[]⟩, .int .i64 0, .slice none 0 0, .slice none 0 0] := (tc.mono hU3 (by have := HL.out; simp; omega)).mono hU4 (by have := HL.out; simp; omega)) | (refine store_V _ rfl _ _ rfl _ _ _ _ _ _ _ _ _ _ _ _ _ _ _ rfl rfl tc4 rfl ?_; intro w5 hT5 hU5) | fail)
  exact ret_Tb Tryz.results71 rfl _ _ _ rfl hT5 rfl rfl ⟨_, tmZ, rfl, rfl, InU.zero _ _ _ _, rfl, (U1.out.trans ((HU2.out.then hU3 (by simp)).then hU4 (by simp))).then hU5 (by simp)⟩

set_option maxHeartbeats 2000000 in
set_option maxRecDepth 100000 in
theorem ofOne_hd (s x : ByteArray) (B D : Nat) (w : World) (hB : B ≤ w.heap.size) (e1 : (s.toList == [43]) = false) (e2 : (s.toList == [45]) = false) (e3 : (s.toList == [97, 98, 115]) = false) (e4 : (s.toList == [110, 111, 116]) = false) (e5 : (s.toList == [104, 100]) = true) :
    Calls Tryz.prog 47 #[.string s, .agg #[.int .u8 2, .bool false, .slice none 0 0, .string x, .int .i64 0, .slice none 0 0, .slice none 0 0]] w (MadeQ B (D + 1) (fun t => t = tmZ) ⟨#[98, 97, 100, 97, 114, 103]⟩ w) := by
  have HBL : Hid (B ≤ w.heap.size) := hB
  have tA : Tb ((w.alloc (.cells #[.int .u8 2, .bool false, .slice none 0 0, .string x, .int .i64 0, .slice none 0 0, .slice none 0 0] 26)).alloc (.cells #[.int .u8 0, .bool false, .slice none 0 0, .string ⟨#[]⟩, .int .i64 0, .slice none 0 0, .slice none 0 0] 26)) w.heap.size #[.int .u8 2, .bool false, .slice none 0 0, .string x, .int .i64 0, .slice none 0 0, .slice none 0 0] := (Tb.new _ _ _ rfl).old _
  have tZ : Tb ((w.alloc (.cells #[.int .u8 2, .bool false, .slice none 0 0, .string x, .int .i64 0, .slice none 0 0, .slice none 0 0] 26)).alloc (.cells #[.int .u8 0, .bool false, .slice none 0 0, .string ⟨#[]⟩, .int .i64 0, .slice none 0 0, .slice none 0 0] 26)) (w.heap.size + 1) #[.int .u8 0, .bool false, .slice none 0 0, .string ⟨#[]⟩, .int .i64 0, .slice none 0 0, .slice none 0 0] := Tb.new _ _ _ (by simp)
  have HU0 : Hid (Upd [] w ((w.alloc (.cells #[.int .u8 2, .bool false, .slice none 0 0, .string x, .int .i64 0, .slice none 0 0, .slice none 0 0] 26)).alloc (.cells #[.int .u8 0, .bool false, .slice none 0 0, .string ⟨#[]⟩, .int .i64 0, .slice none 0 0, .slice none 0 0] 26))) := ((Upd.refl [] w).alloc _).alloc _
  clear hB
  go_enter Tryz.func47, Tryz.ntmps47
  go_wp2_with (first | (refine load_T _ rfl _ rfl _ _ rfl tA rfl ?_) | fail)
  refine Calls.mono (end_atom s x B D _) ?_
  rintro e w1 ⟨cs, q, h7, rfl, hin, rfl, hu1⟩
  have hone := hin.plain.one
  obtain ⟨r0, r1, r2, r3, r4, r5, r6, rfl⟩ := list7 h7
  have tZ1 := tZ.mono hu1 (by simp)
  have HTZ1 : Hid (Tb w1 (w.heap.size + 1) #[.int .u8 0, .bool false, .slice none 0 0, .string ⟨#[]⟩, .int .i64 0, .slice none 0 0, .slice none 0 0]) := tZ1
  have HIN : Hid (InU B (w.heap.size + 1 + 1) w1 (D + 1) [r0, r1, r2, r3, r4, r5, r6] tmZ) := hin.less (Nat.le_refl _) (by simp)
  have U1 : Hid (Upd [] w w1) := HU0.out.trans hu1
  clear hu1 hin tA tZ HU0
  go_wp2_with (refine store_T _ rfl _ _ rfl _ #[r0, r1, r2, r3, r4, r5, r6] _ rfl rfl tZ1 rfl rfl hone ?_; intro w2 hT2 hU2)
  exact ret_Tb Tryz.results47 rfl _ _ _ rfl hT2 rfl rfl ⟨_, tmZ, rfl, rfl, HIN.out.step hU2 (bx_zero (Nat.le_trans HBL.out (by omega)) (by omega) HTZ1.out) (by omega) (Nat.succ_le_of_lt (Tb.lt HTZ1.out)), rfl, U1.out.then hU2 (by simp)⟩

set_option maxHeartbeats 2000000 in
set_option maxRecDepth 100000 in
theorem made_hd (s x : ByteArray) (B D g c : Nat) (w : World) (hB : B ≤ w.heap.size) (hT : Tb w g #[.int .u8 2, .bool false, .slice none 0 0, .string x, .int .i64 0, .slice none 0 0, .slice none 0 0]) (e1 : (s.toList == [43]) = false) (e2 : (s.toList == [45]) = false) (e3 : (s.toList == [97, 98, 115]) = false) (e4 : (s.toList == [110, 111, 116]) = false) (e5 : (s.toList == [104, 100]) = true) :
    Calls Tryz.prog 26 #[.string s, .slice (some ⟨g, 0, none⟩) 1 c] w (MadeQ B (D + 1) (fun t => t = tmZ) ⟨#[98, 97, 100, 97, 114, 103]⟩ w) := by
  have HBL : Hid (B ≤ w.heap.size) := hB
  have HU0 : Hid (Upd [] w (w.alloc (.cells #[.int .u8 0, .bool false, .slice none 0 0, .string ⟨#[]⟩, .int .i64 0, .slice none 0 0, .slice none 0 0] 26))) := (Upd.refl [] w).alloc _
  have tz : Tb (w.alloc (.cells #[.int .u8 0, .bool false, .slice none 0 0, .string ⟨#[]⟩, .int .i64 0, .slice none 0 0, .slice none 0 0] 26)) w.heap.size #[.int .u8 0, .bool false, .slice none 0 0, .string ⟨#[]⟩, .int .i64 0, .slice none 0 0, .slice none 0 0] := Tb.new _ _ _ rfl
  have tg := hT.old (.cells #[.int .u8 0, .bool false, .slice none 0 0, .string ⟨#[]⟩, .int .i64 0, .slice none 0 0, .slice none 0 0] 26)
  have HF : Hid (∀ W, Upd [] w W → Calls Tryz.prog 47 #[.string s, .agg #[.int .u8 2, .bool false, .slice none 0 0, .string x, .int .i64 0, .slice none 0 0, .slice none 0 0]] W (MadeQ B (D + 1) (fun t => t = tmZ) ⟨#[98, 97, 100, 97, 114, 103]⟩ W)) := fun W hu => ofOne_hd s x B D W (Nat.le_trans hB hu.size) e1 e2 e3 e4 e5
  clear hB hT
  go_enter Tryz.func26, Tryz.ntmps26
  go_wp2_with (first | (refine load_T _ rfl _ rfl _ _ rfl tg rfl ?_) | fail)
  refine Calls.mono (HF.out _ HU0.out) ?_
  rintro e w1 ⟨cs, q, h7, rfl, hin, rfl, hu1⟩
  have hone := hin.plain.one
  obtain ⟨r0, r1, r2, r3, r4, r5, r6, rfl⟩ := list7 h7
  have tZ1 := tz.mono hu1 (by simp)
  have HTZ1 : Hid (Tb w1 w.heap.size #[.int .u8 0, .bool false, .slice none 0 0, .string ⟨#[]⟩, .int .i64 0, .slice none 0 0, .slice none 0 0]) := tZ1
  have HIN : Hid (InU B (w.heap.size + 1) w1 (D + 1) [r0, r1, r2, r3, r4, r5, r6] tmZ) := hin.less (Nat.le_refl _) (by simp)
  have U1 : Hid (Upd [] w w1) := HU0.out.trans hu1
  clear hu1 hin tg tz HU0
  go_wp2_with (refine store_T _ rfl _ _ rfl _ #[r0, r1, r2, r3, r4, r5, r6] _ rfl rfl tZ1 rfl rfl hone ?_; intro w2 hT2 hU2)
  exact ret_Tb Tryz.results26 rfl _ _ _ rfl hT2 rfl rfl ⟨_, tmZ, rfl, rfl, HIN.out.step hU2 (bx_zero HBL.out (by omega) HTZ1.out) (by omega) (Nat.succ_le_of_lt (Tb.lt HTZ1.out)), rfl, U1.out.then hU2 (by simp)⟩

end Go.Proofs.YtnpocmhaoaigfaaGreatDoor

/- Call with the names of the statements. -/
namespace Go.Proofs.YtnpocmhaoaigfaaGreatDoor
open Go.RowKit

theorem cell_lt {w : World} {p : Addr} {v : Value} (h : w.cell? p = some v) : p.block < w.heap.size := by
  apply Classical.byContradiction
  intro hn
  have e : w.heap[p.block]? = none := by simp; omega
  unfold World.cell? at h
  rw [e] at h
  cases h
theorem StrAt.mono {w w' : World} (hu : Upd [] w w') {a : Option Addr} {L : List ByteArray} (h : StrAt w a L) : StrAt w' a L := by
  rcases h with h | ⟨b, o, e, h⟩
  · exact Or.inl h
  · exact Or.inr ⟨b, o, e, fun i hi => (hu.cell (cell_lt (h i hi)) (by simp)).trans (h i hi)⟩
theorem Blt.mono {w w' : World} (h : Blt w) (hu : Upd [] w w') : Blt w' := fun k a hk ha => by
  obtain ⟨ad, c, h1, h2⟩ := h k a hk ha
  exact ⟨ad, c, (hu.cell (cell_lt h1) (by simp)).trans h1, h2.mono hu⟩

theorem two_ok {t u : Tm} (h : okS t = true) (h' : okS u = true) : ([t, u].all okS) = true := by simp [h, h']
theorem two_tsz {t u : Tm} (h : okS t = true) (h' : okS u = true) : ∀ x ∈ [t, u], tsz x ≤ 1353245080330 := by
  intro x hx
  simp at hx
  rcases hx with rfl | rfl
  · exact okS_tsz h
  · exact okS_tsz h'

theorem call_add {d D c : Nat} {t u : Tm} {x y : Int} (a : Option Addr) (w : World) (hBlt : Blt w) (hI : RowAt (In w d) w a [t, u]) (kx : IntT x t) (ky : IntT y u) (hfit : (x + y).natAbs < 4294967296 ^ 32) :
    Calls Tryz.prog 12 #[.string ⟨#[43]⟩, .slice a 2 c] w (TwoQ (D + 1) (IntT (x + y)) (fun t => t = tmZ) true w) :=
  Call_val (B := 0) (I := [t, u]) (n := 2) (why := ⟨#[]⟩) ⟨#[43]⟩ a w (fun W hu => hBlt.mono hu) hI rfl (by simp) (two_tsz kx.ok ky.ok) (two_ok kx.ok ky.ok) (by kernel_rfl) (by kernel_rfl) (by kernel_rfl) (by kernel_rfl) (Nat.zero_le _)
    (fun W hu => made_two _ a c W (hI.imp hu (fun cs t h => In.mono hu d cs t h)) (Nat.zero_le _) (fun cs cs' V _ h0 h1 => ofTwo_add _ cs cs' V h0 h1 (Nat.zero_le _) (fun cs cs' V' _ h0 h1 => reck_add _ cs cs' V' h0 kx h1 ky hfit (by kernel_rfl)) (by kernel_rfl))) rfl (fun t h => h.ok)
theorem call_mul {d D c : Nat} {t u : Tm} {x y : Int} (a : Option Addr) (w : World) (hBlt : Blt w) (hI : RowAt (In w d) w a [t, u]) (kx : IntT x t) (ky : IntT y u) (hfit : (x * y).natAbs < 4294967296 ^ 32) :
    Calls Tryz.prog 12 #[.string ⟨#[42]⟩, .slice a 2 c] w (TwoQ (D + 1) (IntT (x * y)) (fun t => t = tmZ) true w) :=
  Call_val (B := 0) (I := [t, u]) (n := 2) (why := ⟨#[]⟩) ⟨#[42]⟩ a w (fun W hu => hBlt.mono hu) hI rfl (by simp) (two_tsz kx.ok ky.ok) (two_ok kx.ok ky.ok) (by kernel_rfl) (by kernel_rfl) (by kernel_rfl) (by kernel_rfl) (Nat.zero_le _)
    (fun W hu => made_two _ a c W (hI.imp hu (fun cs t h => In.mono hu d cs t h)) (Nat.zero_le _) (fun cs cs' V _ h0 h1 => ofTwo_mul _ cs cs' V h0 h1 (Nat.zero_le _) (fun cs cs' V' _ h0 h1 => reck_mul _ cs cs' V' h0 kx h1 ky hfit (by kernel_rfl) (by kernel_rfl) (by kernel_rfl)) (by kernel_rfl) (by kernel_rfl) (by kernel_rfl))) rfl (fun t h => h.ok)
theorem call_div {d D c : Nat} {t u : Tm} {x y : Int} (a : Option Addr) (w : World) (hBlt : Blt w) (hI : RowAt (In w d) w a [t, u]) (kx : IntT x t) (ky : IntT y u) (hy : y ≠ 0) :
    Calls Tryz.prog 12 #[.string ⟨#[100, 105, 118]⟩, .slice a 2 c] w (TwoQ (D + 1) (IntT (x.tdiv y)) (fun t => t = tmZ) true w) :=
  Call_val (B := 0) (I := [t, u]) (n := 2) (why := ⟨#[]⟩) ⟨#[100, 105, 118]⟩ a w (fun W hu => hBlt.mono hu) hI rfl (by simp) (two_tsz kx.ok ky.ok) (two_ok kx.ok ky.ok) (by kernel_rfl) (by kernel_rfl) (by kernel_rfl) (by kernel_rfl) (Nat.zero_le _)
    (fun W hu => made_two _ a c W (hI.imp hu (fun cs t h => In.mono hu d cs t h)) (Nat.zero_le _) (fun cs cs' V _ h0 h1 => ofTwo_div _ cs cs' V h0 h1 (Nat.zero_le _) (fun cs cs' V' _ h0 h1 => reck_div _ cs cs' V' h0 kx h1 ky hy (by kernel_rfl) (by kernel_rfl) (by kernel_rfl) (by kernel_rfl)) (by kernel_rfl) (by kernel_rfl) (by kernel_rfl) (by kernel_rfl))) rfl (fun t h => h.ok)
theorem call_rem {d D c : Nat} {t u : Tm} {x y : Int} (a : Option Addr) (w : World) (hBlt : Blt w) (hI : RowAt (In w d) w a [t, u]) (kx : IntT x t) (ky : IntT y u) (hy : y ≠ 0) :
    Calls Tryz.prog 12 #[.string ⟨#[114, 101, 109]⟩, .slice a 2 c] w (TwoQ (D + 1) (IntT (x.tmod y)) (fun t => t = tmZ) true w) :=
  Call_val (B := 0) (I := [t, u]) (n := 2) (why := ⟨#[]⟩) ⟨#[114, 101, 109]⟩ a w (fun W hu => hBlt.mono hu) hI rfl (by simp) (two_tsz kx.ok ky.ok) (two_ok kx.ok ky.ok) (by kernel_rfl) (by kernel_rfl) (by kernel_rfl) (by kernel_rfl) (Nat.zero_le _)
    (fun W hu => made_two _ a c W (hI.imp hu (fun cs t h => In.mono hu d cs t h)) (Nat.zero_le _) (fun cs cs' V _ h0 h1 => ofTwo_rem _ cs cs' V h0 h1 (Nat.zero_le _) (fun cs cs' V' _ h0 h1 => reck_rem _ cs cs' V' h0 kx h1 ky hy (by kernel_rfl) (by kernel_rfl) (by kernel_rfl) (by kernel_rfl)) (by kernel_rfl) (by kernel_rfl) (by kernel_rfl) (by kernel_rfl) (by kernel_rfl))) rfl (fun t h => h.ok)
theorem call_div0 {d D c : Nat} {t u : Tm} {x : Int} (a : Option Addr) (w : World) (hBlt : Blt w) (hI : RowAt (In w d) w a [t, u]) (kx : IntT x t) (ky : IntT 0 u) :
    Calls Tryz.prog 12 #[.string ⟨#[100, 105, 118]⟩, .slice a 2 c] w (TwoQ (D + 2) (fun t => t = tmZ) (fun t => t = errT ⟨#[101, 114, 114, 111, 114]⟩ ⟨#[98, 97, 100, 97, 114, 105, 116, 104]⟩) true w) :=
  Call_err (B := 0) (D := D) (I := [t, u]) (n := 2) (P := fun t => t = tmZ) (why := ⟨#[98, 97, 100, 97, 114, 105, 116, 104]⟩) ⟨#[100, 105, 118]⟩ a w (fun W hu => hBlt.mono hu) hI rfl (by simp) (two_tsz kx.ok ky.ok) (two_ok kx.ok ky.ok) (by kernel_rfl) (by kernel_rfl) (by kernel_rfl) (by kernel_rfl) (Nat.zero_le _)
    (fun W hu => made_two _ a c W (hI.imp hu (fun cs t h => In.mono hu d cs t h)) (Nat.zero_le _) (fun cs cs' V _ h0 h1 => ofTwo_div _ cs cs' V h0 h1 (Nat.zero_le _) (fun cs cs' V' _ h0 h1 => reck_zero _ cs cs' V' h0 kx h1 ky (by kernel_rfl) (by kernel_rfl) (by kernel_rfl)) (by kernel_rfl) (by kernel_rfl) (by kernel_rfl) (by kernel_rfl))) (by kernel_rfl) (by kernel_rfl)
theorem call_rem0 {d D c : Nat} {t u : Tm} {x : Int} (a : Option Addr) (w : World) (hBlt : Blt w) (hI : RowAt (In w d) w a [t, u]) (kx : IntT x t) (ky : IntT 0 u) :
    Calls Tryz.prog 12 #[.string ⟨#[114, 101, 109]⟩, .slice a 2 c] w (TwoQ (D + 2) (fun t => t = tmZ) (fun t => t = errT ⟨#[101, 114, 114, 111, 114]⟩ ⟨#[98, 97, 100, 97, 114, 105, 116, 104]⟩) true w) :=
  Call_err (B := 0) (D := D) (I := [t, u]) (n := 2) (P := fun t => t = tmZ) (why := ⟨#[98, 97, 100, 97, 114, 105, 116, 104]⟩) ⟨#[114, 101, 109]⟩ a w (fun W hu => hBlt.mono hu) hI rfl (by simp) (two_tsz kx.ok ky.ok) (two_ok kx.ok ky.ok) (by kernel_rfl) (by kernel_rfl) (by kernel_rfl) (by kernel_rfl) (Nat.zero_le _)
    (fun W hu => made_two _ a c W (hI.imp hu (fun cs t h => In.mono hu d cs t h)) (Nat.zero_le _) (fun cs cs' V _ h0 h1 => ofTwo_rem _ cs cs' V h0 h1 (Nat.zero_le _) (fun cs cs' V' _ h0 h1 => reck_zero _ cs cs' V' h0 kx h1 ky (by kernel_rfl) (by kernel_rfl) (by kernel_rfl)) (by kernel_rfl) (by kernel_rfl) (by kernel_rfl) (by kernel_rfl) (by kernel_rfl))) (by kernel_rfl) (by kernel_rfl)
theorem call_join {d c : Nat} {x y : Tm} {z z' : Int} (a : Option Addr) (w : World) (hBlt : Blt w) (hI : RowAt (In w (d + 1)) w a [tmL [x], tmL [y]]) (kx : IntT z x) (ky : IntT z' y) (ox : okS (tmL [x]) = true) (oy : okS (tmL [y]) = true) :
    Calls Tryz.prog 12 #[.string ⟨#[43, 43]⟩, .slice a 2 c] w (TwoQ (d + 1) Lis2 (fun t => t = tmZ) true w) :=
  Call_val (B := 0) (I := [tmL [x], tmL [y]]) (n := 2) (why := ⟨#[]⟩) ⟨#[43, 43]⟩ a w (fun W hu => hBlt.mono hu) hI rfl (by simp) (two_tsz ox oy) (two_ok ox oy) (by kernel_rfl) (by kernel_rfl) (by kernel_rfl) (by kernel_rfl) (Nat.zero_le _)
    (fun W hu => made_two _ a c W (hI.imp hu (fun cs t h => In.mono hu (d + 1) cs t h)) (Nat.zero_le _) (fun cs cs' V _ h0 h1 => ofTwo_join _ cs cs' V h0 h1 (Nat.zero_le _) (fun cs cs' V' _ h0 h1 => joined_two cs cs' V' h0 h1 kx ky (Nat.zero_le _)) (by kernel_rfl) (by kernel_rfl) (by kernel_rfl) (by kernel_rfl) (by kernel_rfl) (by kernel_rfl) (by kernel_rfl) (by kernel_rfl) (by kernel_rfl) (by kernel_rfl) (by kernel_rfl))) rfl (fun t h => h.1)
theorem call_hd {D g c : Nat} (x : ByteArray) (w : World) (hBlt : Blt w) (hT : Tb w g #[.int .u8 2, .bool false, .slice none 0 0, .string x, .int .i64 0, .slice none 0 0, .slice none 0 0]) (hx : okS (tmA x) = true) :
    Calls Tryz.prog 12 #[.string ⟨#[104, 100]⟩, .slice (some ⟨g, 0, none⟩) 1 c] w (TwoQ (D + 2) (fun t => t = tmZ) (fun t => t = errT ⟨#[101, 114, 114, 111, 114]⟩ ⟨#[98, 97, 100, 97, 114, 103]⟩) true w) :=
  Call_err (B := 0) (D := D) (d := 1) (I := [tmA x]) (n := 1) (P := fun t => t = tmZ) (why := ⟨#[98, 97, 100, 97, 114, 103]⟩) ⟨#[104, 100]⟩ _ w (fun W hu => hBlt.mono hu) (row_one hT (in_atom w x)) rfl (by simp) (fun t ht => by simp at ht; subst ht; exact okS_tsz hx) (by simp [hx]) (by kernel_rfl) (by kernel_rfl) (by kernel_rfl) (by kernel_rfl) (Nat.zero_le _)
    (fun W hu => made_hd _ x 0 D g c W (Nat.zero_le _) (hT.mono hu (by simp)) (by kernel_rfl) (by kernel_rfl) (by kernel_rfl) (by kernel_rfl) (by kernel_rfl)) (by kernel_rfl) (by kernel_rfl)
theorem call_self (D : Nat) (w : World) (hBlt : Blt w) : Calls Tryz.prog 12 #[.string ⟨#[115, 101, 108, 102]⟩, .slice none 0 0] w (TwoQ (D + 1) (fun t => t = tmZ) (fun t => t = tmZ) false w) :=
  Call_no (n := 0) ⟨#[115, 101, 108, 102]⟩ none D w (fun W hu => hBlt.mono hu) (by omega) (by kernel_rfl)

end Go.Proofs.YtnpocmhaoaigfaaGreatDoor
