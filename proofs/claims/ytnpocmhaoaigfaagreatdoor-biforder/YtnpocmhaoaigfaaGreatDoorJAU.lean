/- The statements' call and yes. -/
import Derived.Test.YtnpocmhaoaigfaaGreatDoorJAN
import Derived.Test.YtnpocmhaoaigfaaGreatDoorJAO
import Derived.Test.YtnpocmhaoaigfaaGreatDoorBfO

namespace Go.Proofs.YtnpocmhaoaigfaaGreatDoor
open Go.RowKit

set_option maxHeartbeats 4000000 in
set_option maxRecDepth 100000 in
theorem lcall_in {d n c : Nat} {P Q : Tm → Prop} {ok : Bool} {kq : Int} (s : ByteArray) (a : Option Addr) (w : World) (hq : ∀ t, Q t → t.kd = kq)
    (hC : ∀ W, Upd [] w W → Calls Tryz.prog 12 #[.string s, .slice a n c] W (TwoQ d P Q ok W)) (r : Bool) (hr : (ok && (kq == 0)) = r) :
    Calls Tryz.prog 9 #[.string s, .slice a n c] w (CalQ d P r w) := by
  have HC : Hid (∀ W, Upd [] w W → Calls Tryz.prog 12 #[.string s, .slice a n c] W (TwoQ d P Q ok W)) := hC
  have HQ : Hid (∀ t, Q t → t.kd = kq) := hq
  have HRR : Hid ((ok && (kq == 0)) = r) := hr
  have HU0 : Hid (Upd [] w (w.alloc (.cells #[.int .u8 0, .bool false, .slice none 0 0, .string ⟨#[]⟩, .int .i64 0, .slice none 0 0, .slice none 0 0] 26))) := (Upd.refl [] w).alloc _
  have tz : Tb (w.alloc (.cells #[.int .u8 0, .bool false, .slice none 0 0, .string ⟨#[]⟩, .int .i64 0, .slice none 0 0, .slice none 0 0] 26)) w.heap.size #[.int .u8 0, .bool false, .slice none 0 0, .string ⟨#[]⟩, .int .i64 0, .slice none 0 0, .slice none 0 0] := Tb.new _ _ _ rfl
  clear hC hq hr
  go_enter Tryz.func9, Tryz.ntmps9
  go_wp2_with fail
  refine Calls.mono (HC.out _ HU0.out) ?_
  rintro e w1 ⟨cs, cr, t, u, l1, l2, rfl, hin, hP, hinr, hQ, h1⟩
  have ones := hin.plain.one
  have oner := hinr.plain.one
  obtain ⟨k1, num1, neg1, s1, a11, a12, a13, n11, n12, n13, c11, c12, c13, rfl⟩ := In.shape hin.plain
  obtain ⟨y1, y2, y3, y4, y5, y6, rfl⟩ := In.kdform hinr.plain
  rw [HQ.out u hQ] at hinr
  have hkq := HQ.out u hQ
  rw [hkq] at oner ⊢
  have tz1 := tz.mono h1 (by simp)
  have HTZ : Hid (Tb w1 w.heap.size #[.int .u8 0, .bool false, .slice none 0 0, .string ⟨#[]⟩, .int .i64 0, .slice none 0 0, .slice none 0 0]) := tz1
  have HLT : Hid (w.heap.size < (w.alloc (.cells #[.int .u8 0, .bool false, .slice none 0 0, .string ⟨#[]⟩, .int .i64 0, .slice none 0 0, .slice none 0 0] 26)).heap.size) := by show _ < _; simp
  have HIN : Hid (InU 0 (w.heap.size + 1) w1 d [.int .u8 k1, .bool neg1, .slice a11 n11 c11, .string s1, .int .i64 num1, .slice a12 n12 c12, .slice a13 n13 c13] t) := hin.less (Nat.le_refl _) (by simp)
  have HP : Hid (P t) := hP
  have U1 : Hid (Upd [] w w1) := HU0.out.trans h1
  have ta : Tb ((w1.alloc (.cells #[.int .u8 0, .bool false, .slice none 0 0, .string ⟨#[]⟩, .int .i64 0, .slice none 0 0, .slice none 0 0] 26)).alloc (.cells #[.int .u8 0, .bool false, .slice none 0 0, .string ⟨#[]⟩, .int .i64 0, .slice none 0 0, .slice none 0 0] 26)) w1.heap.size #[.int .u8 0, .bool false, .slice none 0 0, .string ⟨#[]⟩, .int .i64 0, .slice none 0 0, .slice none 0 0] := (Tb.new _ _ _ rfl).old _
  have tb : Tb ((w1.alloc (.cells #[.int .u8 0, .bool false, .slice none 0 0, .string ⟨#[]⟩, .int .i64 0, .slice none 0 0, .slice none 0 0] 26)).alloc (.cells #[.int .u8 0, .bool false, .slice none 0 0, .string ⟨#[]⟩, .int .i64 0, .slice none 0 0, .slice none 0 0] 26)) (w1.heap.size + 1) #[.int .u8 0, .bool false, .slice none 0 0, .string ⟨#[]⟩, .int .i64 0, .slice none 0 0, .slice none 0 0] := Tb.new _ _ _ (by simp)
  have tc : Tb ((w1.alloc (.cells #[.int .u8 0, .bool false, .slice none 0 0, .string ⟨#[]⟩, .int .i64 0, .slice none 0 0, .slice none 0 0] 26)).alloc (.cells #[.int .u8 0, .bool false, .slice none 0 0, .string ⟨#[]⟩, .int .i64 0, .slice none 0 0, .slice none 0 0] 26)) w.heap.size #[.int .u8 0, .bool false, .slice none 0 0, .string ⟨#[]⟩, .int .i64 0, .slice none 0 0, .slice none 0 0] := (tz1.old _).old _
  have HL1 : Hid (w.heap.size < w1.heap.size) := Tb.lt tz1
  have HU2 : Hid (Upd [] w1 ((w1.alloc (.cells #[.int .u8 0, .bool false, .slice none 0 0, .string ⟨#[]⟩, .int .i64 0, .slice none 0 0, .slice none 0 0] 26)).alloc (.cells #[.int .u8 0, .bool false, .slice none 0 0, .string ⟨#[]⟩, .int .i64 0, .slice none 0 0, .slice none 0 0] 26))) := ((Upd.refl [] w1).alloc _).alloc _
  clear h1 hin hinr hP hQ tz HU0 HC hkq tz1
  go_wp2_with (first | (refine store_V _ rfl _ _ rfl _ _ _ _ _ _ _ _ _ _ _ _ _ _ _ rfl rfl ta rfl ?_; intro w3 hT3 hU3; have tb3 := tb.mono hU3 (by simp)) | (refine store_T _ rfl _ _ rfl _ #[.int .u8 kq, y1, y2, y3, y4, y5, y6] _ rfl rfl tb3 rfl rfl oner ?_; intro w4 hT4 hU4) | fail)
  rename_i K1 hK1
  have ta4 := hT3.mono hU4 (by simp)
  have tc4 : Tb w4 w.heap.size #[.int .u8 0, .bool false, .slice none 0 0, .string ⟨#[]⟩, .int .i64 0, .slice none 0 0, .slice none 0 0] := (tc.mono hU3 (by have := HL1.out; simp; omega)).mono hU4 (by have := HL1.out; simp; omega)
  have HU4 : Hid (Upd [] w1 w4) := (HU2.out.then hU3 (by simp)).then hU4 (by simp)
  have HTC : Hid (Tb w4 w.heap.size #[.int .u8 0, .bool false, .slice none 0 0, .string ⟨#[]⟩, .int .i64 0, .slice none 0 0, .slice none 0 0]) := tc4
  have x0 : w4.cell? ⟨w1.heap.size, 0, none⟩ = some (.int .u8 k1) := ta4.cell 0
  have x1 : w4.cell? ⟨w1.heap.size, 1, none⟩ = some (.bool neg1) := ta4.cell 1
  have x2 : w4.cell? ⟨w1.heap.size, 2, none⟩ = some (.slice a11 n11 c11) := ta4.cell 2
  have x3 : w4.cell? ⟨w1.heap.size, 3, none⟩ = some (.string s1) := ta4.cell 3
  have x4 : w4.cell? ⟨w1.heap.size, 4, none⟩ = some (.int .i64 num1) := ta4.cell 4
  have x5 : w4.cell? ⟨w1.heap.size, 5, none⟩ = some (.slice a12 n12 c12) := ta4.cell 5
  have x6 : w4.cell? ⟨w1.heap.size, 6, none⟩ = some (.slice a13 n13 c13) := ta4.cell 6
  have y0 : w4.cell? ⟨w1.heap.size + 1, 0, none⟩ = some (.int .u8 kq) := hT4.cell 0
  have z0 : w4.cell? ⟨w.heap.size, 0, none⟩ = some (.int .u8 0) := tc4.cell 0
  have z1 : w4.cell? ⟨w.heap.size, 1, none⟩ = some (.bool false) := tc4.cell 1
  have z2 : w4.cell? ⟨w.heap.size, 2, none⟩ = some (.slice none 0 0) := tc4.cell 2
  have z3 : w4.cell? ⟨w.heap.size, 3, none⟩ = some (.string ⟨#[]⟩) := tc4.cell 3
  have z4 : w4.cell? ⟨w.heap.size, 4, none⟩ = some (.int .i64 0) := tc4.cell 4
  have z5 : w4.cell? ⟨w.heap.size, 5, none⟩ = some (.slice none 0 0) := tc4.cell 5
  have z6 : w4.cell? ⟨w.heap.size, 6, none⟩ = some (.slice none 0 0) := tc4.cell 6
  have f0 : w4.frozen? ⟨w.heap.size, 0, none⟩ = false := tc4.free 0
  have f1 : w4.frozen? ⟨w.heap.size, 1, none⟩ = false := tc4.free 1
  have f2 : w4.frozen? ⟨w.heap.size, 2, none⟩ = false := tc4.free 2
  have f3 : w4.frozen? ⟨w.heap.size, 3, none⟩ = false := tc4.free 3
  have f4 : w4.frozen? ⟨w.heap.size, 4, none⟩ = false := tc4.free 4
  have f5 : w4.frozen? ⟨w.heap.size, 5, none⟩ = false := tc4.free 5
  have f6 : w4.frozen? ⟨w.heap.size, 6, none⟩ = false := tc4.free 6
  have hne1 : (w1.heap.size = w.heap.size) = False := eq_false (by have := HL1.out; omega)
  have hne2 : (w.heap.size = w1.heap.size) = False := eq_false (by have := HL1.out; omega)
  have hne3 : (w1.heap.size + 1 = w.heap.size) = False := eq_false (by have := HL1.out; omega)
  have hne4 : (w.heap.size = w1.heap.size + 1) = False := eq_false (by have := HL1.out; omega)
  have h7 := seven HTC.out (.int .u8 k1) (.bool neg1) (.slice a11 n11 c11) (.string s1) (.int .i64 num1) (.slice a12 n12 c12) (.slice a13 n13 c13)
  obtain ⟨W5, hW5⟩ : ∃ W5, W5 = ((((((w4.setCell ⟨w.heap.size, 0, none⟩ (.int .u8 k1)).setCell ⟨w.heap.size, 1, none⟩ (.bool neg1)).setCell ⟨w.heap.size, 2, none⟩ (.slice a11 n11 c11)).setCell ⟨w.heap.size, 3, none⟩ (.string s1)).setCell ⟨w.heap.size, 4, none⟩ (.int .i64 num1)).setCell ⟨w.heap.size, 5, none⟩ (.slice a12 n12 c12)).setCell ⟨w.heap.size, 6, none⟩ (.slice a13 n13 c13) := ⟨_, rfl⟩
  rw [← hW5] at h7
  have HE : Hid (InU 0 w.heap.size W5.drew d _ t) := InU.mono ((HIN.out.mono HU4.out (by have := HL1.out; omega)).step h7.2 (bx_zero (Nat.zero_le _) (by omega) HTC.out) (Nat.le_refl _) (by have := HL1.out; have := HU4.out.size; omega)) (Upd.refl [] W5).drew (by have := HL1.out; have := HU4.out.size; have := h7.2.size; omega)
  have HUE : Hid (Upd [] w W5.drew) := ((U1.out.trans HU4.out).then h7.2 (by simp)).drew
  have HT7 : Hid (Tb W5.drew w.heap.size _) := h7.1.mono (Upd.refl [] W5).drew (by simp)
  have HW5 : Hid (W5 = _) := hW5
  clear ta tb tc hU3 hU4 hT3 hT4 ta4 tc4 tb3 oner ones h7 HU2 U1 HU4 HIN HTZ HLT hW5
  cases ok with
  | false =>
    obtain rfl : r = false := by rw [← HRR.out]; rfl
    go_region
    all_goals
      rw [← HW5.out]
      show K1 _ _
      refine hK1 _ _ ?_
      go_wp2
      exact ret_Tb Tryz.results9 rfl _ _ _ rfl HT7.out rfl rfl ⟨_, t, rfl, rfl, HE.out, HP.out, HUE.out⟩
  | true =>
    obtain rfl : r = (kq == 0) := by rw [← HRR.out]; rfl
    go_region
    all_goals
      rw [← HW5.out]
      show K1 _ _
      refine hK1 _ _ ?_
      go_wp2
      exact ret_Tb Tryz.results9 rfl _ _ _ rfl HT7.out rfl rfl ⟨_, t, rfl, rfl, HE.out, HP.out, HUE.out⟩

end Go.Proofs.YtnpocmhaoaigfaaGreatDoor

/- BifWhole, walked. -/
namespace Go.Proofs.YtnpocmhaoaigfaaGreatDoor
open Go.RowKit

theorem lc_div {d D c : Nat} {t u : Tm} {x y : Int} (a : Option Addr) (w : World) (hBlt : Blt w) (hI : RowAt (In w d) w a [t, u]) (kx : IntT x t) (ky : IntT y u) (hy : y ≠ 0) :
    Calls Tryz.prog 9 #[.string ⟨#[100, 105, 118]⟩, .slice a 2 c] w (CalQ (D + 1) (IntT (x.tdiv y)) true w) :=
  lcall_in (Q := fun t => t = tmZ) (ok := true) (kq := 0) _ a w (fun t h => by subst h; rfl) (fun W hu => call_div a W (hBlt.mono hu) (hI.imp hu (fun cs t h => In.mono hu d cs t h)) kx ky hy) true rfl
theorem lc_rem {d D c : Nat} {t u : Tm} {x y : Int} (a : Option Addr) (w : World) (hBlt : Blt w) (hI : RowAt (In w d) w a [t, u]) (kx : IntT x t) (ky : IntT y u) (hy : y ≠ 0) :
    Calls Tryz.prog 9 #[.string ⟨#[114, 101, 109]⟩, .slice a 2 c] w (CalQ (D + 1) (IntT (x.tmod y)) true w) :=
  lcall_in (Q := fun t => t = tmZ) (ok := true) (kq := 0) _ a w (fun t h => by subst h; rfl) (fun W hu => call_rem a W (hBlt.mono hu) (hI.imp hu (fun cs t h => In.mono hu d cs t h)) kx ky hy) true rfl
theorem lc_mul {d D c : Nat} {t u : Tm} {x y : Int} (a : Option Addr) (w : World) (hBlt : Blt w) (hI : RowAt (In w d) w a [t, u]) (kx : IntT x t) (ky : IntT y u) (hfit : (x * y).natAbs < 4294967296 ^ 32) :
    Calls Tryz.prog 9 #[.string ⟨#[42]⟩, .slice a 2 c] w (CalQ (D + 1) (IntT (x * y)) true w) :=
  lcall_in (Q := fun t => t = tmZ) (ok := true) (kq := 0) _ a w (fun t h => by subst h; rfl) (fun W hu => call_mul a W (hBlt.mono hu) (hI.imp hu (fun cs t h => In.mono hu d cs t h)) kx ky hfit) true rfl
theorem lc_add {d D c : Nat} {t u : Tm} {x y : Int} (a : Option Addr) (w : World) (hBlt : Blt w) (hI : RowAt (In w d) w a [t, u]) (kx : IntT x t) (ky : IntT y u) (hfit : (x + y).natAbs < 4294967296 ^ 32) :
    Calls Tryz.prog 9 #[.string ⟨#[43]⟩, .slice a 2 c] w (CalQ (D + 1) (IntT (x + y)) true w) :=
  lcall_in (Q := fun t => t = tmZ) (ok := true) (kq := 0) _ a w (fun t h => by subst h; rfl) (fun W hu => call_add a W (hBlt.mono hu) (hI.imp hu (fun cs t h => In.mono hu d cs t h)) kx ky hfit) true rfl
theorem lc_div0 {d D c : Nat} {t u : Tm} {x : Int} (a : Option Addr) (w : World) (hBlt : Blt w) (hI : RowAt (In w d) w a [t, u]) (kx : IntT x t) (ky : IntT 0 u) :
    Calls Tryz.prog 9 #[.string ⟨#[100, 105, 118]⟩, .slice a 2 c] w (CalQ (D + 2) (fun t => t = tmZ) false w) :=
  lcall_in (Q := fun t => t = errT ⟨#[101, 114, 114, 111, 114]⟩ ⟨#[98, 97, 100, 97, 114, 105, 116, 104]⟩) (ok := true) (kq := 6) _ a w (fun t h => by subst h; rfl) (fun W hu => call_div0 a W (hBlt.mono hu) (hI.imp hu (fun cs t h => In.mono hu d cs t h)) kx ky) false rfl
theorem lc_rem0 {d D c : Nat} {t u : Tm} {x : Int} (a : Option Addr) (w : World) (hBlt : Blt w) (hI : RowAt (In w d) w a [t, u]) (kx : IntT x t) (ky : IntT 0 u) :
    Calls Tryz.prog 9 #[.string ⟨#[114, 101, 109]⟩, .slice a 2 c] w (CalQ (D + 2) (fun t => t = tmZ) false w) :=
  lcall_in (Q := fun t => t = errT ⟨#[101, 114, 114, 111, 114]⟩ ⟨#[98, 97, 100, 97, 114, 105, 116, 104]⟩) (ok := true) (kq := 6) _ a w (fun t h => by subst h; rfl) (fun W hu => call_rem0 a W (hBlt.mono hu) (hI.imp hu (fun cs t h => In.mono hu d cs t h)) kx ky) false rfl

theorem row_two' {w : World} {g d : Nat} {cs cs' : List Value} {t u : Tm} {xs : Array Value} (hx : xs.toList = cs ++ cs') (h : Tb w g xs) (ht : In w d cs t) (hu : In w d cs' u) : RowAt (In w d) w (some ⟨g, 0, none⟩) [t, u] := by
  obtain ⟨q0, q1, q2, q3, q4, q5, q6, rfl⟩ := list7 ht.len
  obtain ⟨p0, p1, p2, p3, p4, p5, p6, rfl⟩ := list7 hu.len
  have e : xs = #[q0, q1, q2, q3, q4, q5, q6, p0, p1, p2, p3, p4, p5, p6] := by
    have := congrArg List.toArray hx
    simpa using this
  subst e
  exact row_two h ht hu

set_option maxHeartbeats 8000000 in
set_option maxRecDepth 100000 in
theorem Whole_zero (w : World) (d : Nat) (cs0 cs1 : List Value) (t u : Tm) (x : Int) (hB : Blt w) (h0 : In w (d + 1) cs0 t) (h1 : In w (d + 1) cs1 u) (k0 : IntT x t) (k1 : IntT 0 u) :
    Calls Tryz.prog 4 #[.agg cs0.toArray, .agg cs1.toArray] w fun e w' => e = .returned (.bool true) ∧ Upd [] w w' := by
  obtain ⟨na, a, ai, at', ca, ci, ct, A, rfl, TA⟩ := h0.int' k0
  obtain ⟨nb, b, bi, bt, cb, cbi, cbt, B, rfl, TB⟩ := h1.int' k1
  have H0 : Hid (In w (d + 1) _ t) := h0
  have H1 : Hid (In w (d + 1) _ u) := h1
  have K : Hid (IntT x t ∧ IntT 0 u) := ⟨k0, k1⟩
  have HB : Hid (Blt w) := hB
  have RA : Hid (∀ W, Upd [] w W → Calls Tryz.prog 11 #[.agg #[.int .u8 1, .bool na, .slice a A.length ca, .string ⟨#[]⟩, .int .i64 0, .slice ai 0 ci, .slice at' 0 ct]] W fun e w' => e = .returned (.bool true) ∧ Upd [] W w') := fun W hu => (TA.mono hu).rightU ai at' ca ci ct
  have RB : Hid (∀ W, Upd [] w W → Calls Tryz.prog 11 #[.agg #[.int .u8 1, .bool nb, .slice b B.length cb, .string ⟨#[]⟩, .int .i64 0, .slice bi 0 cbi, .slice bt 0 cbt]] W fun e w' => e = .returned (.bool true) ∧ Upd [] W w') := fun W hu => (TB.mono hu).rightU bi bt cb cbi cbt
  have HNB : Hid (TI w nb b B 0) := TB
  have tA : Tb ((w.alloc (.cells #[.int .u8 1, .bool na, .slice a A.length ca, .string ⟨#[]⟩, .int .i64 0, .slice ai 0 ci, .slice at' 0 ct] 26)).alloc (.cells #[.int .u8 1, .bool nb, .slice b B.length cb, .string ⟨#[]⟩, .int .i64 0, .slice bi 0 cbi, .slice bt 0 cbt] 26)) w.heap.size #[.int .u8 1, .bool na, .slice a A.length ca, .string ⟨#[]⟩, .int .i64 0, .slice ai 0 ci, .slice at' 0 ct] := (Tb.new _ _ _ rfl).old _
  have tB : Tb ((w.alloc (.cells #[.int .u8 1, .bool na, .slice a A.length ca, .string ⟨#[]⟩, .int .i64 0, .slice ai 0 ci, .slice at' 0 ct] 26)).alloc (.cells #[.int .u8 1, .bool nb, .slice b B.length cb, .string ⟨#[]⟩, .int .i64 0, .slice bi 0 cbi, .slice bt 0 cbt] 26)) (w.heap.size + 1) #[.int .u8 1, .bool nb, .slice b B.length cb, .string ⟨#[]⟩, .int .i64 0, .slice bi 0 cbi, .slice bt 0 cbt] := Tb.new _ _ _ (by simp)
  have HU0 : Hid (Upd [] w ((w.alloc (.cells #[.int .u8 1, .bool na, .slice a A.length ca, .string ⟨#[]⟩, .int .i64 0, .slice ai 0 ci, .slice at' 0 ct] 26)).alloc (.cells #[.int .u8 1, .bool nb, .slice b B.length cb, .string ⟨#[]⟩, .int .i64 0, .slice bi 0 cbi, .slice bt 0 cbt] 26))) := ((Upd.refl [] w).alloc _).alloc _
  clear h0 h1 k0 k1 hB TA TB
  go_enter Tryz.func4, Tryz.ntmps4
  go_wp2_with fail
  refine Calls.mono (awake_any _ (HB.out.mono HU0.out)) ?_
  rintro e w1 ⟨rfl, v1⟩
  have U1 : Hid (Upd [] w w1) := HU0.out.trans v1
  have tA1 := tA.mono v1 (by simp)
  have tB1 := tB.mono v1 (by simp)
  clear v1 tA tB HU0
  go_wp2_with (first | (refine load_G _ _ rfl _ _ rfl tA1 rfl rfl ?_) | fail)
  refine Calls.mono (RA.out _ U1.out) ?_
  rintro e w2 ⟨rfl, v2⟩
  have U2 : Hid (Upd [] w w2) := U1.out.trans v2
  have tA2 := tA1.mono v2 (by simp)
  have tB2 := tB1.mono v2 (by simp)
  clear v2 tA1 tB1 U1 RA
  go_wp2_with (first | (refine load_G _ _ rfl _ _ rfl tB2 rfl rfl ?_) | fail)
  refine Calls.mono (RB.out _ U2.out) ?_
  rintro e w3 ⟨rfl, v3⟩
  have U3 : Hid (Upd [] w w3) := U2.out.trans v3
  have tA3 := tA2.mono v3 (by simp)
  have tB3 := tB2.mono v3 (by simp)
  clear v3 tA2 tB2 U2 RB
  go_wp2_with (first | (refine load_G _ _ rfl _ _ rfl tA3 rfl rfl ?_) | (refine load_G _ _ rfl _ _ rfl tB3 rfl rfl ?_) | fail)
  refine Calls.mono (lc_div0 (D := 0) (some ⟨w3.heap.size, 0, none⟩) (w3.alloc (.cells #[.int .u8 1, .bool na, .slice a A.length ca, .string ⟨#[]⟩, .int .i64 0, .slice ai 0 ci, .slice at' 0 ct, .int .u8 1, .bool nb, .slice b B.length cb, .string ⟨#[]⟩, .int .i64 0, .slice bi 0 cbi, .slice bt 0 cbt] 26)) (HB.out.mono (U3.out.alloc _)) (row_two (Tb.new _ _ _ rfl) (In.mono (U3.out.alloc _) _ _ _ H0.out) (In.mono (U3.out.alloc _) _ _ _ H1.out)) K.out.1 K.out.2) ?_
  rintro e w4 ⟨cs, v, l4, rfl, hv, _, v4⟩
  have o4 := hv.plain.one
  obtain ⟨q0, q1, q2, q3, q4, q5, q6, rfl⟩ := list7 l4
  have V4 : Upd [] w3 w4 := Upd.trans ((Upd.refl [] w3).alloc _) v4
  have U4 : Hid (Upd [] w w4) := U3.out.trans V4
  have tA4 := tA3.mono V4 (by simp)
  have tB4 := tB3.mono V4 (by simp)
  have tz4 : Tb (w4.alloc (.cells #[.int .u8 0, .bool false, .slice none 0 0, .string ⟨#[]⟩, .int .i64 0, .slice none 0 0, .slice none 0 0] 26)) w4.heap.size #[.int .u8 0, .bool false, .slice none 0 0, .string ⟨#[]⟩, .int .i64 0, .slice none 0 0, .slice none 0 0] := Tb.new _ _ _ rfl
  have HL4 : Hid (w.heap.size + 1 < w4.heap.size) := Tb.lt tB4
  clear v4 V4 hv tA3 tB3 U3 l4
  go_wp2_with (first | (refine store_T _ rfl _ _ rfl _ #[q0, q1, q2, q3, q4, q5, q6] _ rfl rfl tz4 rfl rfl o4 ?_; intro w5 hT5 hU5; have tA5 : Tb w5 w.heap.size #[.int .u8 1, .bool na, .slice a A.length ca, .string ⟨#[]⟩, .int .i64 0, .slice ai 0 ci, .slice at' 0 ct] := (tA4.old _).mono hU5 (by have := HL4.out; simp; omega); have tB5 : Tb w5 (w.heap.size + 1) #[.int .u8 1, .bool nb, .slice b B.length cb, .string ⟨#[]⟩, .int .i64 0, .slice bi 0 cbi, .slice bt 0 cbt] := (tB4.old _).mono hU5 (by have := HL4.out; simp; omega); have U5 : Hid (Upd [] w w5) := (U4.out.alloc _).then hU5 (by have := HL4.out; simp; omega); clear hU5 tA4 tB4 tz4) | (refine load_G _ _ rfl _ _ rfl tA5 rfl rfl ?_) | (refine load_G _ _ rfl _ _ rfl tB5 rfl rfl ?_) | fail)
  refine Calls.mono (lc_rem0 (D := 0) (some ⟨w5.heap.size, 0, none⟩) (w5.alloc (.cells #[.int .u8 1, .bool na, .slice a A.length ca, .string ⟨#[]⟩, .int .i64 0, .slice ai 0 ci, .slice at' 0 ct, .int .u8 1, .bool nb, .slice b B.length cb, .string ⟨#[]⟩, .int .i64 0, .slice bi 0 cbi, .slice bt 0 cbt] 26)) (HB.out.mono (U5.out.alloc _)) (row_two (Tb.new _ _ _ rfl) (In.mono (U5.out.alloc _) _ _ _ H0.out) (In.mono (U5.out.alloc _) _ _ _ H1.out)) K.out.1 K.out.2) ?_
  rintro e w6 ⟨cs, v', l6, rfl, hv, _, v6⟩
  have o6 := hv.plain.one
  obtain ⟨p0, p1, p2, p3, p4, p5, p6, rfl⟩ := list7 l6
  have V6 : Upd [] w5 w6 := Upd.trans ((Upd.refl [] w5).alloc _) v6
  have U6 : Hid (Upd [] w w6) := U5.out.trans V6
  have tB6 := tB5.mono V6 (by simp)
  have tz6 : Tb (w6.alloc (.cells #[.int .u8 0, .bool false, .slice none 0 0, .string ⟨#[]⟩, .int .i64 0, .slice none 0 0, .slice none 0 0] 26)) w6.heap.size #[.int .u8 0, .bool false, .slice none 0 0, .string ⟨#[]⟩, .int .i64 0, .slice none 0 0, .slice none 0 0] := Tb.new _ _ _ rfl
  have HL6 : Hid (w.heap.size + 1 < w6.heap.size) := Tb.lt tB6
  have hBl : B.length = 0 := by
    have := HNB.out.norm.nil_iff.2 rfl
    rw [this]; rfl
  clear v6 V6 hv tA5 tB5 U5 l6 hT5
  rw [hBl] at tB6 ⊢
  go_wp2_with (first | (refine store_T _ rfl _ _ rfl _ #[p0, p1, p2, p3, p4, p5, p6] _ rfl rfl tz6 rfl rfl o6 ?_; intro w7 hT7 hU7; have x7 : w7.cell? ⟨w.heap.size + 1, 2, none⟩ = some (.slice b 0 cb) := Tb.cell ((tB6.old _).mono hU7 (by have := HL6.out; simp; omega)) 2; have U7 : Hid (Upd [] w w7) := (U6.out.alloc _).then hU7 (by have := HL6.out; simp; omega); clear hU7) | fail)
  go_ret
  exact ⟨rfl, U7.out⟩

end Go.Proofs.YtnpocmhaoaigfaaGreatDoor
