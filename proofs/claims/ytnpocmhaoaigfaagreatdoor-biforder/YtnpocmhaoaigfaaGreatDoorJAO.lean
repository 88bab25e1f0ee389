/- made of package bif, of two terms. -/
import Derived.Test.YtnpocmhaoaigfaaGreatDoorJAK
import Derived.Deep.RegionHeld3
import Derived.Test.YtnpocmhaoaigfaaGreatDoorOrdD

namespace Go.Proofs.YtnpocmhaoaigfaaGreatDoor
open Go.RowKit

theorem In.shape {w : World} {d : Nat} {cs : List Value} {t : Tm} (h : In w d cs t) : ∃ (k num : Int) (neg : Bool) (s : ByteArray) (a1 a2 a3 : Option Addr) (n1 n2 n3 c1 c2 c3 : Nat), cs = [.int .u8 k, .bool neg, .slice a1 n1 c1, .string s, .int .i64 num, .slice a2 n2 c2, .slice a3 n3 c3] := by
  cases d with
  | zero => exact h.elim
  | succ d =>
    cases t with
    | mk k num neg L s I T =>
      obtain ⟨a, ai, at', c, ci, ct, rfl, _⟩ := h
      exact ⟨_, _, _, _, _, _, _, _, _, _, _, _, _, rfl⟩
theorem row_cells {w : World} {d : Nat} {a : Option Addr} {t u : Tm} (h : RowAt (In w d) w a [t, u]) : ∃ (b o : Nat) (q0 q1 q2 q3 q4 q5 q6 p0 p1 p2 p3 p4 p5 p6 : Value), a = some ⟨b, o, none⟩ ∧ b < w.heap.size ∧
    In w d [q0, q1, q2, q3, q4, q5, q6] t ∧ In w d [p0, p1, p2, p3, p4, p5, p6] u ∧
    (w.cell? ⟨b, o, none⟩ = some q0 ∧ w.cell? ⟨b, o + 1, none⟩ = some q1 ∧ w.cell? ⟨b, o + 2, none⟩ = some q2 ∧ w.cell? ⟨b, o + 3, none⟩ = some q3 ∧ w.cell? ⟨b, o + 4, none⟩ = some q4 ∧ w.cell? ⟨b, o + 5, none⟩ = some q5 ∧ w.cell? ⟨b, o + 6, none⟩ = some q6) ∧
    (w.cell? ⟨b, o + 7, none⟩ = some p0 ∧ w.cell? ⟨b, o + 7 + 1, none⟩ = some p1 ∧ w.cell? ⟨b, o + 7 + 2, none⟩ = some p2 ∧ w.cell? ⟨b, o + 7 + 3, none⟩ = some p3 ∧ w.cell? ⟨b, o + 7 + 4, none⟩ = some p4 ∧ w.cell? ⟨b, o + 7 + 5, none⟩ = some p5 ∧ w.cell? ⟨b, o + 7 + 6, none⟩ = some p6) := by
  rcases h with h | ⟨b, o, rfl, hb, hc⟩
  · cases h
  obtain ⟨cs, h7, hcell, hin⟩ := hc 0 (by simp)
  obtain ⟨cs', h7', hcell', hin'⟩ := hc 1 (by simp)
  obtain ⟨q0, q1, q2, q3, q4, q5, q6, rfl⟩ := list7 h7
  obtain ⟨p0, p1, p2, p3, p4, p5, p6, rfl⟩ := list7 h7'
  refine ⟨b, o, q0, q1, q2, q3, q4, q5, q6, p0, p1, p2, p3, p4, p5, p6, rfl, hb, hin, hin', ⟨?_, ?_, ?_, ?_, ?_, ?_, ?_⟩, ⟨?_, ?_, ?_, ?_, ?_, ?_, ?_⟩⟩
  · exact hcell 0 (by omega)
  · exact hcell 1 (by omega)
  · exact hcell 2 (by omega)
  · exact hcell 3 (by omega)
  · exact hcell 4 (by omega)
  · exact hcell 5 (by omega)
  · exact hcell 6 (by omega)
  · exact hcell' 0 (by omega)
  · exact hcell' 1 (by omega)
  · exact hcell' 2 (by omega)
  · exact hcell' 3 (by omega)
  · exact hcell' 4 (by omega)
  · exact hcell' 5 (by omega)
  · exact hcell' 6 (by omega)

set_option maxHeartbeats 4000000 in
set_option maxRecDepth 100000 in
theorem made_two {B d D : Nat} {t u : Tm} {P : Tm → Prop} {why : ByteArray} (s : ByteArray) (a : Option Addr) (c : Nat) (w : World) (hI : RowAt (In w d) w a [t, u]) (hB : B ≤ w.heap.size)
    (hF : ∀ (cs cs' : List Value) (W : World), Upd [] w W → In W d cs t → In W d cs' u → Calls Tryz.prog 48 #[.string s, .agg cs.toArray, .agg cs'.toArray] W (MadeQ B D P why W)) :
    Calls Tryz.prog 26 #[.string s, .slice a 2 c] w (MadeQ B D P why w) := by
  obtain ⟨b, o, q0, q1, q2, q3, q4, q5, q6, p0, p1, p2, p3, p4, p5, p6, rfl, hb, hin, hin', ⟨x0, x1, x2, x3, x4, x5, x6⟩, ⟨y0, y1, y2, y3, y4, y5, y6⟩⟩ := row_cells hI
  have HF : Hid (∀ (W : World), Upd [] w W → Calls Tryz.prog 48 #[.string s, .agg #[q0, q1, q2, q3, q4, q5, q6], .agg #[p0, p1, p2, p3, p4, p5, p6]] W (MadeQ B D P why W)) := fun W hu => hF _ _ W hu (In.mono hu _ _ _ hin) (In.mono hu _ _ _ hin')
  have HS : Hid (∀ w', Upd [] w w' → w'.cell? ⟨b, o, none⟩ = some q0 ∧ w'.cell? ⟨b, o + 1, none⟩ = some q1 ∧ w'.cell? ⟨b, o + 2, none⟩ = some q2 ∧ w'.cell? ⟨b, o + 3, none⟩ = some q3 ∧ w'.cell? ⟨b, o + 4, none⟩ = some q4 ∧ w'.cell? ⟨b, o + 5, none⟩ = some q5 ∧ w'.cell? ⟨b, o + 6, none⟩ = some q6 ∧ w'.cell? ⟨b, o + 7, none⟩ = some p0 ∧ w'.cell? ⟨b, o + 7 + 1, none⟩ = some p1 ∧ w'.cell? ⟨b, o + 7 + 2, none⟩ = some p2 ∧ w'.cell? ⟨b, o + 7 + 3, none⟩ = some p3 ∧ w'.cell? ⟨b, o + 7 + 4, none⟩ = some p4 ∧ w'.cell? ⟨b, o + 7 + 5, none⟩ = some p5 ∧ w'.cell? ⟨b, o + 7 + 6, none⟩ = some p6) := fun w' hu => ⟨(hu.cell (p := ⟨b, o, none⟩) hb (by simp)).trans x0, (hu.cell (p := ⟨b, o + 1, none⟩) hb (by simp)).trans x1, (hu.cell (p := ⟨b, o + 2, none⟩) hb (by simp)).trans x2, (hu.cell (p := ⟨b, o + 3, none⟩) hb (by simp)).trans x3, (hu.cell (p := ⟨b, o + 4, none⟩) hb (by simp)).trans x4, (hu.cell (p := ⟨b, o + 5, none⟩) hb (by simp)).trans x5, (hu.cell (p := ⟨b, o + 6, none⟩) hb (by simp)).trans x6, (hu.cell (p := ⟨b, o + 7, none⟩) hb (by simp)).trans y0, (hu.cell (p := ⟨b, o + 7 + 1, none⟩) hb (by simp)).trans y1, (hu.cell (p := ⟨b, o + 7 + 2, none⟩) hb (by simp)).trans y2, (hu.cell (p := ⟨b, o + 7 + 3, none⟩) hb (by simp)).trans y3, (hu.cell (p := ⟨b, o + 7 + 4, none⟩) hb (by simp)).trans y4, (hu.cell (p := ⟨b, o + 7 + 5, none⟩) hb (by simp)).trans y5, (hu.cell (p := ⟨b, o + 7 + 6, none⟩) hb (by simp)).trans y6⟩
  have HU0 : Hid (Upd [] w (w.alloc (.cells #[.int .u8 0, .bool false, .slice none 0 0, .string ⟨#[]⟩, .int .i64 0, .slice none 0 0, .slice none 0 0] 26))) := (Upd.refl [] w).alloc _
  have HTZ : Hid (Tb (w.alloc (.cells #[.int .u8 0, .bool false, .slice none 0 0, .string ⟨#[]⟩, .int .i64 0, .slice none 0 0, .slice none 0 0] 26)) w.heap.size #[.int .u8 0, .bool false, .slice none 0 0, .string ⟨#[]⟩, .int .i64 0, .slice none 0 0, .slice none 0 0]) := Tb.new _ _ _ rfl
  have HBL : Hid (B ≤ w.heap.size) := hB
  obtain ⟨u0, u1, u2, u3, u4, u5, u6, u7, u8, u9, u10, u11, u12, u13⟩ := HS.out _ HU0.out
  clear hF hI hin hin' hB x0 x1 x2 x3 x4 x5 x6 y0 y1 y2 y3 y4 y5 y6
  have hne1 : (b = w.heap.size) = False := eq_false (by omega)
  have hne2 : (w.heap.size = b) = False := eq_false (by omega)
  go_enter Tryz.func26, Tryz.ntmps26
  go_wp2_with fail
  rename_i K1 hK1
  go_region_held3 (fun w' => w'.cell? ⟨b, o, none⟩ = some q0 ∧ w'.cell? ⟨b, o + 1, none⟩ = some q1 ∧ w'.cell? ⟨b, o + 2, none⟩ = some q2 ∧ w'.cell? ⟨b, o + 3, none⟩ = some q3 ∧ w'.cell? ⟨b, o + 4, none⟩ = some q4 ∧ w'.cell? ⟨b, o + 5, none⟩ = some q5 ∧ w'.cell? ⟨b, o + 6, none⟩ = some q6 ∧ w'.cell? ⟨b, o + 7, none⟩ = some p0 ∧ w'.cell? ⟨b, o + 7 + 1, none⟩ = some p1 ∧ w'.cell? ⟨b, o + 7 + 2, none⟩ = some p2 ∧ w'.cell? ⟨b, o + 7 + 3, none⟩ = some p3 ∧ w'.cell? ⟨b, o + 7 + 4, none⟩ = some p4 ∧ w'.cell? ⟨b, o + 7 + 5, none⟩ = some p5 ∧ w'.cell? ⟨b, o + 7 + 6, none⟩ = some p6)
    (first | go_keep | exact HS.out _ (HU0.out.drew))
    (first
      | (go_at_call 48; go_loud (refine Calls.mono (HF.out _ (by repeat (first | exact Upd.refl _ _ | refine Upd.drew ?_ | refine Upd.alloc ?_ _))) ?_); rintro e w3 ⟨cs3, t3, h73, rfl, hin3, hP3, hU3⟩; obtain ⟨k3, num3, neg3, s3, a31, a32, a33, n31, n32, n33, c31, c32, c33, rfl⟩ := In.shape hin3.plain; have HU3 : Hid (Upd [] (w.alloc (.cells #[.int .u8 0, .bool false, .slice none 0 0, .string ⟨#[]⟩, .int .i64 0, .slice none 0 0, .slice none 0 0] 26)) w3) := Upd.trans (by repeat (first | exact Upd.refl _ _ | refine Upd.drew ?_)) hU3; have HT3 : Hid (Tb w3 w.heap.size #[.int .u8 0, .bool false, .slice none 0 0, .string ⟨#[]⟩, .int .i64 0, .slice none 0 0, .slice none 0 0]) := Tb.mono HTZ.out HU3.out (by simp); have HIN3 : Hid (InU B (w.heap.size + 1) w3 D [.int .u8 k3, .bool neg3, .slice a31 n31 c31, .string s3, .int .i64 num3, .slice a32 n32 c32, .slice a33 n33 c33] t3) := hin3.less (Nat.le_refl _) (by simp); have HP3 : Hid (P t3) := hP3; obtain ⟨sc0, sc1, sc2, sc3, sc4, sc5, sc6, sc7, sc8, sc9, sc10, sc11, sc12, sc13⟩ := HS.out w3 (HU0.out.trans HU3.out); have z0 : w3.cell? ⟨w.heap.size, 0, none⟩ = some (.int .u8 0) := Tb.cell HT3.out 0; have f0 : w3.frozen? ⟨w.heap.size, 0, none⟩ = false := Tb.free HT3.out 0; have z1 : w3.cell? ⟨w.heap.size, 1, none⟩ = some (.bool false) := Tb.cell HT3.out 1; have f1 : w3.frozen? ⟨w.heap.size, 1, none⟩ = false := Tb.free HT3.out 1; have z2 : w3.cell? ⟨w.heap.size, 2, none⟩ = some (.slice none 0 0) := Tb.cell HT3.out 2; have f2 : w3.frozen? ⟨w.heap.size, 2, none⟩ = false := Tb.free HT3.out 2; have z3 : w3.cell? ⟨w.heap.size, 3, none⟩ = some (.string ⟨#[]⟩) := Tb.cell HT3.out 3; have f3 : w3.frozen? ⟨w.heap.size, 3, none⟩ = false := Tb.free HT3.out 3; have z4 : w3.cell? ⟨w.heap.size, 4, none⟩ = some (.int .i64 0) := Tb.cell HT3.out 4; have f4 : w3.frozen? ⟨w.heap.size, 4, none⟩ = false := Tb.free HT3.out 4; have z5 : w3.cell? ⟨w.heap.size, 5, none⟩ = some (.slice none 0 0) := Tb.cell HT3.out 5; have f5 : w3.frozen? ⟨w.heap.size, 5, none⟩ = false := Tb.free HT3.out 5; have z6 : w3.cell? ⟨w.heap.size, 6, none⟩ = some (.slice none 0 0) := Tb.cell HT3.out 6; have f6 : w3.frozen? ⟨w.heap.size, 6, none⟩ = false := Tb.free HT3.out 6; clear hU3 hin3 hP3 h73))
  all_goals
    have h7 := seven HT3.out (.int .u8 k3) (.bool neg3) (.slice a31 n31 c31) (.string s3) (.int .i64 num3) (.slice a32 n32 c32) (.slice a33 n33 c33)
    show K1 _ _
    refine hK1 _ _ ?_
    go_wp2
    exact ret_Tb Tryz.results26 rfl _ _ _ rfl h7.1 rfl rfl ⟨_, t3, rfl, rfl, HIN3.out.step h7.2 (bx_zero HBL.out (by omega) HT3.out) (Nat.le_refl _) (Nat.succ_le_of_lt (Tb.lt HT3.out)), HP3.out, (HU0.out.trans HU3.out).then h7.2 (by simp)⟩
end Go.Proofs.YtnpocmhaoaigfaaGreatDoor

/- ofTwo of package bif, by what the name says. -/
namespace Go.Proofs.YtnpocmhaoaigfaaGreatDoor
open Go.RowKit

set_option maxHeartbeats 2000000 in
set_option maxRecDepth 100000 in
theorem ofTwo_add {B d D : Nat} {t u : Tm} {P : Tm → Prop} {why : ByteArray} (s : ByteArray) (cs0 cs1 : List Value) (w : World) (h0 : In w d cs0 t) (h1 : In w d cs1 u) (hB : B ≤ w.heap.size) (hF : ∀ (cs cs' : List Value) (W : World), Upd [] w W → In W d cs t → In W d cs' u → Calls Tryz.prog 67 #[.string s, .agg cs.toArray, .agg cs'.toArray] W (MadeQ B D P why W)) (e1 : (s.toList == [43]) = true) :
    Calls Tryz.prog 48 #[.string s, .agg cs0.toArray, .agg cs1.toArray] w (MadeQ B D P why w) := by
  have lh0 : cs0.length = 7 := h0.len
  have lh1 : cs1.length = 7 := h1.len
  obtain ⟨q0, q1, q2, q3, q4, q5, q6, rfl⟩ := list7 lh0
  obtain ⟨p0, p1, p2, p3, p4, p5, p6, rfl⟩ := list7 lh1
  have tA : Tb (((w.alloc (.cells #[q0, q1, q2, q3, q4, q5, q6] 26)).alloc (.cells #[p0, p1, p2, p3, p4, p5, p6] 26)).alloc (.cells #[.int .u8 0, .bool false, .slice none 0 0, .string ⟨#[]⟩, .int .i64 0, .slice none 0 0, .slice none 0 0] 26)) w.heap.size #[q0, q1, q2, q3, q4, q5, q6] := ((Tb.new _ _ _ rfl).old _).old _
  have tB : Tb (((w.alloc (.cells #[q0, q1, q2, q3, q4, q5, q6] 26)).alloc (.cells #[p0, p1, p2, p3, p4, p5, p6] 26)).alloc (.cells #[.int .u8 0, .bool false, .slice none 0 0, .string ⟨#[]⟩, .int .i64 0, .slice none 0 0, .slice none 0 0] 26)) (w.heap.size + 1) #[p0, p1, p2, p3, p4, p5, p6] := (Tb.new _ _ _ (by simp)).old _
  have tZ : Tb (((w.alloc (.cells #[q0, q1, q2, q3, q4, q5, q6] 26)).alloc (.cells #[p0, p1, p2, p3, p4, p5, p6] 26)).alloc (.cells #[.int .u8 0, .bool false, .slice none 0 0, .string ⟨#[]⟩, .int .i64 0, .slice none 0 0, .slice none 0 0] 26)) (w.heap.size + 1 + 1) #[.int .u8 0, .bool false, .slice none 0 0, .string ⟨#[]⟩, .int .i64 0, .slice none 0 0, .slice none 0 0] := Tb.new _ _ _ (by simp)
  have HU0 : Hid (Upd [] w (((w.alloc (.cells #[q0, q1, q2, q3, q4, q5, q6] 26)).alloc (.cells #[p0, p1, p2, p3, p4, p5, p6] 26)).alloc (.cells #[.int .u8 0, .bool false, .slice none 0 0, .string ⟨#[]⟩, .int .i64 0, .slice none 0 0, .slice none 0 0] 26))) := (((Upd.refl [] w).alloc _).alloc _).alloc _
  have HBL : Hid (B ≤ w.heap.size) := hB
  have HTZ : Hid (Tb (((w.alloc (.cells #[q0, q1, q2, q3, q4, q5, q6] 26)).alloc (.cells #[p0, p1, p2, p3, p4, p5, p6] 26)).alloc (.cells #[.int .u8 0, .bool false, .slice none 0 0, .string ⟨#[]⟩, .int .i64 0, .slice none 0 0, .slice none 0 0] 26)) (w.heap.size + 1 + 1) #[.int .u8 0, .bool false, .slice none 0 0, .string ⟨#[]⟩, .int .i64 0, .slice none 0 0, .slice none 0 0]) := tZ
  have H0 : Hid (In w d [q0, q1, q2, q3, q4, q5, q6] t) := h0
  have H1 : Hid (In w d [p0, p1, p2, p3, p4, p5, p6] u) := h1
  have HF : Hid (∀ (W : World), Upd [] w W → Calls Tryz.prog 67 #[.string s, .agg #[q0, q1, q2, q3, q4, q5, q6], .agg #[p0, p1, p2, p3, p4, p5, p6]] W (MadeQ B D P why W)) := fun W hu => hF _ _ W hu (In.mono hu _ _ _ h0) (In.mono hu _ _ _ h1)
  clear hF h0 h1 hB lh0 lh1
  go_enter Tryz.func48, Tryz.ntmps48
  go_wp2_with (first | (refine load_T _ rfl _ rfl _ _ rfl tA rfl ?_) | (refine load_T _ rfl _ rfl _ _ rfl tB rfl ?_) | fail)
  refine Calls.mono (HF.out _ HU0.out) ?_
  rintro e w1 ⟨cs, q, h7, rfl, hin, hP, hu1⟩
  have hone := hin.plain.one
  obtain ⟨r0, r1, r2, r3, r4, r5, r6, rfl⟩ := list7 h7
  have tZ1 := tZ.mono hu1 (by simp)
  have HTZ1 : Hid (Tb w1 (w.heap.size + 1 + 1) #[.int .u8 0, .bool false, .slice none 0 0, .string ⟨#[]⟩, .int .i64 0, .slice none 0 0, .slice none 0 0]) := tZ1
  have HIN : Hid (InU B (w.heap.size + 1 + 1 + 1) w1 D [r0, r1, r2, r3, r4, r5, r6] q) := hin.less (Nat.le_refl _) (by simp)
  have HP : Hid (P q) := hP
  have U1 : Hid (Upd [] w w1) := HU0.out.trans hu1
  clear hu1 hin hP tA tB tZ HU0
  go_wp2_with (refine store_T _ rfl _ _ rfl _ #[r0, r1, r2, r3, r4, r5, r6] _ rfl rfl tZ1 rfl rfl hone ?_; intro w2 hT2 hU2)
  exact ret_Tb Tryz.results48 rfl _ _ _ rfl hT2 rfl rfl ⟨_, q, rfl, rfl, HIN.out.step hU2 (bx_zero (Nat.le_trans HBL.out (by omega)) (by omega) HTZ1.out) (by omega) (Nat.succ_le_of_lt (Tb.lt HTZ1.out)), HP.out, U1.out.then hU2 (by simp; omega)⟩

set_option maxHeartbeats 2000000 in
set_option maxRecDepth 100000 in
theorem ofTwo_mul {B d D : Nat} {t u : Tm} {P : Tm → Prop} {why : ByteArray} (s : ByteArray) (cs0 cs1 : List Value) (w : World) (h0 : In w d cs0 t) (h1 : In w d cs1 u) (hB : B ≤ w.heap.size) (hF : ∀ (cs cs' : List Value) (W : World), Upd [] w W → In W d cs t → In W d cs' u → Calls Tryz.prog 67 #[.string s, .agg cs.toArray, .agg cs'.toArray] W (MadeQ B D P why W)) (e1 : (s.toList == [43]) = false) (e2 : (s.toList == [45]) = false) (e3 : (s.toList == [42]) = true) :
    Calls Tryz.prog 48 #[.string s, .agg cs0.toArray, .agg cs1.toArray] w (MadeQ B D P why w) := by
  have lh0 : cs0.length = 7 := h0.len
  have lh1 : cs1.length = 7 := h1.len
  obtain ⟨q0, q1, q2, q3, q4, q5, q6, rfl⟩ := list7 lh0
  obtain ⟨p0, p1, p2, p3, p4, p5, p6, rfl⟩ := list7 lh1
  have tA : Tb (((w.alloc (.cells #[q0, q1, q2, q3, q4, q5, q6] 26)).alloc (.cells #[p0, p1, p2, p3, p4, p5, p6] 26)).alloc (.cells #[.int .u8 0, .bool false, .slice none 0 0, .string ⟨#[]⟩, .int .i64 0, .slice none 0 0, .slice none 0 0] 26)) w.heap.size #[q0, q1, q2, q3, q4, q5, q6] := ((Tb.new _ _ _ rfl).old _).old _
  have tB : Tb (((w.alloc (.cells #[q0, q1, q2, q3, q4, q5, q6] 26)).alloc (.cells #[p0, p1, p2, p3, p4, p5, p6] 26)).alloc (.cells #[.int .u8 0, .bool false, .slice none 0 0, .string ⟨#[]⟩, .int .i64 0, .slice none 0 0, .slice none 0 0] 26)) (w.heap.size + 1) #[p0, p1, p2, p3, p4, p5, p6] := (Tb.new _ _ _ (by simp)).old _
  have tZ : Tb (((w.alloc (.cells #[q0, q1, q2, q3, q4, q5, q6] 26)).alloc (.cells #[p0, p1, p2, p3, p4, p5, p6] 26)).alloc (.cells #[.int .u8 0, .bool false, .slice none 0 0, .string ⟨#[]⟩, .int .i64 0, .slice none 0 0, .slice none 0 0] 26)) (w.heap.size + 1 + 1) #[.int .u8 0, .bool false, .slice none 0 0, .string ⟨#[]⟩, .int .i64 0, .slice none 0 0, .slice none 0 0] := Tb.new _ _ _ (by simp)
  have HU0 : Hid (Upd [] w (((w.alloc (.cells #[q0, q1, q2, q3, q4, q5, q6] 26)).alloc (.cells #[p0, p1, p2, p3, p4, p5, p6] 26)).alloc (.cells #[.int .u8 0, .bool false, .slice none 0 0, .string ⟨#[]⟩, .int .i64 0, .slice none 0 0, .slice none 0 0] 26))) := (((Upd.refl [] w).alloc _).alloc _).alloc _
  have HBL : Hid (B ≤ w.heap.size) := hB
  have HTZ : Hid (Tb (((w.alloc (.cells #[q0, q1, q2, q3, q4, q5, q6] 26)).alloc (.cells #[p0, p1, p2, p3, p4, p5, p6] 26)).alloc (.cells #[.int .u8 0, .bool false, .slice none 0 0, .string ⟨#[]⟩, .int .i64 0, .slice none 0 0, .slice none 0 0] 26)) (w.heap.size + 1 + 1) #[.int .u8 0, .bool false, .slice none 0 0, .string ⟨#[]⟩, .int .i64 0, .slice none 0 0, .slice none 0 0]) := tZ
  have H0 : Hid (In w d [q0, q1, q2, q3, q4, q5, q6] t) := h0
  have H1 : Hid (In w d [p0, p1, p2, p3, p4, p5, p6] u) := h1
  have HF : Hid (∀ (W : World), Upd [] w W → Calls Tryz.prog 67 #[.string s, .agg #[q0, q1, q2, q3, q4, q5, q6], .agg #[p0, p1, p2, p3, p4, p5, p6]] W (MadeQ B D P why W)) := fun W hu => hF _ _ W hu (In.mono hu _ _ _ h0) (In.mono hu _ _ _ h1)
  clear hF h0 h1 hB lh0 lh1
  go_enter Tryz.func48, Tryz.ntmps48
  go_wp2_with (first | (refine load_T _ rfl _ rfl _ _ rfl tA rfl ?_) | (refine load_T _ rfl _ rfl _ _ rfl tB rfl ?_) | fail)
  refine Calls.mono (HF.out _ HU0.out) ?_
  rintro e w1 ⟨cs, q, h7, rfl, hin, hP, hu1⟩
  have hone := hin.plain.one
  obtain ⟨r0, r1, r2, r3, r4, r5, r6, rfl⟩ := list7 h7
  have tZ1 := tZ.mono hu1 (by simp)
  have HTZ1 : Hid (Tb w1 (w.heap.size + 1 + 1) #[.int .u8 0, .bool false, .slice none 0 0, .string ⟨#[]⟩, .int .i64 0, .slice none 0 0, .slice none 0 0]) := tZ1
  have HIN : Hid (InU B (w.heap.size + 1 + 1 + 1) w1 D [r0, r1, r2, r3, r4, r5, r6] q) := hin.less (Nat.le_refl _) (by simp)
  have HP : Hid (P q) := hP
  have U1 : Hid (Upd [] w w1) := HU0.out.trans hu1
  clear hu1 hin hP tA tB tZ HU0
  go_wp2_with (refine store_T _ rfl _ _ rfl _ #[r0, r1, r2, r3, r4, r5, r6] _ rfl rfl tZ1 rfl rfl hone ?_; intro w2 hT2 hU2)
  exact ret_Tb Tryz.results48 rfl _ _ _ rfl hT2 rfl rfl ⟨_, q, rfl, rfl, HIN.out.step hU2 (bx_zero (Nat.le_trans HBL.out (by omega)) (by omega) HTZ1.out) (by omega) (Nat.succ_le_of_lt (Tb.lt HTZ1.out)), HP.out, U1.out.then hU2 (by simp; omega)⟩

set_option maxHeartbeats 2000000 in
set_option maxRecDepth 100000 in
theorem ofTwo_div {B d D : Nat} {t u : Tm} {P : Tm → Prop} {why : ByteArray} (s : ByteArray) (cs0 cs1 : List Value) (w : World) (h0 : In w d cs0 t) (h1 : In w d cs1 u) (hB : B ≤ w.heap.size) (hF : ∀ (cs cs' : List Value) (W : World), Upd [] w W → In W d cs t → In W d cs' u → Calls Tryz.prog 67 #[.string s, .agg cs.toArray, .agg cs'.toArray] W (MadeQ B D P why W)) (e1 : (s.toList == [43]) = false) (e2 : (s.toList == [45]) = false) (e3 : (s.toList == [42]) = false) (e4 : (s.toList == [100, 105, 118]) = true) :
    Calls Tryz.prog 48 #[.string s, .agg cs0.toArray, .agg cs1.toArray] w (MadeQ B D P why w) := by
  have lh0 : cs0.length = 7 := h0.len
  have lh1 : cs1.length = 7 := h1.len
  obtain ⟨q0, q1, q2, q3, q4, q5, q6, rfl⟩ := list7 lh0
  obtain ⟨p0, p1, p2, p3, p4, p5, p6, rfl⟩ := list7 lh1
  have tA : Tb (((w.alloc (.cells #[q0, q1, q2, q3, q4, q5, q6] 26)).alloc (.cells #[p0, p1, p2, p3, p4, p5, p6] 26)).alloc (.cells #[.int .u8 0, .bool false, .slice none 0 0, .string ⟨#[]⟩, .int .i64 0, .slice none 0 0, .slice none 0 0] 26)) w.heap.size #[q0, q1, q2, q3, q4, q5, q6] := ((Tb.new _ _ _ rfl).old _).old _
  have tB : Tb (((w.alloc (.cells #[q0, q1, q2, q3, q4, q5, q6] 26)).alloc (.cells #[p0, p1, p2, p3, p4, p5, p6] 26)).alloc (.cells #[.int .u8 0, .bool false, .slice none 0 0, .string ⟨#[]⟩, .int .i64 0, .slice none 0 0, .slice none 0 0] 26)) (w.heap.size + 1) #[p0, p1, p2, p3, p4, p5, p6] := (Tb.new _ _ _ (by simp)).old _
  have tZ : Tb (((w.alloc (.cells #[q0, q1, q2, q3, q4, q5, q6] 26)).alloc (.cells #[p0, p1, p2, p3, p4, p5, p6] 26)).alloc (.cells #[.int .u8 0, .bool false, .slice none 0 0, .string ⟨#[]⟩, .int .i64 0, .slice none 0 0, .slice none 0 0] 26)) (w.heap.size + 1 + 1) #[.int .u8 0, .bool false, .slice none 0 0, .string ⟨#[]⟩, .int .i64 0, .slice none 0 0, .slice none 0 0] := Tb.new _ _ _ (by simp)
  have HU0 : Hid (Upd [] w (((w.alloc (.cells #[q0, q1, q2, q3, q4, q5, q6] 26)).alloc (.cells #[p0, p1, p2, p3, p4, p5, p6] 26)).alloc (.cells #[.int .u8 0, .bool false, .slice none 0 0, .string ⟨#[]⟩, .int .i64 0, .slice none 0 0, .slice none 0 0] 26))) := (((Upd.refl [] w).alloc _).alloc _).alloc _
  have HBL : Hid (B ≤ w.heap.size) := hB
  have HTZ : Hid (Tb (((w.alloc (.cells #[q0, q1, q2, q3, q4, q5, q6] 26)).alloc (.cells #[p0, p1, p2, p3, p4, p5, p6] 26)).alloc (.cells #[.int .u8 0, .bool false, .slice none 0 0, .string ⟨#[]⟩, .int .i64 0, .slice none 0 0, .slice none 0 0] 26)) (w.heap.size + 1 + 1) #[.int .u8 0, .bool false, .slice none 0 0, .string ⟨#[]⟩, .int .i64 0, .slice none 0 0, .slice none 0 0]) := tZ
  have H0 : Hid (In w d [q0, q1, q2, q3, q4, q5, q6] t) := h0
  have H1 : Hid (In w d [p0, p1, p2, p3, p4, p5, p6] u) := h1
  have HF : Hid (∀ (W : World), Upd [] w W → Calls Tryz.prog 67 #[.string s, .agg #[q0, q1, q2, q3, q4, q5, q6], .agg #[p0, p1, p2, p3, p4, p5, p6]] W (MadeQ B D P why W)) := fun W hu => hF _ _ W hu (In.mono hu _ _ _ h0) (In.mono hu _ _ _ h1)
  clear hF h0 h1 hB lh0 lh1
  go_enter Tryz.func48, Tryz.ntmps48
  go_wp2_with (first | (refine load_T _ rfl _ rfl _ _ rfl tA rfl ?_) | (refine load_T _ rfl _ rfl _ _ rfl tB rfl ?_) | fail)
  refine Calls.mono (HF.out _ HU0.out) ?_
  rintro e w1 ⟨cs, q, h7, rfl, hin, hP, hu1⟩
  have hone := hin.plain.one
  obtain ⟨r0, r1, r2, r3, r4, r5, r6, rfl⟩ := list7 h7
  have tZ1 := tZ.mono hu1 (by simp)
  have HTZ1 : Hid (Tb w1 (w.heap.size + 1 + 1) #[.int .u8 0, .bool false, .slice none 0 0, .string ⟨#[]⟩, .int .i64 0, .slice none 0 0, .slice none 0 0]) := tZ1
  have HIN : Hid (InU B (w.heap.size + 1 + 1 + 1) w1 D [r0, r1, r2, r3, r4, r5, r6] q) := hin.less (Nat.le_refl _) (by simp)
  have HP : Hid (P q) := hP
  have U1 : Hid (Upd [] w w1) := HU0.out.trans hu1
  clear hu1 hin hP tA tB tZ HU0
  go_wp2_with (refine store_T _ rfl _ _ rfl _ #[r0, r1, r2, r3, r4, r5, r6] _ rfl rfl tZ1 rfl rfl hone ?_; intro w2 hT2 hU2)
  exact ret_Tb Tryz.results48 rfl _ _ _ rfl hT2 rfl rfl ⟨_, q, rfl, rfl, HIN.out.step hU2 (bx_zero (Nat.le_trans HBL.out (by omega)) (by omega) HTZ1.out) (by omega) (Nat.succ_le_of_lt (Tb.lt HTZ1.out)), HP.out, U1.out.then hU2 (by simp; omega)⟩

set_option maxHeartbeats 2000000 in
set_option maxRecDepth 100000 in
theorem ofTwo_rem {B d D : Nat} {t u : Tm} {P : Tm → Prop} {why : ByteArray} (s : ByteArray) (cs0 cs1 : List Value) (w : World) (h0 : In w d cs0 t) (h1 : In w d cs1 u) (hB : B ≤ w.heap.size) (hF : ∀ (cs cs' : List Value) (W : World), Upd [] w W → In W d cs t → In W d cs' u → Calls Tryz.prog 67 #[.string s, .agg cs.toArray, .agg cs'.toArray] W (MadeQ B D P why W)) (e1 : (s.toList == [43]) = false) (e2 : (s.toList == [45]) = false) (e3 : (s.toList == [42]) = false) (e4 : (s.toList == [100, 105, 118]) = false) (e5 : (s.toList == [114, 101, 109]) = true) :
    Calls Tryz.prog 48 #[.string s, .agg cs0.toArray, .agg cs1.toArray] w (MadeQ B D P why w) := by
  have lh0 : cs0.length = 7 := h0.len
  have lh1 : cs1.length = 7 := h1.len
  obtain ⟨q0, q1, q2, q3, q4, q5, q6, rfl⟩ := list7 lh0
  obtain ⟨p0, p1, p2, p3, p4, p5, p6, rfl⟩ := list7 lh1
  have tA : Tb (((w.alloc (.cells #[q0, q1, q2, q3, q4, q5, q6] 26)).alloc (.cells #[p0, p1, p2, p3, p4, p5, p6] 26)).alloc (.cells #[.int .u8 0, .bool false, .slice none 0 0, .string ⟨#[]⟩, .int .i64 0, .slice none 0 0, .slice none 0 0] 26)) w.heap.size #[q0, q1, q2, q3, q4, q5, q6] := ((Tb.new _ _ _ rfl).old _).old _
  have tB : Tb (((w.alloc (.cells #[q0, q1, q2, q3, q4, q5, q6] 26)).alloc (.cells #[p0, p1, p2, p3, p4, p5, p6] 26)).alloc (.cells #[.int .u8 0, .bool false, .slice none 0 0, .string ⟨#[]⟩, .int .i64 0, .slice none 0 0, .slice none 0 0] 26)) (w.heap.size + 1) #[p0, p1, p2, p3, p4, p5, p6] := (Tb.new _ _ _ (by simp)).old _
  have tZ : Tb (((w.alloc (.cells #[q0, q1, q2, q3, q4, q5, q6] 26)).alloc (.cells #[p0, p1, p2, p3, p4, p5, p6] 26)).alloc (.cells #[.int .u8 0, .bool false, .slice none 0 0, .string ⟨#[]⟩, .int .i64 0, .slice none 0 0, .slice none 0 0] 26)) (w.heap.size + 1 + 1) #[.int .u8 0, .bool false, .slice none 0 0, .string ⟨#[]⟩, .int .i64 0, .slice none 0 0, .slice none 0 0] := Tb.new _ _ _ (by simp)
  have HU0 : Hid (Upd [] w (((w.alloc (.cells #[q0, q1, q2, q3, q4, q5, q6] 26)).alloc (.cells #[p0, p1, p2, p3, p4, p5, p6] 26)).alloc (.cells #[.int .u8 0, .bool false, .slice none 0 0, .string ⟨#[]⟩, .int .i64 0, .slice none 0 0, .slice none 0 0] 26))) := (((Upd.refl [] w).alloc _).alloc _).alloc _
  have HBL : Hid (B ≤ w.heap.size) := hB
  have HTZ : Hid (Tb (((w.alloc (.cells #[q0, q1, q2, q3, q4, q5, q6] 26)).alloc (.cells #[p0, p1, p2, p3, p4, p5, p6] 26)).alloc (.cells #[.int .u8 0, .bool false, .slice none 0 0, .string ⟨#[]⟩, .int .i64 0, .slice none 0 0, .slice none 0 0] 26)) (w.heap.size + 1 + 1) #[.int .u8 0, .bool false, .slice none 0 0, .string ⟨#[]⟩, .int .i64 0, .slice none 0 0, .slice none 0 0]) := tZ
  have H0 : Hid (In w d [q0, q1, q2, q3, q4, q5, q6] t) := h0
  have H1 : Hid (In w d [p0, p1, p2, p3, p4, p5, p6] u) := h1
  have HF : Hid (∀ (W : World), Upd [] w W → Calls Tryz.prog 67 #[.string s, .agg #[q0, q1, q2, q3, q4, q5, q6], .agg #[p0, p1, p2, p3, p4, p5, p6]] W (MadeQ B D P why W)) := fun W hu => hF _ _ W hu (In.mono hu _ _ _ h0) (In.mono hu _ _ _ h1)
  clear hF h0 h1 hB lh0 lh1
  go_enter Tryz.func48, Tryz.ntmps48
  go_wp2_with (first | (refine load_T _ rfl _ rfl _ _ rfl tA rfl ?_) | (refine load_T _ rfl _ rfl _ _ rfl tB rfl ?_) | fail)
  refine Calls.mono (HF.out _ HU0.out) ?_
  rintro e w1 ⟨cs, q, h7, rfl, hin, hP, hu1⟩
  have hone := hin.plain.one
  obtain ⟨r0, r1, r2, r3, r4, r5, r6, rfl⟩ := list7 h7
  have tZ1 := tZ.mono hu1 (by simp)
  have HTZ1 : Hid (Tb w1 (w.heap.size + 1 + 1) #[.int .u8 0, .bool false, .slice none 0 0, .string ⟨#[]⟩, .int .i64 0, .slice none 0 0, .slice none 0 0]) := tZ1
  have HIN : Hid (InU B (w.heap.size + 1 + 1 + 1) w1 D [r0, r1, r2, r3, r4, r5, r6] q) := hin.less (Nat.le_refl _) (by simp)
  have HP : Hid (P q) := hP
  have U1 : Hid (Upd [] w w1) := HU0.out.trans hu1
  clear hu1 hin hP tA tB tZ HU0
  go_wp2_with (refine store_T _ rfl _ _ rfl _ #[r0, r1, r2, r3, r4, r5, r6] _ rfl rfl tZ1 rfl rfl hone ?_; intro w2 hT2 hU2)
  exact ret_Tb Tryz.results48 rfl _ _ _ rfl hT2 rfl rfl ⟨_, q, rfl, rfl, HIN.out.step hU2 (bx_zero (Nat.le_trans HBL.out (by omega)) (by omega) HTZ1.out) (by omega) (Nat.succ_le_of_lt (Tb.lt HTZ1.out)), HP.out, U1.out.then hU2 (by simp; omega)⟩

end Go.Proofs.YtnpocmhaoaigfaaGreatDoor
