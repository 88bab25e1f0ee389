/- lists of the reference of term, by its contracts. -/
import Derived.Test.YtaoipmmeialpnaaGreatDoorR2F
namespace Go.Proofs.YtaoipmmeialpnaaGreatDoor
open Go.RowKit

set_option maxHeartbeats 8000000 in
set_option maxRecDepth 100000 in
theorem lists2_00 (d : Nat) (ih : OrdS2 d) (num0 : Int) (neg0 : Bool) (a0 ai0 : Option Addr) (at0 : Option Addr) (L0 : List Nat) (c0 ci0 ct0 : Nat) (s0 : ByteArray) (I0 : List Tm) (num1 : Int) (neg1 : Bool) (a1 ai1 : Option Addr) (at1 : Option Addr) (L1 : List Nat) (c1 ci1 ct1 : Nat) (s1 : ByteArray) (I1 : List Tm) (w : World) (hI0 : RowAt (In w d) w ai0 I0) (hI1 : RowAt (In w d) w ai1 I1)
    (oI0 : okR I0 = true) (oI1 : okR I1 = true) (zI0 : tszs I0 ≤ 1353245080330) (zI1 : tszs I1 ≤ 1353245080330) (g : Int) (hg : g = 0) :
    Calls Tryz.prog 125 #[.agg #[.int .u8 7, .bool neg0, .slice a0 L0.length c0, .string s0, .int .i64 num0, .slice ai0 I0.length ci0, .slice at0 0 ct0], .agg #[.int .u8 7, .bool neg1, .slice a1 L1.length c1, .string s1, .int .i64 num1, .slice ai1 I1.length ci1, .slice at1 0 ct1]] w fun e w' => e = .returned (.int .i64 (th (ordR I0 I1) g)) ∧ Upd [] w w' := by
  have hl2 : I0.length ≤ 1353245080330 := Nat.le_trans (tszs_len I0) zI0
  have hl3 : I1.length ≤ 1353245080330 := Nat.le_trans (tszs_len I1) zI1
  have HRW : Hid (∀ W, Upd [] w W → Calls Tryz.prog 126 #[.slice ai0 I0.length ci0, .slice ai1 I1.length ci1] W fun e w' => e = .returned (.int .i64 (rwZ I0 I1)) ∧ Upd [] W w') := fun W hU => rows2_in d ih W ai0 ai1 ci0 ci1 I0 I1 (hI0.imp hU (fun cs t h => In.mono hU d cs t h)) (hI1.imp hU (fun cs t h => In.mono hU d cs t h)) oI0 oI1 zI0 zI1
  have HN : Hid (∀ W, Calls Tryz.prog 122 #[.int .i64 (I0.length : Int), .int .i64 (I1.length : Int)] W fun e w' => e = .returned (.int .i64 (cmpZ I0.length I1.length)) ∧ w' = W) := fun W => num2_any _ _ W
  rw [ordR_rw]
  obtain ⟨r, hr⟩ : ∃ r, rwZ I0 I1 = r := ⟨_, rfl⟩
  obtain ⟨l, hl⟩ : ∃ l, cmpZ (I0.length : Int) (I1.length : Int) = l := ⟨_, rfl⟩
  rw [hr] at HRW ⊢
  rw [hl] at HN ⊢
  have tb0 : Tb ((w.alloc (.cells #[.int .u8 7, .bool neg0, .slice a0 L0.length c0, .string s0, .int .i64 num0, .slice ai0 I0.length ci0, .slice at0 0 ct0] 26)).alloc (.cells #[.int .u8 7, .bool neg1, .slice a1 L1.length c1, .string s1, .int .i64 num1, .slice ai1 I1.length ci1, .slice at1 0 ct1] 26)) w.heap.size #[.int .u8 7, .bool neg0, .slice a0 L0.length c0, .string s0, .int .i64 num0, .slice ai0 I0.length ci0, .slice at0 0 ct0] := (Tb.new _ _ _ rfl).old _
  have tb1 : Tb ((w.alloc (.cells #[.int .u8 7, .bool neg0, .slice a0 L0.length c0, .string s0, .int .i64 num0, .slice ai0 I0.length ci0, .slice at0 0 ct0] 26)).alloc (.cells #[.int .u8 7, .bool neg1, .slice a1 L1.length c1, .string s1, .int .i64 num1, .slice ai1 I1.length ci1, .slice at1 0 ct1] 26)) (w.heap.size + 1) #[.int .u8 7, .bool neg1, .slice a1 L1.length c1, .string s1, .int .i64 num1, .slice ai1 I1.length ci1, .slice at1 0 ct1] := Tb.new _ _ _ (by simp)
  have HU0 : Hid (Upd [] w ((w.alloc (.cells #[.int .u8 7, .bool neg0, .slice a0 L0.length c0, .string s0, .int .i64 num0, .slice ai0 I0.length ci0, .slice at0 0 ct0] 26)).alloc (.cells #[.int .u8 7, .bool neg1, .slice a1 L1.length c1, .string s1, .int .i64 num1, .slice ai1 I1.length ci1, .slice at1 0 ct1] 26))) := ((Upd.refl [] w).alloc _).alloc _
  clear hr hl ih hI0 hI1 oI0 oI1 zI0 zI1
  go_enter Tryz.func125, Tryz.ntmps125
  go_wp2_with fail
  refine Calls.mono (HRW.out _ HU0.out) ?_
  rintro e w1 ⟨rfl, hU1⟩
  have tb2 := tb0.mono hU1 (by simp)
  have tb3 := tb1.mono hU1 (by simp)
  have HU1 : Hid (Upd [] w w1) := HU0.out.trans hU1
  clear hU1 HU0 tb0 tb1 HRW
  by_cases hr0 : r = 0
  · have r0 : (r == 0) = true := by simp [hr0]
    have HR0 : Hid (r = 0) := hr0
    have x5 : w1.cell? ⟨w.heap.size, 5, none⟩ = some (.slice ai0 I0.length ci0) := tb2.cell 5
    have y5 : w1.cell? ⟨w.heap.size + 1, 5, none⟩ = some (.slice ai1 I1.length ci1) := tb3.cell 5
    clear hr0
    go_wp2_with fail
    refine Calls.mono (HN.out _) ?_
    rintro e w2 ⟨rfl, rfl⟩
    by_cases hl0 : l = 0
    · have l0 : (l != 0) = false := by simp [hl0]
      have HL0 : Hid (l = 0) := hl0
      clear hl0 x5 y5
      have X1 : Tb ((w2.alloc (.cells #[.int .u8 0, .bool false, .slice none 0 0, .string ⟨#[]⟩, .int .i64 0, .slice none 0 0, .slice none 0 0] 26)).alloc (.cells #[.int .u8 0, .bool false, .slice none 0 0, .string ⟨#[]⟩, .int .i64 0, .slice none 0 0, .slice none 0 0] 26)) w2.heap.size #[.int .u8 0, .bool false, .slice none 0 0, .string ⟨#[]⟩, .int .i64 0, .slice none 0 0, .slice none 0 0] := (Tb.new _ _ _ rfl).old _
      have Y1 : Tb ((w2.alloc (.cells #[.int .u8 0, .bool false, .slice none 0 0, .string ⟨#[]⟩, .int .i64 0, .slice none 0 0, .slice none 0 0] 26)).alloc (.cells #[.int .u8 0, .bool false, .slice none 0 0, .string ⟨#[]⟩, .int .i64 0, .slice none 0 0, .slice none 0 0] 26)) (w2.heap.size + 1) #[.int .u8 0, .bool false, .slice none 0 0, .string ⟨#[]⟩, .int .i64 0, .slice none 0 0, .slice none 0 0] := Tb.new _ _ _ (by simp)
      have A1 := (tb2.old (.cells #[.int .u8 0, .bool false, .slice none 0 0, .string ⟨#[]⟩, .int .i64 0, .slice none 0 0, .slice none 0 0] 26)).old (.cells #[.int .u8 0, .bool false, .slice none 0 0, .string ⟨#[]⟩, .int .i64 0, .slice none 0 0, .slice none 0 0] 26)
      have B1 := (tb3.old (.cells #[.int .u8 0, .bool false, .slice none 0 0, .string ⟨#[]⟩, .int .i64 0, .slice none 0 0, .slice none 0 0] 26)).old (.cells #[.int .u8 0, .bool false, .slice none 0 0, .string ⟨#[]⟩, .int .i64 0, .slice none 0 0, .slice none 0 0] 26)
      have n0 : w.heap.size < w2.heap.size := tb2.lt
      have n1 : w.heap.size + 1 < w2.heap.size := tb3.lt
      have HU2 : Hid (Upd [] w2 ((w2.alloc (.cells #[.int .u8 0, .bool false, .slice none 0 0, .string ⟨#[]⟩, .int .i64 0, .slice none 0 0, .slice none 0 0] 26)).alloc (.cells #[.int .u8 0, .bool false, .slice none 0 0, .string ⟨#[]⟩, .int .i64 0, .slice none 0 0, .slice none 0 0] 26))) := ((Upd.refl [] w2).alloc _).alloc _
      clear tb2 tb3
      go_wp2_with (first
        | (refine store_V _ rfl _ _ rfl _ _ _ _ _ _ _ _ _ _ _ _ _ _ _ rfl rfl X1 rfl ?_; intro w3 X2 hs3; have Y2 := Y1.mono hs3 (by simp); have A2 := A1.mono hs3 (by simp; omega); have B2 := B1.mono hs3 (by simp; omega))
        | (refine store_V _ rfl _ _ rfl _ _ _ _ _ _ _ _ _ _ _ _ _ _ _ rfl rfl Y2 rfl ?_; intro w4 Y3 hs4; have X3 := X2.mono hs4 (by simp); have A3 := A2.mono hs4 (by simp; omega); have B3 := B2.mono hs4 (by simp; omega); have x6 : w4.cell? ⟨w.heap.size, 6, none⟩ = some (.slice at0 0 ct0) := A3.cell 6; have y6 : w4.cell? ⟨w.heap.size + 1, 6, none⟩ = some (.slice at1 0 ct1) := B3.cell 6; have HU4 : Hid (Upd [] w2 w4) := (HU2.out.then hs3 (by simp)).then hs4 (by simp))
        | fail)
      go_ret
      refine ⟨?_, HU1.out.trans HU4.out⟩
      rw [HR0.out, HL0.out, hg, th_z, th_z]
      rfl
    · have l0 : (l != 0) = true := by simp [hl0]
      have HL0 : Hid (¬ l = 0) := hl0
      clear hl0
      go_wp2
      go_ret
      refine ⟨?_, HU1.out⟩
      rw [HR0.out, th_z]
      unfold th
      rw [if_neg HL0.out]
      rfl
  · have r0 : (r == 0) = false := by simp [hr0]
    have r1 : (r != 0) = true := by simp [hr0]
    have HR0 : Hid (¬ r = 0) := hr0
    clear hr0
    go_wp2
    go_ret
    refine ⟨?_, HU1.out⟩
    unfold th
    rw [if_neg HR0.out, if_neg HR0.out]
    rfl

set_option maxHeartbeats 8000000 in
set_option maxRecDepth 100000 in
theorem lists2_01 (d : Nat) (ih : OrdS2 d) (num0 : Int) (neg0 : Bool) (a0 ai0 : Option Addr) (at0 : Option Addr) (L0 : List Nat) (c0 ci0 ct0 : Nat) (s0 : ByteArray) (I0 : List Tm) (num1 : Int) (neg1 : Bool) (a1 ai1 : Option Addr) (b1 o1 : Nat) (L1 : List Nat) (c1 ci1 ct1 : Nat) (s1 : ByteArray) (I1 : List Tm) (w : World) (hI0 : RowAt (In w d) w ai0 I0) (hI1 : RowAt (In w d) w ai1 I1)
    (oI0 : okR I0 = true) (oI1 : okR I1 = true) (zI0 : tszs I0 ≤ 1353245080330) (zI1 : tszs I1 ≤ 1353245080330) (g : Int) (p0 p1 p2 p3 p4 p5 p6 : Value) (hb1 : b1 < w.heap.size) (hc1 : ∀ j, j < 7 → w.cell? ⟨b1, o1 + j, none⟩ = [p0, p1, p2, p3, p4, p5, p6][j]?) (ho1 : #[p0, p1, p2, p3, p4, p5, p6].all (·.oneCell') = true) (hord : ∀ W, Upd [] w W → Calls Tryz.prog 65 #[.agg #[.int .u8 7, .bool false, .slice none 0 0, .string ⟨#[]⟩, .int .i64 0, .slice none 0 0, .slice none 0 0], .agg #[p0, p1, p2, p3, p4, p5, p6]] W fun e w' => e = .returned (.int .i64 g) ∧ Upd [] W w') :
    Calls Tryz.prog 125 #[.agg #[.int .u8 7, .bool neg0, .slice a0 L0.length c0, .string s0, .int .i64 num0, .slice ai0 I0.length ci0, .slice at0 0 ct0], .agg #[.int .u8 7, .bool neg1, .slice a1 L1.length c1, .string s1, .int .i64 num1, .slice ai1 I1.length ci1, .slice (some ⟨b1, o1, none⟩) 1 ct1]] w fun e w' => e = .returned (.int .i64 (th (ordR I0 I1) g)) ∧ Upd [] w w' := by
  have hl2 : I0.length ≤ 1353245080330 := Nat.le_trans (tszs_len I0) zI0
  have hl3 : I1.length ≤ 1353245080330 := Nat.le_trans (tszs_len I1) zI1
  have HRW : Hid (∀ W, Upd [] w W → Calls Tryz.prog 126 #[.slice ai0 I0.length ci0, .slice ai1 I1.length ci1] W fun e w' => e = .returned (.int .i64 (rwZ I0 I1)) ∧ Upd [] W w') := fun W hU => rows2_in d ih W ai0 ai1 ci0 ci1 I0 I1 (hI0.imp hU (fun cs t h => In.mono hU d cs t h)) (hI1.imp hU (fun cs t h => In.mono hU d cs t h)) oI0 oI1 zI0 zI1
  have HN : Hid (∀ W, Calls Tryz.prog 122 #[.int .i64 (I0.length : Int), .int .i64 (I1.length : Int)] W fun e w' => e = .returned (.int .i64 (cmpZ I0.length I1.length)) ∧ w' = W) := fun W => num2_any _ _ W
  rw [ordR_rw]
  obtain ⟨r, hr⟩ : ∃ r, rwZ I0 I1 = r := ⟨_, rfl⟩
  obtain ⟨l, hl⟩ : ∃ l, cmpZ (I0.length : Int) (I1.length : Int) = l := ⟨_, rfl⟩
  rw [hr] at HRW ⊢
  rw [hl] at HN ⊢
  have HC1 : Hid (∀ j, j < 7 → w.cell? ⟨b1, o1 + j, none⟩ = [p0, p1, p2, p3, p4, p5, p6][j]?) := hc1
  clear hc1
  have HORD : Hid (∀ W, Upd [] w W → Calls Tryz.prog 65 #[.agg #[.int .u8 7, .bool false, .slice none 0 0, .string ⟨#[]⟩, .int .i64 0, .slice none 0 0, .slice none 0 0], .agg #[p0, p1, p2, p3, p4, p5, p6]] W fun e w' => e = .returned (.int .i64 g) ∧ Upd [] W w') := hord
  clear hord
  have tb0 : Tb ((w.alloc (.cells #[.int .u8 7, .bool neg0, .slice a0 L0.length c0, .string s0, .int .i64 num0, .slice ai0 I0.length ci0, .slice at0 0 ct0] 26)).alloc (.cells #[.int .u8 7, .bool neg1, .slice a1 L1.length c1, .string s1, .int .i64 num1, .slice ai1 I1.length ci1, .slice (some ⟨b1, o1, none⟩) 1 ct1] 26)) w.heap.size #[.int .u8 7, .bool neg0, .slice a0 L0.length c0, .string s0, .int .i64 num0, .slice ai0 I0.length ci0, .slice at0 0 ct0] := (Tb.new _ _ _ rfl).old _
  have tb1 : Tb ((w.alloc (.cells #[.int .u8 7, .bool neg0, .slice a0 L0.length c0, .string s0, .int .i64 num0, .slice ai0 I0.length ci0, .slice at0 0 ct0] 26)).alloc (.cells #[.int .u8 7, .bool neg1, .slice a1 L1.length c1, .string s1, .int .i64 num1, .slice ai1 I1.length ci1, .slice (some ⟨b1, o1, none⟩) 1 ct1] 26)) (w.heap.size + 1) #[.int .u8 7, .bool neg1, .slice a1 L1.length c1, .string s1, .int .i64 num1, .slice ai1 I1.length ci1, .slice (some ⟨b1, o1, none⟩) 1 ct1] := Tb.new _ _ _ (by simp)
  have HU0 : Hid (Upd [] w ((w.alloc (.cells #[.int .u8 7, .bool neg0, .slice a0 L0.length c0, .string s0, .int .i64 num0, .slice ai0 I0.length ci0, .slice at0 0 ct0] 26)).alloc (.cells #[.int .u8 7, .bool neg1, .slice a1 L1.length c1, .string s1, .int .i64 num1, .slice ai1 I1.length ci1, .slice (some ⟨b1, o1, none⟩) 1 ct1] 26))) := ((Upd.refl [] w).alloc _).alloc _
  clear hr hl ih hI0 hI1 oI0 oI1 zI0 zI1
  go_enter Tryz.func125, Tryz.ntmps125
  go_wp2_with fail
  refine Calls.mono (HRW.out _ HU0.out) ?_
  rintro e w1 ⟨rfl, hU1⟩
  have tb2 := tb0.mono hU1 (by simp)
  have tb3 := tb1.mono hU1 (by simp)
  have HU1 : Hid (Upd [] w w1) := HU0.out.trans hU1
  clear hU1 HU0 tb0 tb1 HRW
  by_cases hr0 : r = 0
  · have r0 : (r == 0) = true := by simp [hr0]
    have HR0 : Hid (r = 0) := hr0
    have x5 : w1.cell? ⟨w.heap.size, 5, none⟩ = some (.slice ai0 I0.length ci0) := tb2.cell 5
    have y5 : w1.cell? ⟨w.heap.size + 1, 5, none⟩ = some (.slice ai1 I1.length ci1) := tb3.cell 5
    clear hr0
    go_wp2_with fail
    refine Calls.mono (HN.out _) ?_
    rintro e w2 ⟨rfl, rfl⟩
    by_cases hl0 : l = 0
    · have l0 : (l != 0) = false := by simp [hl0]
      have HL0 : Hid (l = 0) := hl0
      clear hl0 x5 y5
      have X1 : Tb ((w2.alloc (.cells #[.int .u8 0, .bool false, .slice none 0 0, .string ⟨#[]⟩, .int .i64 0, .slice none 0 0, .slice none 0 0] 26)).alloc (.cells #[.int .u8 0, .bool false, .slice none 0 0, .string ⟨#[]⟩, .int .i64 0, .slice none 0 0, .slice none 0 0] 26)) w2.heap.size #[.int .u8 0, .bool false, .slice none 0 0, .string ⟨#[]⟩, .int .i64 0, .slice none 0 0, .slice none 0 0] := (Tb.new _ _ _ rfl).old _
      have Y1 : Tb ((w2.alloc (.cells #[.int .u8 0, .bool false, .slice none 0 0, .string ⟨#[]⟩, .int .i64 0, .slice none 0 0, .slice none 0 0] 26)).alloc (.cells #[.int .u8 0, .bool false, .slice none 0 0, .string ⟨#[]⟩, .int .i64 0, .slice none 0 0, .slice none 0 0] 26)) (w2.heap.size + 1) #[.int .u8 0, .bool false, .slice none 0 0, .string ⟨#[]⟩, .int .i64 0, .slice none 0 0, .slice none 0 0] := Tb.new _ _ _ (by simp)
      have A1 := (tb2.old (.cells #[.int .u8 0, .bool false, .slice none 0 0, .string ⟨#[]⟩, .int .i64 0, .slice none 0 0, .slice none 0 0] 26)).old (.cells #[.int .u8 0, .bool false, .slice none 0 0, .string ⟨#[]⟩, .int .i64 0, .slice none 0 0, .slice none 0 0] 26)
      have B1 := (tb3.old (.cells #[.int .u8 0, .bool false, .slice none 0 0, .string ⟨#[]⟩, .int .i64 0, .slice none 0 0, .slice none 0 0] 26)).old (.cells #[.int .u8 0, .bool false, .slice none 0 0, .string ⟨#[]⟩, .int .i64 0, .slice none 0 0, .slice none 0 0] 26)
      have n0 : w.heap.size < w2.heap.size := tb2.lt
      have n1 : w.heap.size + 1 < w2.heap.size := tb3.lt
      have HU2 : Hid (Upd [] w2 ((w2.alloc (.cells #[.int .u8 0, .bool false, .slice none 0 0, .string ⟨#[]⟩, .int .i64 0, .slice none 0 0, .slice none 0 0] 26)).alloc (.cells #[.int .u8 0, .bool false, .slice none 0 0, .string ⟨#[]⟩, .int .i64 0, .slice none 0 0, .slice none 0 0] 26))) := ((Upd.refl [] w2).alloc _).alloc _
      clear tb2 tb3
      go_wp2_with (first
        | (refine store_V _ rfl _ _ rfl _ _ _ _ _ _ _ _ _ _ _ _ _ _ _ rfl rfl X1 rfl ?_; intro w3 X2 hs3; have Y2 := Y1.mono hs3 (by simp); have A2 := A1.mono hs3 (by simp; omega); have B2 := B1.mono hs3 (by simp; omega))
        | (refine store_V _ rfl _ _ rfl _ _ _ _ _ _ _ _ _ _ _ _ _ _ _ rfl rfl Y2 rfl ?_; intro w4 Y3 hs4; have X3 := X2.mono hs4 (by simp); have A3 := A2.mono hs4 (by simp; omega); have B3 := B2.mono hs4 (by simp; omega); have x6 : w4.cell? ⟨w.heap.size, 6, none⟩ = some (.slice at0 0 ct0) := A3.cell 6; have y6 : w4.cell? ⟨w.heap.size + 1, 6, none⟩ = some (.slice (some ⟨b1, o1, none⟩) 1 ct1) := B3.cell 6; have HU4 : Hid (Upd [] w2 w4) := (HU2.out.then hs3 (by simp)).then hs4 (by simp); have zp0 : w4.cell? ⟨b1, o1, none⟩ = some p0 := ((HU1.out.trans HU4.out).cell (p := ⟨b1, o1 + 0, none⟩) hb1 (by simp)).trans (HC1.out 0 (by omega)); have zp1 : w4.cell? ⟨b1, o1 + 1, none⟩ = some p1 := ((HU1.out.trans HU4.out).cell (p := ⟨b1, o1 + 1, none⟩) hb1 (by simp)).trans (HC1.out 1 (by omega)); have zp2 : w4.cell? ⟨b1, o1 + 2, none⟩ = some p2 := ((HU1.out.trans HU4.out).cell (p := ⟨b1, o1 + 2, none⟩) hb1 (by simp)).trans (HC1.out 2 (by omega)); have zp3 : w4.cell? ⟨b1, o1 + 3, none⟩ = some p3 := ((HU1.out.trans HU4.out).cell (p := ⟨b1, o1 + 3, none⟩) hb1 (by simp)).trans (HC1.out 3 (by omega)); have zp4 : w4.cell? ⟨b1, o1 + 4, none⟩ = some p4 := ((HU1.out.trans HU4.out).cell (p := ⟨b1, o1 + 4, none⟩) hb1 (by simp)).trans (HC1.out 4 (by omega)); have zp5 : w4.cell? ⟨b1, o1 + 5, none⟩ = some p5 := ((HU1.out.trans HU4.out).cell (p := ⟨b1, o1 + 5, none⟩) hb1 (by simp)).trans (HC1.out 5 (by omega)); have zp6 : w4.cell? ⟨b1, o1 + 6, none⟩ = some p6 := ((HU1.out.trans HU4.out).cell (p := ⟨b1, o1 + 6, none⟩) hb1 (by simp)).trans (HC1.out 6 (by omega)))
        | (refine store_T _ rfl _ _ rfl _ #[p0, p1, p2, p3, p4, p5, p6] _ rfl rfl Y3 rfl rfl ho1 ?_; intro w6 Y6 hs6; have X6 := X3.mono hs6 (by simp); have HU6 : Hid (Upd [] w2 w6) := HU4.out.then hs6 (by simp))
        | (refine load_T _ rfl _ rfl _ _ rfl X6 rfl ?_) | (refine load_T _ rfl _ rfl _ _ rfl Y6 rfl ?_)
        | fail)
      refine Calls.mono (HORD.out _ (HU1.out.trans HU6.out)) ?_
      rintro e w7 ⟨rfl, h7⟩
      have U7 : Hid (Upd [] w w7) := (HU1.out.trans HU6.out).trans h7
      go_wp2
      go_ret
      refine ⟨?_, U7.out⟩
      rw [HR0.out, HL0.out, th_z, th_z]
      rfl
    · have l0 : (l != 0) = true := by simp [hl0]
      have HL0 : Hid (¬ l = 0) := hl0
      clear hl0
      go_wp2
      go_ret
      refine ⟨?_, HU1.out⟩
      rw [HR0.out, th_z]
      unfold th
      rw [if_neg HL0.out]
      rfl
  · have r0 : (r == 0) = false := by simp [hr0]
    have r1 : (r != 0) = true := by simp [hr0]
    have HR0 : Hid (¬ r = 0) := hr0
    clear hr0
    go_wp2
    go_ret
    refine ⟨?_, HU1.out⟩
    unfold th
    rw [if_neg HR0.out, if_neg HR0.out]
    rfl

set_option maxHeartbeats 8000000 in
set_option maxRecDepth 100000 in
theorem lists2_10 (d : Nat) (ih : OrdS2 d) (num0 : Int) (neg0 : Bool) (a0 ai0 : Option Addr) (b0 o0 : Nat) (L0 : List Nat) (c0 ci0 ct0 : Nat) (s0 : ByteArray) (I0 : List Tm) (num1 : Int) (neg1 : Bool) (a1 ai1 : Option Addr) (at1 : Option Addr) (L1 : List Nat) (c1 ci1 ct1 : Nat) (s1 : ByteArray) (I1 : List Tm) (w : World) (hI0 : RowAt (In w d) w ai0 I0) (hI1 : RowAt (In w d) w ai1 I1)
    (oI0 : okR I0 = true) (oI1 : okR I1 = true) (zI0 : tszs I0 ≤ 1353245080330) (zI1 : tszs I1 ≤ 1353245080330) (g : Int) (q0 q1 q2 q3 q4 q5 q6 : Value) (hb0 : b0 < w.heap.size) (hc0 : ∀ j, j < 7 → w.cell? ⟨b0, o0 + j, none⟩ = [q0, q1, q2, q3, q4, q5, q6][j]?) (ho0 : #[q0, q1, q2, q3, q4, q5, q6].all (·.oneCell') = true) (hord : ∀ W, Upd [] w W → Calls Tryz.prog 65 #[.agg #[q0, q1, q2, q3, q4, q5, q6], .agg #[.int .u8 7, .bool false, .slice none 0 0, .string ⟨#[]⟩, .int .i64 0, .slice none 0 0, .slice none 0 0]] W fun e w' => e = .returned (.int .i64 g) ∧ Upd [] W w') :
    Calls Tryz.prog 125 #[.agg #[.int .u8 7, .bool neg0, .slice a0 L0.length c0, .string s0, .int .i64 num0, .slice ai0 I0.length ci0, .slice (some ⟨b0, o0, none⟩) 1 ct0], .agg #[.int .u8 7, .bool neg1, .slice a1 L1.length c1, .string s1, .int .i64 num1, .slice ai1 I1.length ci1, .slice at1 0 ct1]] w fun e w' => e = .returned (.int .i64 (th (ordR I0 I1) g)) ∧ Upd [] w w' := by
  have hl2 : I0.length ≤ 1353245080330 := Nat.le_trans (tszs_len I0) zI0
  have hl3 : I1.length ≤ 1353245080330 := Nat.le_trans (tszs_len I1) zI1
  have HRW : Hid (∀ W, Upd [] w W → Calls Tryz.prog 126 #[.slice ai0 I0.length ci0, .slice ai1 I1.length ci1] W fun e w' => e = .returned (.int .i64 (rwZ I0 I1)) ∧ Upd [] W w') := fun W hU => rows2_in d ih W ai0 ai1 ci0 ci1 I0 I1 (hI0.imp hU (fun cs t h => In.mono hU d cs t h)) (hI1.imp hU (fun cs t h => In.mono hU d cs t h)) oI0 oI1 zI0 zI1
  have HN : Hid (∀ W, Calls Tryz.prog 122 #[.int .i64 (I0.length : Int), .int .i64 (I1.length : Int)] W fun e w' => e = .returned (.int .i64 (cmpZ I0.length I1.length)) ∧ w' = W) := fun W => num2_any _ _ W
  rw [ordR_rw]
  obtain ⟨r, hr⟩ : ∃ r, rwZ I0 I1 = r := ⟨_, rfl⟩
  obtain ⟨l, hl⟩ : ∃ l, cmpZ (I0.length : Int) (I1.length : Int) = l := ⟨_, rfl⟩
  rw [hr] at HRW ⊢
  rw [hl] at HN ⊢
  have HC0 : Hid (∀ j, j < 7 → w.cell? ⟨b0, o0 + j, none⟩ = [q0, q1, q2, q3, q4, q5, q6][j]?) := hc0
  clear hc0
  have HORD : Hid (∀ W, Upd [] w W → Calls Tryz.prog 65 #[.agg #[q0, q1, q2, q3, q4, q5, q6], .agg #[.int .u8 7, .bool false, .slice none 0 0, .string ⟨#[]⟩, .int .i64 0, .slice none 0 0, .slice none 0 0]] W fun e w' => e = .returned (.int .i64 g) ∧ Upd [] W w') := hord
  clear hord
  have tb0 : Tb ((w.alloc (.cells #[.int .u8 7, .bool neg0, .slice a0 L0.length c0, .string s0, .int .i64 num0, .slice ai0 I0.length ci0, .slice (some ⟨b0, o0, none⟩) 1 ct0] 26)).alloc (.cells #[.int .u8 7, .bool neg1, .slice a1 L1.length c1, .string s1, .int .i64 num1, .slice ai1 I1.length ci1, .slice at1 0 ct1] 26)) w.heap.size #[.int .u8 7, .bool neg0, .slice a0 L0.length c0, .string s0, .int .i64 num0, .slice ai0 I0.length ci0, .slice (some ⟨b0, o0, none⟩) 1 ct0] := (Tb.new _ _ _ rfl).old _
  have tb1 : Tb ((w.alloc (.cells #[.int .u8 7, .bool neg0, .slice a0 L0.length c0, .string s0, .int .i64 num0, .slice ai0 I0.length ci0, .slice (some ⟨b0, o0, none⟩) 1 ct0] 26)).alloc (.cells #[.int .u8 7, .bool neg1, .slice a1 L1.length c1, .string s1, .int .i64 num1, .slice ai1 I1.length ci1, .slice at1 0 ct1] 26)) (w.heap.size + 1) #[.int .u8 7, .bool neg1, .slice a1 L1.length c1, .string s1, .int .i64 num1, .slice ai1 I1.length ci1, .slice at1 0 ct1] := Tb.new _ _ _ (by simp)
  have HU0 : Hid (Upd [] w ((w.alloc (.cells #[.int .u8 7, .bool neg0, .slice a0 L0.length c0, .string s0, .int .i64 num0, .slice ai0 I0.length ci0, .slice (some ⟨b0, o0, none⟩) 1 ct0] 26)).alloc (.cells #[.int .u8 7, .bool neg1, .slice a1 L1.length c1, .string s1, .int .i64 num1, .slice ai1 I1.length ci1, .slice at1 0 ct1] 26))) := ((Upd.refl [] w).alloc _).alloc _
  clear hr hl ih hI0 hI1 oI0 oI1 zI0 zI1
  go_enter Tryz.func125, Tryz.ntmps125
  go_wp2_with fail
  refine Calls.mono (HRW.out _ HU0.out) ?_
  rintro e w1 ⟨rfl, hU1⟩
  have tb2 := tb0.mono hU1 (by simp)
  have tb3 := tb1.mono hU1 (by simp)
  have HU1 : Hid (Upd [] w w1) := HU0.out.trans hU1
  clear hU1 HU0 tb0 tb1 HRW
  by_cases hr0 : r = 0
  · have r0 : (r == 0) = true := by simp [hr0]
    have HR0 : Hid (r = 0) := hr0
    have x5 : w1.cell? ⟨w.heap.size, 5, none⟩ = some (.slice ai0 I0.length ci0) := tb2.cell 5
    have y5 : w1.cell? ⟨w.heap.size + 1, 5, none⟩ = some (.slice ai1 I1.length ci1) := tb3.cell 5
    clear hr0
    go_wp2_with fail
    refine Calls.mono (HN.out _) ?_
    rintro e w2 ⟨rfl, rfl⟩
    by_cases hl0 : l = 0
    · have l0 : (l != 0) = false := by simp [hl0]
      have HL0 : Hid (l = 0) := hl0
      clear hl0 x5 y5
      have X1 : Tb ((w2.alloc (.cells #[.int .u8 0, .bool false, .slice none 0 0, .string ⟨#[]⟩, .int .i64 0, .slice none 0 0, .slice none 0 0] 26)).alloc (.cells #[.int .u8 0, .bool false, .slice none 0 0, .string ⟨#[]⟩, .int .i64 0, .slice none 0 0, .slice none 0 0] 26)) w2.heap.size #[.int .u8 0, .bool false, .slice none 0 0, .string ⟨#[]⟩, .int .i64 0, .slice none 0 0, .slice none 0 0] := (Tb.new _ _ _ rfl).old _
      have Y1 : Tb ((w2.alloc (.cells #[.int .u8 0, .bool false, .slice none 0 0, .string ⟨#[]⟩, .int .i64 0, .slice none 0 0, .slice none 0 0] 26)).alloc (.cells #[.int .u8 0, .bool false, .slice none 0 0, .string ⟨#[]⟩, .int .i64 0, .slice none 0 0, .slice none 0 0] 26)) (w2.heap.size + 1) #[.int .u8 0, .bool false, .slice none 0 0, .string ⟨#[]⟩, .int .i64 0, .slice none 0 0, .slice none 0 0] := Tb.new _ _ _ (by simp)
      have A1 := (tb2.old (.cells #[.int .u8 0, .bool false, .slice none 0 0, .string ⟨#[]⟩, .int .i64 0, .slice none 0 0, .slice none 0 0] 26)).old (.cells #[.int .u8 0, .bool false, .slice none 0 0, .string ⟨#[]⟩, .int .i64 0, .slice none 0 0, .slice none 0 0] 26)
      have B1 := (tb3.old (.cells #[.int .u8 0, .bool false, .slice none 0 0, .string ⟨#[]⟩, .int .i64 0, .slice none 0 0, .slice none 0 0] 26)).old (.cells #[.int .u8 0, .bool false, .slice none 0 0, .string ⟨#[]⟩, .int .i64 0, .slice none 0 0, .slice none 0 0] 26)
      have n0 : w.heap.size < w2.heap.size := tb2.lt
      have n1 : w.heap.size + 1 < w2.heap.size := tb3.lt
      have HU2 : Hid (Upd [] w2 ((w2.alloc (.cells #[.int .u8 0, .bool false, .slice none 0 0, .string ⟨#[]⟩, .int .i64 0, .slice none 0 0, .slice none 0 0] 26)).alloc (.cells #[.int .u8 0, .bool false, .slice none 0 0, .string ⟨#[]⟩, .int .i64 0, .slice none 0 0, .slice none 0 0] 26))) := ((Upd.refl [] w2).alloc _).alloc _
      clear tb2 tb3
      go_wp2_with (first
        | (refine store_V _ rfl _ _ rfl _ _ _ _ _ _ _ _ _ _ _ _ _ _ _ rfl rfl X1 rfl ?_; intro w3 X2 hs3; have Y2 := Y1.mono hs3 (by simp); have A2 := A1.mono hs3 (by simp; omega); have B2 := B1.mono hs3 (by simp; omega))
        | (refine store_V _ rfl _ _ rfl _ _ _ _ _ _ _ _ _ _ _ _ _ _ _ rfl rfl Y2 rfl ?_; intro w4 Y3 hs4; have X3 := X2.mono hs4 (by simp); have A3 := A2.mono hs4 (by simp; omega); have B3 := B2.mono hs4 (by simp; omega); have x6 : w4.cell? ⟨w.heap.size, 6, none⟩ = some (.slice (some ⟨b0, o0, none⟩) 1 ct0) := A3.cell 6; have y6 : w4.cell? ⟨w.heap.size + 1, 6, none⟩ = some (.slice at1 0 ct1) := B3.cell 6; have HU4 : Hid (Upd [] w2 w4) := (HU2.out.then hs3 (by simp)).then hs4 (by simp); have zq0 : w4.cell? ⟨b0, o0, none⟩ = some q0 := ((HU1.out.trans HU4.out).cell (p := ⟨b0, o0 + 0, none⟩) hb0 (by simp)).trans (HC0.out 0 (by omega)); have zq1 : w4.cell? ⟨b0, o0 + 1, none⟩ = some q1 := ((HU1.out.trans HU4.out).cell (p := ⟨b0, o0 + 1, none⟩) hb0 (by simp)).trans (HC0.out 1 (by omega)); have zq2 : w4.cell? ⟨b0, o0 + 2, none⟩ = some q2 := ((HU1.out.trans HU4.out).cell (p := ⟨b0, o0 + 2, none⟩) hb0 (by simp)).trans (HC0.out 2 (by omega)); have zq3 : w4.cell? ⟨b0, o0 + 3, none⟩ = some q3 := ((HU1.out.trans HU4.out).cell (p := ⟨b0, o0 + 3, none⟩) hb0 (by simp)).trans (HC0.out 3 (by omega)); have zq4 : w4.cell? ⟨b0, o0 + 4, none⟩ = some q4 := ((HU1.out.trans HU4.out).cell (p := ⟨b0, o0 + 4, none⟩) hb0 (by simp)).trans (HC0.out 4 (by omega)); have zq5 : w4.cell? ⟨b0, o0 + 5, none⟩ = some q5 := ((HU1.out.trans HU4.out).cell (p := ⟨b0, o0 + 5, none⟩) hb0 (by simp)).trans (HC0.out 5 (by omega)); have zq6 : w4.cell? ⟨b0, o0 + 6, none⟩ = some q6 := ((HU1.out.trans HU4.out).cell (p := ⟨b0, o0 + 6, none⟩) hb0 (by simp)).trans (HC0.out 6 (by omega)))
        | (refine store_T _ rfl _ _ rfl _ #[q0, q1, q2, q3, q4, q5, q6] _ rfl rfl X3 rfl rfl ho0 ?_; intro w5 X5 hs5; have Y5 := Y3.mono hs5 (by simp); have B5 := B3.mono hs5 (by simp; omega); have y7 : w5.cell? ⟨w.heap.size + 1, 6, none⟩ = some (.slice at1 0 ct1) := B5.cell 6; have HU5 : Hid (Upd [] w2 w5) := HU4.out.then hs5 (by simp))
        | (refine load_T _ rfl _ rfl _ _ rfl X5 rfl ?_) | (refine load_T _ rfl _ rfl _ _ rfl Y5 rfl ?_)
        | fail)
      refine Calls.mono (HORD.out _ (HU1.out.trans HU5.out)) ?_
      rintro e w7 ⟨rfl, h7⟩
      have U7 : Hid (Upd [] w w7) := (HU1.out.trans HU5.out).trans h7
      go_wp2
      go_ret
      refine ⟨?_, U7.out⟩
      rw [HR0.out, HL0.out, th_z, th_z]
      rfl
    · have l0 : (l != 0) = true := by simp [hl0]
      have HL0 : Hid (¬ l = 0) := hl0
      clear hl0
      go_wp2
      go_ret
      refine ⟨?_, HU1.out⟩
      rw [HR0.out, th_z]
      unfold th
      rw [if_neg HL0.out]
      rfl
  · have r0 : (r == 0) = false := by simp [hr0]
    have r1 : (r != 0) = true := by simp [hr0]
    have HR0 : Hid (¬ r = 0) := hr0
    clear hr0
    go_wp2
    go_ret
    refine ⟨?_, HU1.out⟩
    unfold th
    rw [if_neg HR0.out, if_neg HR0.out]
    rfl

set_option maxHeartbeats 8000000 in
set_option maxRecDepth 100000 in
theorem lists2_11 (d : Nat) (ih : OrdS2 d) (num0 : Int) (neg0 : Bool) (a0 ai0 : Option Addr) (b0 o0 : Nat) (L0 : List Nat) (c0 ci0 ct0 : Nat) (s0 : ByteArray) (I0 : List Tm) (num1 : Int) (neg1 : Bool) (a1 ai1 : Option Addr) (b1 o1 : Nat) (L1 : List Nat) (c1 ci1 ct1 : Nat) (s1 : ByteArray) (I1 : List Tm) (w : World) (hI0 : RowAt (In w d) w ai0 I0) (hI1 : RowAt (In w d) w ai1 I1)
    (oI0 : okR I0 = true) (oI1 : okR I1 = true) (zI0 : tszs I0 ≤ 1353245080330) (zI1 : tszs I1 ≤ 1353245080330) (g : Int) (q0 q1 q2 q3 q4 q5 q6 : Value) (hb0 : b0 < w.heap.size) (hc0 : ∀ j, j < 7 → w.cell? ⟨b0, o0 + j, none⟩ = [q0, q1, q2, q3, q4, q5, q6][j]?) (ho0 : #[q0, q1, q2, q3, q4, q5, q6].all (·.oneCell') = true) (p0 p1 p2 p3 p4 p5 p6 : Value) (hb1 : b1 < w.heap.size) (hc1 : ∀ j, j < 7 → w.cell? ⟨b1, o1 + j, none⟩ = [p0, p1, p2, p3, p4, p5, p6][j]?) (ho1 : #[p0, p1, p2, p3, p4, p5, p6].all (·.oneCell') = true) (hord : ∀ W, Upd [] w W → Calls Tryz.prog 65 #[.agg #[q0, q1, q2, q3, q4, q5, q6], .agg #[p0, p1, p2, p3, p4, p5, p6]] W fun e w' => e = .returned (.int .i64 g) ∧ Upd [] W w') :
    Calls Tryz.prog 125 #[.agg #[.int .u8 7, .bool neg0, .slice a0 L0.length c0, .string s0, .int .i64 num0, .slice ai0 I0.length ci0, .slice (some ⟨b0, o0, none⟩) 1 ct0], .agg #[.int .u8 7, .bool neg1, .slice a1 L1.length c1, .string s1, .int .i64 num1, .slice ai1 I1.length ci1, .slice (some ⟨b1, o1, none⟩) 1 ct1]] w fun e w' => e = .returned (.int .i64 (th (ordR I0 I1) g)) ∧ Upd [] w w' := by
  have hl2 : I0.length ≤ 1353245080330 := Nat.le_trans (tszs_len I0) zI0
  have hl3 : I1.length ≤ 1353245080330 := Nat.le_trans (tszs_len I1) zI1
  have HRW : Hid (∀ W, Upd [] w W → Calls Tryz.prog 126 #[.slice ai0 I0.length ci0, .slice ai1 I1.length ci1] W fun e w' => e = .returned (.int .i64 (rwZ I0 I1)) ∧ Upd [] W w') := fun W hU => rows2_in d ih W ai0 ai1 ci0 ci1 I0 I1 (hI0.imp hU (fun cs t h => In.mono hU d cs t h)) (hI1.imp hU (fun cs t h => In.mono hU d cs t h)) oI0 oI1 zI0 zI1
  have HN : Hid (∀ W, Calls Tryz.prog 122 #[.int .i64 (I0.length : Int), .int .i64 (I1.length : Int)] W fun e w' => e = .returned (.int .i64 (cmpZ I0.length I1.length)) ∧ w' = W) := fun W => num2_any _ _ W
  rw [ordR_rw]
  obtain ⟨r, hr⟩ : ∃ r, rwZ I0 I1 = r := ⟨_, rfl⟩
  obtain ⟨l, hl⟩ : ∃ l, cmpZ (I0.length : Int) (I1.length : Int) = l := ⟨_, rfl⟩
  rw [hr] at HRW ⊢
  rw [hl] at HN ⊢
  have HC0 : Hid (∀ j, j < 7 → w.cell? ⟨b0, o0 + j, none⟩ = [q0, q1, q2, q3, q4, q5, q6][j]?) := hc0
  clear hc0
  have HC1 : Hid (∀ j, j < 7 → w.cell? ⟨b1, o1 + j, none⟩ = [p0, p1, p2, p3, p4, p5, p6][j]?) := hc1
  clear hc1
  have HORD : Hid (∀ W, Upd [] w W → Calls Tryz.prog 65 #[.agg #[q0, q1, q2, q3, q4, q5, q6], .agg #[p0, p1, p2, p3, p4, p5, p6]] W fun e w' => e = .returned (.int .i64 g) ∧ Upd [] W w') := hord
  clear hord
  have tb0 : Tb ((w.alloc (.cells #[.int .u8 7, .bool neg0, .slice a0 L0.length c0, .string s0, .int .i64 num0, .slice ai0 I0.length ci0, .slice (some ⟨b0, o0, none⟩) 1 ct0] 26)).alloc (.cells #[.int .u8 7, .bool neg1, .slice a1 L1.length c1, .string s1, .int .i64 num1, .slice ai1 I1.length ci1, .slice (some ⟨b1, o1, none⟩) 1 ct1] 26)) w.heap.size #[.int .u8 7, .bool neg0, .slice a0 L0.length c0, .string s0, .int .i64 num0, .slice ai0 I0.length ci0, .slice (some ⟨b0, o0, none⟩) 1 ct0] := (Tb.new _ _ _ rfl).old _
  have tb1 : Tb ((w.alloc (.cells #[.int .u8 7, .bool neg0, .slice a0 L0.length c0, .string s0, .int .i64 num0, .slice ai0 I0.length ci0, .slice (some ⟨b0, o0, none⟩) 1 ct0] 26)).alloc (.cells #[.int .u8 7, .bool neg1, .slice a1 L1.length c1, .string s1, .int .i64 num1, .slice ai1 I1.length ci1, .slice (some ⟨b1, o1, none⟩) 1 ct1] 26)) (w.heap.size + 1) #[.int .u8 7, .bool neg1, .slice a1 L1.length c1, .string s1, .int .i64 num1, .slice ai1 I1.length ci1, .slice (some ⟨b1, o1, none⟩) 1 ct1] := Tb.new _ _ _ (by simp)
  have HU0 : Hid (Upd [] w ((w.alloc (.cells #[.int .u8 7, .bool neg0, .slice a0 L0.length c0, .string s0, .int .i64 num0, .slice ai0 I0.length ci0, .slice (some ⟨b0, o0, none⟩) 1 ct0] 26)).alloc (.cells #[.int .u8 7, .bool neg1, .slice a1 L1.length c1, .string s1, .int .i64 num1, .slice ai1 I1.length ci1, .slice (some ⟨b1, o1, none⟩) 1 ct1] 26))) := ((Upd.refl [] w).alloc _).alloc _
  clear hr hl ih hI0 hI1 oI0 oI1 zI0 zI1
  go_enter Tryz.func125, Tryz.ntmps125
  go_wp2_with fail
  refine Calls.mono (HRW.out _ HU0.out) ?_
  rintro e w1 ⟨rfl, hU1⟩
  have tb2 := tb0.mono hU1 (by simp)
  have tb3 := tb1.mono hU1 (by simp)
  have HU1 : Hid (Upd [] w w1) := HU0.out.trans hU1
  clear hU1 HU0 tb0 tb1 HRW
  by_cases hr0 : r = 0
  · have r0 : (r == 0) = true := by simp [hr0]
    have HR0 : Hid (r = 0) := hr0
    have x5 : w1.cell? ⟨w.heap.size, 5, none⟩ = some (.slice ai0 I0.length ci0) := tb2.cell 5
    have y5 : w1.cell? ⟨w.heap.size + 1, 5, none⟩ = some (.slice ai1 I1.length ci1) := tb3.cell 5
    clear hr0
    go_wp2_with fail
    refine Calls.mono (HN.out _) ?_
    rintro e w2 ⟨rfl, rfl⟩
    by_cases hl0 : l = 0
    · have l0 : (l != 0) = false := by simp [hl0]
      have HL0 : Hid (l = 0) := hl0
      clear hl0 x5 y5
      have X1 : Tb ((w2.alloc (.cells #[.int .u8 0, .bool false, .slice none 0 0, .string ⟨#[]⟩, .int .i64 0, .slice none 0 0, .slice none 0 0] 26)).alloc (.cells #[.int .u8 0, .bool false, .slice none 0 0, .string ⟨#[]⟩, .int .i64 0, .slice none 0 0, .slice none 0 0] 26)) w2.heap.size #[.int .u8 0, .bool false, .slice none 0 0, .string ⟨#[]⟩, .int .i64 0, .slice none 0 0, .slice none 0 0] := (Tb.new _ _ _ rfl).old _
      have Y1 : Tb ((w2.alloc (.cells #[.int .u8 0, .bool false, .slice none 0 0, .string ⟨#[]⟩, .int .i64 0, .slice none 0 0, .slice none 0 0] 26)).alloc (.cells #[.int .u8 0, .bool false, .slice none 0 0, .string ⟨#[]⟩, .int .i64 0, .slice none 0 0, .slice none 0 0] 26)) (w2.heap.size + 1) #[.int .u8 0, .bool false, .slice none 0 0, .string ⟨#[]⟩, .int .i64 0, .slice none 0 0, .slice none 0 0] := Tb.new _ _ _ (by simp)
      have A1 := (tb2.old (.cells #[.int .u8 0, .bool false, .slice none 0 0, .string ⟨#[]⟩, .int .i64 0, .slice none 0 0, .slice none 0 0] 26)).old (.cells #[.int .u8 0, .bool false, .slice none 0 0, .string ⟨#[]⟩, .int .i64 0, .slice none 0 0, .slice none 0 0] 26)
      have B1 := (tb3.old (.cells #[.int .u8 0, .bool false, .slice none 0 0, .string ⟨#[]⟩, .int .i64 0, .slice none 0 0, .slice none 0 0] 26)).old (.cells #[.int .u8 0, .bool false, .slice none 0 0, .string ⟨#[]⟩, .int .i64 0, .slice none 0 0, .slice none 0 0] 26)
      have n0 : w.heap.size < w2.heap.size := tb2.lt
      have n1 : w.heap.size + 1 < w2.heap.size := tb3.lt
      have HU2 : Hid (Upd [] w2 ((w2.alloc (.cells #[.int .u8 0, .bool false, .slice none 0 0, .string ⟨#[]⟩, .int .i64 0, .slice none 0 0, .slice none 0 0] 26)).alloc (.cells #[.int .u8 0, .bool false, .slice none 0 0, .string ⟨#[]⟩, .int .i64 0, .slice none 0 0, .slice none 0 0] 26))) := ((Upd.refl [] w2).alloc _).alloc _
      clear tb2 tb3
      go_wp2_with (first
        | (refine store_V _ rfl _ _ rfl _ _ _ _ _ _ _ _ _ _ _ _ _ _ _ rfl rfl X1 rfl ?_; intro w3 X2 hs3; have Y2 := Y1.mono hs3 (by simp); have A2 := A1.mono hs3 (by simp; omega); have B2 := B1.mono hs3 (by simp; omega))
        | (refine store_V _ rfl _ _ rfl _ _ _ _ _ _ _ _ _ _ _ _ _ _ _ rfl rfl Y2 rfl ?_; intro w4 Y3 hs4; have X3 := X2.mono hs4 (by simp); have A3 := A2.mono hs4 (by simp; omega); have B3 := B2.mono hs4 (by simp; omega); have x6 : w4.cell? ⟨w.heap.size, 6, none⟩ = some (.slice (some ⟨b0, o0, none⟩) 1 ct0) := A3.cell 6; have y6 : w4.cell? ⟨w.heap.size + 1, 6, none⟩ = some (.slice (some ⟨b1, o1, none⟩) 1 ct1) := B3.cell 6; have HU4 : Hid (Upd [] w2 w4) := (HU2.out.then hs3 (by simp)).then hs4 (by simp); have zq0 : w4.cell? ⟨b0, o0, none⟩ = some q0 := ((HU1.out.trans HU4.out).cell (p := ⟨b0, o0 + 0, none⟩) hb0 (by simp)).trans (HC0.out 0 (by omega)); have zq1 : w4.cell? ⟨b0, o0 + 1, none⟩ = some q1 := ((HU1.out.trans HU4.out).cell (p := ⟨b0, o0 + 1, none⟩) hb0 (by simp)).trans (HC0.out 1 (by omega)); have zq2 : w4.cell? ⟨b0, o0 + 2, none⟩ = some q2 := ((HU1.out.trans HU4.out).cell (p := ⟨b0, o0 + 2, none⟩) hb0 (by simp)).trans (HC0.out 2 (by omega)); have zq3 : w4.cell? ⟨b0, o0 + 3, none⟩ = some q3 := ((HU1.out.trans HU4.out).cell (p := ⟨b0, o0 + 3, none⟩) hb0 (by simp)).trans (HC0.out 3 (by omega)); have zq4 : w4.cell? ⟨b0, o0 + 4, none⟩ = some q4 := ((HU1.out.trans HU4.out).cell (p := ⟨b0, o0 + 4, none⟩) hb0 (by simp)).trans (HC0.out 4 (by omega)); have zq5 : w4.cell? ⟨b0, o0 + 5, none⟩ = some q5 := ((HU1.out.trans HU4.out).cell (p := ⟨b0, o0 + 5, none⟩) hb0 (by simp)).trans (HC0.out 5 (by omega)); have zq6 : w4.cell? ⟨b0, o0 + 6, none⟩ = some q6 := ((HU1.out.trans HU4.out).cell (p := ⟨b0, o0 + 6, none⟩) hb0 (by simp)).trans (HC0.out 6 (by omega)); have zp0 : w4.cell? ⟨b1, o1, none⟩ = some p0 := ((HU1.out.trans HU4.out).cell (p := ⟨b1, o1 + 0, none⟩) hb1 (by simp)).trans (HC1.out 0 (by omega)); have zp1 : w4.cell? ⟨b1, o1 + 1, none⟩ = some p1 := ((HU1.out.trans HU4.out).cell (p := ⟨b1, o1 + 1, none⟩) hb1 (by simp)).trans (HC1.out 1 (by omega)); have zp2 : w4.cell? ⟨b1, o1 + 2, none⟩ = some p2 := ((HU1.out.trans HU4.out).cell (p := ⟨b1, o1 + 2, none⟩) hb1 (by simp)).trans (HC1.out 2 (by omega)); have zp3 : w4.cell? ⟨b1, o1 + 3, none⟩ = some p3 := ((HU1.out.trans HU4.out).cell (p := ⟨b1, o1 + 3, none⟩) hb1 (by simp)).trans (HC1.out 3 (by omega)); have zp4 : w4.cell? ⟨b1, o1 + 4, none⟩ = some p4 := ((HU1.out.trans HU4.out).cell (p := ⟨b1, o1 + 4, none⟩) hb1 (by simp)).trans (HC1.out 4 (by omega)); have zp5 : w4.cell? ⟨b1, o1 + 5, none⟩ = some p5 := ((HU1.out.trans HU4.out).cell (p := ⟨b1, o1 + 5, none⟩) hb1 (by simp)).trans (HC1.out 5 (by omega)); have zp6 : w4.cell? ⟨b1, o1 + 6, none⟩ = some p6 := ((HU1.out.trans HU4.out).cell (p := ⟨b1, o1 + 6, none⟩) hb1 (by simp)).trans (HC1.out 6 (by omega)))
        | (refine store_T _ rfl _ _ rfl _ #[q0, q1, q2, q3, q4, q5, q6] _ rfl rfl X3 rfl rfl ho0 ?_; intro w5 X5 hs5; have Y5 := Y3.mono hs5 (by simp); have B5 := B3.mono hs5 (by simp; omega); have y7 : w5.cell? ⟨w.heap.size + 1, 6, none⟩ = some (.slice (some ⟨b1, o1, none⟩) 1 ct1) := B5.cell 6; have HU5 : Hid (Upd [] w2 w5) := HU4.out.then hs5 (by simp); have yp0 : w5.cell? ⟨b1, o1, none⟩ = some p0 := (hs5.cell (p := ⟨b1, o1, none⟩) (Nat.lt_of_lt_of_le hb1 (HU1.out.trans HU4.out).size) (by simp; have := HU1.out.size; omega)).trans zp0; have yp1 : w5.cell? ⟨b1, o1 + 1, none⟩ = some p1 := (hs5.cell (p := ⟨b1, o1 + 1, none⟩) (Nat.lt_of_lt_of_le hb1 (HU1.out.trans HU4.out).size) (by simp; have := HU1.out.size; omega)).trans zp1; have yp2 : w5.cell? ⟨b1, o1 + 2, none⟩ = some p2 := (hs5.cell (p := ⟨b1, o1 + 2, none⟩) (Nat.lt_of_lt_of_le hb1 (HU1.out.trans HU4.out).size) (by simp; have := HU1.out.size; omega)).trans zp2; have yp3 : w5.cell? ⟨b1, o1 + 3, none⟩ = some p3 := (hs5.cell (p := ⟨b1, o1 + 3, none⟩) (Nat.lt_of_lt_of_le hb1 (HU1.out.trans HU4.out).size) (by simp; have := HU1.out.size; omega)).trans zp3; have yp4 : w5.cell? ⟨b1, o1 + 4, none⟩ = some p4 := (hs5.cell (p := ⟨b1, o1 + 4, none⟩) (Nat.lt_of_lt_of_le hb1 (HU1.out.trans HU4.out).size) (by simp; have := HU1.out.size; omega)).trans zp4; have yp5 : w5.cell? ⟨b1, o1 + 5, none⟩ = some p5 := (hs5.cell (p := ⟨b1, o1 + 5, none⟩) (Nat.lt_of_lt_of_le hb1 (HU1.out.trans HU4.out).size) (by simp; have := HU1.out.size; omega)).trans zp5; have yp6 : w5.cell? ⟨b1, o1 + 6, none⟩ = some p6 := (hs5.cell (p := ⟨b1, o1 + 6, none⟩) (Nat.lt_of_lt_of_le hb1 (HU1.out.trans HU4.out).size) (by simp; have := HU1.out.size; omega)).trans zp6)
        | (refine store_T _ rfl _ _ rfl _ #[p0, p1, p2, p3, p4, p5, p6] _ rfl rfl Y5 rfl rfl ho1 ?_; intro w6 Y6 hs6; have X6 := X5.mono hs6 (by simp); have HU6 : Hid (Upd [] w2 w6) := HU5.out.then hs6 (by simp))
        | (refine load_T _ rfl _ rfl _ _ rfl X6 rfl ?_) | (refine load_T _ rfl _ rfl _ _ rfl Y6 rfl ?_)
        | fail)
      refine Calls.mono (HORD.out _ (HU1.out.trans HU6.out)) ?_
      rintro e w7 ⟨rfl, h7⟩
      have U7 : Hid (Upd [] w w7) := (HU1.out.trans HU6.out).trans h7
      go_wp2
      go_ret
      refine ⟨?_, U7.out⟩
      rw [HR0.out, HL0.out, th_z, th_z]
      rfl
    · have l0 : (l != 0) = true := by simp [hl0]
      have HL0 : Hid (¬ l = 0) := hl0
      clear hl0
      go_wp2
      go_ret
      refine ⟨?_, HU1.out⟩
      rw [HR0.out, th_z]
      unfold th
      rw [if_neg HL0.out]
      rfl
  · have r0 : (r == 0) = false := by simp [hr0]
    have r1 : (r != 0) = true := by simp [hr0]
    have HR0 : Hid (¬ r = 0) := hr0
    clear hr0
    go_wp2
    go_ret
    refine ⟨?_, HU1.out⟩
    unfold th
    rw [if_neg HR0.out, if_neg HR0.out]
    rfl

end Go.Proofs.YtaoipmmeialpnaaGreatDoor
