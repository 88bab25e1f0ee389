/- Div. -/
import Derived.Test.YtnpocmhaoaigfaaGreatDoorMulT
namespace Go.Proofs.YtnpocmhaoaigfaaGreatDoor
open Go.RowKit

theorem TI_mk {w : World} {a : Option Addr} {L : List Nat} {n : Nat} {neg : Bool} {z : Int} (nL : Norm L n) (HL : At w a L) (h : L.length ≤ 32) (hz : sg neg n = z) : TI w (neg && decide (0 < L.length)) a L z := by
  have hab : z.natAbs = n := by rw [← hz]; exact sg_abs neg n
  refine ⟨by rw [hab]; exact nL, HL, h, ?_⟩
  rw [← hz, sg_neg]
  congr 1
  have := nL.nil_iff
  by_cases h0 : n = 0
  · rw [this.2 h0]; simp [h0]
  · have h1 : L ≠ [] := fun e => h0 (this.1 e)
    have h2 : 0 < L.length := by cases L with | nil => exact absurd rfl h1 | cons x t => simp
    simp [h2]; omega

theorem sg_tdiv (na nb : Bool) (x y : Nat) : sg (!(na == nb)) (x / y) = (sg na x).tdiv (sg nb y) := by
  cases na <;> cases nb <;> simp [sg, Int.neg_tdiv, Int.tdiv_neg] <;> rfl
theorem sg_tmod (na nb : Bool) (x y : Nat) : sg na (x % y) = (sg na x).tmod (sg nb y) := by
  cases na <;> cases nb <;> simp [sg, Int.neg_tmod, Int.tmod_neg] <;> rfl

set_option maxHeartbeats 2000000 in
set_option maxRecDepth 100000 in
/-- Div, of right integers, the second one not 0. -/
theorem Div_any (a ai at' b bi bt : Option Addr) (ca ci ct cb cbi cbt : Nat) (na nb : Bool) (A B : List Nat) (x y : Int) (w : World) (HA : TI w na a A x) (HB : TI w nb b B y) (hy : y ≠ 0) :
    Calls Tryz.prog 105 #[.agg #[.int .u8 1, .bool na, .slice a A.length ca, .string ⟨#[]⟩, .int .i64 0, .slice ai 0 ci, .slice at' 0 ct], .agg #[.int .u8 1, .bool nb, .slice b B.length cb, .string ⟨#[]⟩, .int .i64 0, .slice bi 0 cbi, .slice bt 0 cbt]] w fun e w' => Upd [] w w' ∧ ∃ nq nr a1 a2 c1 c2 Q R, e = .returned (.tuple #[.agg #[.int .u8 1, .bool nq, .slice a1 Q.length c1, .string ⟨#[]⟩, .int .i64 0, .slice none 0 0, .slice none 0 0], .agg #[.int .u8 1, .bool nr, .slice a2 R.length c2, .string ⟨#[]⟩, .int .i64 0, .slice none 0 0, .slice none 0 0], .bool true]) ∧ TI w' nq a1 Q (x.tdiv y) ∧ TI w' nr a2 R (x.tmod y) := by
  have HRA : Hid (∀ W, Upd [] w W → _) := fun W hu => HA.right (W := W) ai at' ca ci ct hu
  have HRB : Hid (∀ W, Upd [] w W → _) := fun W hu => HB.right (W := W) bi bt cb cbi cbt hu
  have HTA : Hid _ := HA
  have HTB : Hid _ := HB
  have hlA := HA.len
  have hlB := HB.len
  clear HA HB
  have hy0 : 0 < y.natAbs := by omega
  have hx32 := HTA.out.small
  have hB0 : ((B.length : Int) == 0) = false := by
    have h : B.length ≠ 0 := fun e => by
      have := HTB.out.norm.nil_iff.1 (List.eq_nil_of_length_eq_zero e); omega
    simp; intro e; exact h (by rw [e]; rfl)
  have HX32 : Hid _ := hx32
  have HZQ : Hid (sg (!(na == nb)) (x.natAbs / y.natAbs) = x.tdiv y) := by show _ = _; rw [sg_tdiv, HTA.out.sg, HTB.out.sg]
  have HZR : Hid (sg na (x.natAbs % y.natAbs) = x.tmod y) := by show _ = _; rw [sg_tmod na nb, HTA.out.sg, HTB.out.sg]
  clear hx32 hy
  go_enter Tryz.func105, Tryz.ntmps105
  go_wp2_with fail
  refine (HRA.out _ (by repeat (first | exact Upd.refl _ _ | refine Upd.alloc ?_ _))).mono ?_
  rintro e w1 ⟨rfl, rfl⟩
  go_wp2_with fail
  refine (HRB.out _ (by repeat (first | exact Upd.refl _ _ | refine Upd.alloc ?_ _))).mono ?_
  rintro e w2 ⟨rfl, rfl⟩
  go_wp2_with fail
  obtain ⟨W, hW⟩ : ∃ W, W = ((((((w.alloc (.cells #[.int .u8 1, .bool na, .slice a A.length ca, .string ⟨#[]⟩, .int .i64 0, .slice ai 0 ci, .slice at' 0 ct] 26)).alloc (.cells #[.int .u8 1, .bool nb, .slice b B.length cb, .string ⟨#[]⟩, .int .i64 0, .slice bi 0 cbi, .slice bt 0 cbt] 26)).alloc (.cells #[.int .u8 0, .bool false, .slice none 0 0, .string ⟨#[]⟩, .int .i64 0, .slice none 0 0, .slice none 0 0] 26)).alloc (.cells #[.int .u8 0, .bool false, .slice none 0 0, .string ⟨#[]⟩, .int .i64 0, .slice none 0 0, .slice none 0 0] 26)).alloc (.cells #[.int .u8 1, .bool na, .slice a A.length ca, .string ⟨#[]⟩, .int .i64 0, .slice ai 0 ci, .slice at' 0 ct] 26)).alloc (.cells #[.int .u8 1, .bool nb, .slice b B.length cb, .string ⟨#[]⟩, .int .i64 0, .slice bi 0 cbi, .slice bt 0 cbt] 26)) := ⟨_, rfl⟩
  have hUW : Upd [] w W := by rw [hW]; exact (((((((Upd.refl [] w).alloc (.cells #[.int .u8 1, .bool na, .slice a A.length ca, .string ⟨#[]⟩, .int .i64 0, .slice ai 0 ci, .slice at' 0 ct] 26)).alloc (.cells #[.int .u8 1, .bool nb, .slice b B.length cb, .string ⟨#[]⟩, .int .i64 0, .slice bi 0 cbi, .slice bt 0 cbt] 26)).alloc (.cells #[.int .u8 0, .bool false, .slice none 0 0, .string ⟨#[]⟩, .int .i64 0, .slice none 0 0, .slice none 0 0] 26)).alloc (.cells #[.int .u8 0, .bool false, .slice none 0 0, .string ⟨#[]⟩, .int .i64 0, .slice none 0 0, .slice none 0 0] 26)).alloc (.cells #[.int .u8 1, .bool na, .slice a A.length ca, .string ⟨#[]⟩, .int .i64 0, .slice ai 0 ci, .slice at' 0 ct] 26)).alloc (.cells #[.int .u8 1, .bool nb, .slice b B.length cb, .string ⟨#[]⟩, .int .i64 0, .slice bi 0 cbi, .slice bt 0 cbt] 26))
  have tA : Tb W w.heap.size #[.int .u8 1, .bool na, .slice a A.length ca, .string ⟨#[]⟩, .int .i64 0, .slice ai 0 ci, .slice at' 0 ct] := by rw [hW]; exact ((((((Tb.new w #[.int .u8 1, .bool na, .slice a A.length ca, .string ⟨#[]⟩, .int .i64 0, .slice ai 0 ci, .slice at' 0 ct] w.heap.size rfl).old (.cells #[.int .u8 1, .bool nb, .slice b B.length cb, .string ⟨#[]⟩, .int .i64 0, .slice bi 0 cbi, .slice bt 0 cbt] 26)).old (.cells #[.int .u8 0, .bool false, .slice none 0 0, .string ⟨#[]⟩, .int .i64 0, .slice none 0 0, .slice none 0 0] 26)).old (.cells #[.int .u8 0, .bool false, .slice none 0 0, .string ⟨#[]⟩, .int .i64 0, .slice none 0 0, .slice none 0 0] 26)).old (.cells #[.int .u8 1, .bool na, .slice a A.length ca, .string ⟨#[]⟩, .int .i64 0, .slice ai 0 ci, .slice at' 0 ct] 26)).old (.cells #[.int .u8 1, .bool nb, .slice b B.length cb, .string ⟨#[]⟩, .int .i64 0, .slice bi 0 cbi, .slice bt 0 cbt] 26))
  have tB : Tb W (w.heap.size + 1) #[.int .u8 1, .bool nb, .slice b B.length cb, .string ⟨#[]⟩, .int .i64 0, .slice bi 0 cbi, .slice bt 0 cbt] := by rw [hW]; exact (((((Tb.new (w.alloc (.cells #[.int .u8 1, .bool na, .slice a A.length ca, .string ⟨#[]⟩, .int .i64 0, .slice ai 0 ci, .slice at' 0 ct] 26)) #[.int .u8 1, .bool nb, .slice b B.length cb, .string ⟨#[]⟩, .int .i64 0, .slice bi 0 cbi, .slice bt 0 cbt] (w.heap.size + 1) (by simp)).old (.cells #[.int .u8 0, .bool false, .slice none 0 0, .string ⟨#[]⟩, .int .i64 0, .slice none 0 0, .slice none 0 0] 26)).old (.cells #[.int .u8 0, .bool false, .slice none 0 0, .string ⟨#[]⟩, .int .i64 0, .slice none 0 0, .slice none 0 0] 26)).old (.cells #[.int .u8 1, .bool na, .slice a A.length ca, .string ⟨#[]⟩, .int .i64 0, .slice ai 0 ci, .slice at' 0 ct] 26)).old (.cells #[.int .u8 1, .bool nb, .slice b B.length cb, .string ⟨#[]⟩, .int .i64 0, .slice bi 0 cbi, .slice bt 0 cbt] 26))
  have tR0 : Tb W (w.heap.size + 2) #[.int .u8 0, .bool false, .slice none 0 0, .string ⟨#[]⟩, .int .i64 0, .slice none 0 0, .slice none 0 0] := by rw [hW]; exact ((((Tb.new ((w.alloc (.cells #[.int .u8 1, .bool na, .slice a A.length ca, .string ⟨#[]⟩, .int .i64 0, .slice ai 0 ci, .slice at' 0 ct] 26)).alloc (.cells #[.int .u8 1, .bool nb, .slice b B.length cb, .string ⟨#[]⟩, .int .i64 0, .slice bi 0 cbi, .slice bt 0 cbt] 26)) #[.int .u8 0, .bool false, .slice none 0 0, .string ⟨#[]⟩, .int .i64 0, .slice none 0 0, .slice none 0 0] (w.heap.size + 2) (by simp)).old (.cells #[.int .u8 0, .bool false, .slice none 0 0, .string ⟨#[]⟩, .int .i64 0, .slice none 0 0, .slice none 0 0] 26)).old (.cells #[.int .u8 1, .bool na, .slice a A.length ca, .string ⟨#[]⟩, .int .i64 0, .slice ai 0 ci, .slice at' 0 ct] 26)).old (.cells #[.int .u8 1, .bool nb, .slice b B.length cb, .string ⟨#[]⟩, .int .i64 0, .slice bi 0 cbi, .slice bt 0 cbt] 26))
  have tR1 : Tb W (w.heap.size + 3) #[.int .u8 0, .bool false, .slice none 0 0, .string ⟨#[]⟩, .int .i64 0, .slice none 0 0, .slice none 0 0] := by rw [hW]; exact (((Tb.new (((w.alloc (.cells #[.int .u8 1, .bool na, .slice a A.length ca, .string ⟨#[]⟩, .int .i64 0, .slice ai 0 ci, .slice at' 0 ct] 26)).alloc (.cells #[.int .u8 1, .bool nb, .slice b B.length cb, .string ⟨#[]⟩, .int .i64 0, .slice bi 0 cbi, .slice bt 0 cbt] 26)).alloc (.cells #[.int .u8 0, .bool false, .slice none 0 0, .string ⟨#[]⟩, .int .i64 0, .slice none 0 0, .slice none 0 0] 26)) #[.int .u8 0, .bool false, .slice none 0 0, .string ⟨#[]⟩, .int .i64 0, .slice none 0 0, .slice none 0 0] (w.heap.size + 3) (by simp)).old (.cells #[.int .u8 1, .bool na, .slice a A.length ca, .string ⟨#[]⟩, .int .i64 0, .slice ai 0 ci, .slice at' 0 ct] 26)).old (.cells #[.int .u8 1, .bool nb, .slice b B.length cb, .string ⟨#[]⟩, .int .i64 0, .slice bi 0 cbi, .slice bt 0 cbt] 26))
  rw [← hW]
  clear hW
  have cA1 : W.cell? ⟨w.heap.size, 1, none⟩ = some (.bool na) := tA.cell 1
  have cA2 : W.cell? ⟨w.heap.size, 2, none⟩ = some (.slice a A.length ca) := tA.cell 2
  have cB1 : W.cell? ⟨w.heap.size + 1, 1, none⟩ = some (.bool nb) := tB.cell 1
  have cB2 : W.cell? ⟨w.heap.size + 1, 2, none⟩ = some (.slice b B.length cb) := tB.cell 2
  have hsz := tR1.lt
  have HUW : Hid _ := hUW
  have HTR0 : Hid _ := tR0
  have HTR1 : Hid _ := tR1
  clear tR0 tR1 tA tB
  refine (divLimbs_any a b ca cb _ _ A B W (by omega) (by omega) (HTA.out.mem.mono hUW) (HTB.out.mem.mono hUW) HTA.out.norm HTB.out.norm hy0).mono ?_
  rintro e w3 ⟨hU3, a1, c1, Q, a2, c2, R, rfl, nQ, hQ, nR, hR, hlQ, hlR, _, _, _, _⟩
  have d1 : w3.cell? ⟨w.heap.size, 1, none⟩ = some (.bool na) := (hU3.cell (p := ⟨w.heap.size, 1, none⟩) (by show w.heap.size < W.heap.size; omega) (by simp)).trans cA1
  have d2 : w3.cell? ⟨w.heap.size + 1, 1, none⟩ = some (.bool nb) := (hU3.cell (p := ⟨w.heap.size + 1, 1, none⟩) (by show w.heap.size + 1 < W.heap.size; omega) (by simp)).trans cB1
  have hsz3 : w.heap.size + 3 < w3.heap.size := Nat.lt_of_lt_of_le hsz hU3.size
  have HS3 : Hid (Upd [] w w3) := hUW.trans hU3
  have T0 : Hid _ := Tb.mono HTR0.out hU3 (by simp)
  have T1 : Hid _ := Tb.mono HTR1.out hU3 (by simp)
  clear hUW hU3 cA1 cA2 cB1 cB2 hsz
  have hne1 : (w.heap.size + 1 + 1 = w.heap.size) = False := eq_false (by omega)
  have hne2 : (w.heap.size = w.heap.size + 1 + 1) = False := eq_false (by omega)
  have hne3 : (w.heap.size + 1 + 1 + 1 = w.heap.size) = False := eq_false (by omega)
  have hne4 : (w.heap.size = w.heap.size + 1 + 1 + 1) = False := eq_false (by omega)
  have hne5 : (w.heap.size + 1 + 1 + 1 = w.heap.size + 1) = False := eq_false (by omega)
  have hne6 : (w.heap.size + 1 = w.heap.size + 1 + 1 + 1) = False := eq_false (by omega)
  go_wp2_with fail
  go_region_held3 (fun w' => w'.cell? ⟨w.heap.size, 1, none⟩ = some (.bool na) ∧ w'.cell? ⟨w.heap.size + 1, 1, none⟩ = some (.bool nb) ∧ w3.heap.size ≤ w'.heap.size)
    (go_keep)
    (first
      | (go_at_call_of 51 (Value.slice a1 Q.length c1); refine (signed_any a1 Q.length c1 (!(na == nb)) _ ?_).mono ?_; (omega); rintro e w4 ⟨rfl, hU4⟩; have k1 : w4.cell? ⟨w.heap.size, 1, none⟩ = some (.bool na) := (hU4.cell (p := ⟨w.heap.size, 1, none⟩) (by show w.heap.size < w3.heap.size; omega) (by simp)).trans d1; have k2 : w4.cell? ⟨w.heap.size + 1, 1, none⟩ = some (.bool nb) := (hU4.cell (p := ⟨w.heap.size + 1, 1, none⟩) (by show w.heap.size + 1 < w3.heap.size; omega) (by simp)).trans d2; have k3 : w3.heap.size ≤ w4.heap.size := hU4.size)
      | (go_at_call_of 51 (Value.slice a2 R.length c2); refine (signed_any a2 R.length c2 na _ ?_).mono ?_; (omega); rintro e w5 ⟨rfl, hU5⟩; have q1 : w5.cell? ⟨w.heap.size, 1, none⟩ = some (.bool na) := (hU5.cell (p := ⟨w.heap.size, 1, none⟩) (by show w.heap.size < w4.heap.size; omega) (by simp)).trans k1; have q2 : w5.cell? ⟨w.heap.size + 1, 1, none⟩ = some (.bool nb) := (hU5.cell (p := ⟨w.heap.size + 1, 1, none⟩) (by show w.heap.size + 1 < w4.heap.size; omega) (by simp)).trans k2; have q3 : w3.heap.size ≤ w5.heap.size := Nat.le_trans k3 hU5.size; have t0 : Tb w5 (w.heap.size + 1 + 1) #[.int .u8 0, .bool false, .slice none 0 0, .string ⟨#[]⟩, .int .i64 0, .slice none 0 0, .slice none 0 0] := Tb.mono (Tb.mono (w := w3.drew) T0.out hU4 (by simp)) hU5 (by simp); have t1 : Tb w5 (w.heap.size + 1 + 1 + 1) #[.int .u8 0, .bool false, .slice none 0 0, .string ⟨#[]⟩, .int .i64 0, .slice none 0 0, .slice none 0 0] := Tb.mono (Tb.mono (w := w3.drew) T1.out hU4 (by simp)) hU5 (by simp); have z0 : w5.cell? ⟨w.heap.size + 1 + 1, 0, none⟩ = some (.int .u8 0) := t0.cell 0; have z1 : w5.cell? ⟨w.heap.size + 1 + 1, 1, none⟩ = some (.bool false) := t0.cell 1; have z2 : w5.cell? ⟨w.heap.size + 1 + 1, 2, none⟩ = some (.slice none 0 0) := t0.cell 2; have z3 : w5.cell? ⟨w.heap.size + 1 + 1, 3, none⟩ = some (.string ⟨#[]⟩) := t0.cell 3; have z4 : w5.cell? ⟨w.heap.size + 1 + 1, 4, none⟩ = some (.int .i64 0) := t0.cell 4; have z5 : w5.cell? ⟨w.heap.size + 1 + 1, 5, none⟩ = some (.slice none 0 0) := t0.cell 5; have z6 : w5.cell? ⟨w.heap.size + 1 + 1, 6, none⟩ = some (.slice none 0 0) := t0.cell 6; have zf : ∀ i, w5.frozen? ⟨w.heap.size + 1 + 1, i, none⟩ = false := fun i => t0.free i; have y0 : w5.cell? ⟨w.heap.size + 1 + 1 + 1, 0, none⟩ = some (.int .u8 0) := t1.cell 0; have y1 : w5.cell? ⟨w.heap.size + 1 + 1 + 1, 1, none⟩ = some (.bool false) := t1.cell 1; have y2 : w5.cell? ⟨w.heap.size + 1 + 1 + 1, 2, none⟩ = some (.slice none 0 0) := t1.cell 2; have y3 : w5.cell? ⟨w.heap.size + 1 + 1 + 1, 3, none⟩ = some (.string ⟨#[]⟩) := t1.cell 3; have y4 : w5.cell? ⟨w.heap.size + 1 + 1 + 1, 4, none⟩ = some (.int .i64 0) := t1.cell 4; have y5 : w5.cell? ⟨w.heap.size + 1 + 1 + 1, 5, none⟩ = some (.slice none 0 0) := t1.cell 5; have y6 : w5.cell? ⟨w.heap.size + 1 + 1 + 1, 6, none⟩ = some (.slice none 0 0) := t1.cell 6; have yf : ∀ i, w5.frozen? ⟨w.heap.size + 1 + 1 + 1, i, none⟩ = false := fun i => t1.free i; have HT0 : Hid _ := t0; have HT1 : Hid _ := t1; clear t0 t1))
  all_goals
    go_wp2
    have hU4' : Upd [] w3 w4 := ⟨hU4.os, hU4.tape, hU4.output, hU4.size, hU4.block⟩
    have h7 := seven HT0.out (.int .u8 1) (.bool (!(na == nb) && decide (0 < Q.length))) (.slice a1 Q.length c1) (.string ⟨#[]⟩) (.int .i64 0) (.slice none 0 0) (.slice none 0 0)
    have tR := Tb.mono HT1.out h7.2 (by simp)
    have h8 := seven tR (.int .u8 1) (.bool (na && decide (0 < R.length))) (.slice a2 R.length c2) (.string ⟨#[]⟩) (.int .i64 0) (.slice none 0 0) (.slice none 0 0)
    have hU := ((HS3.out.trans hU4').trans hU5)
    have hQ7 := (((hQ.mono hU4').mono hU5).keep HT0.out h7.2).keep tR h8.2
    have hR7 := (((hR.mono hU4').mono hU5).keep HT0.out h7.2).keep tR h8.2
    have hlq : Q.length ≤ 32 := (nQ.len_le 32).2 (Nat.lt_of_le_of_lt (Nat.div_le_self _ _) HX32.out)
    have hlr : R.length ≤ 32 := (nR.len_le 32).2 (Nat.lt_of_le_of_lt (Nat.mod_le _ _) HX32.out)
    exact ret_TTb Tryz.results105 rfl _ _ _ _ _ rfl (h7.1.mono h8.2 (by simp)) rfl rfl h8.1 rfl rfl ⟨(hU.then h7.2 (by simp <;> omega)).then h8.2 (by simp <;> omega), _, _, a1, a2, c1, c2, Q, R, rfl, TI_mk nQ hQ7 hlq HZQ.out, TI_mk nR hR7 hlr HZR.out⟩

end Go.Proofs.YtnpocmhaoaigfaaGreatDoor
