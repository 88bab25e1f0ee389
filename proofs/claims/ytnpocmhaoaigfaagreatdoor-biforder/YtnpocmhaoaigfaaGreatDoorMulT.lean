/- Times. -/
import Derived.Test.YtnpocmhaoaigfaaGreatDoorAddT
import Derived.Test.YtnpocmhaoaigfaaGreatDoorTimL
import Derived.Test.YtnpocmhaoaigfaaGreatDoorDivX
import Derived.Deep.RegionHeld3
namespace Go.Proofs.YtnpocmhaoaigfaaGreatDoor
open Go.RowKit

theorem Tb.set {w : World} {g : Nat} {cs : Array Value} (h : Tb w g cs) (i : Nat) (v : Value) : Tb (w.setCell ⟨g, i, none⟩ v) g (cs.setIfInBounds i v) := heap_setCell_same w g i _ _ _ h
theorem Tb.free {w : World} {g : Nat} {cs : Array Value} (h : Tb w g cs) (i : Nat) : w.frozen? ⟨g, i, none⟩ = false := frozen_of_row w g i _ _ h
theorem seven {w : World} {g : Nat} (h : Tb w g #[.int .u8 0, .bool false, .slice none 0 0, .string ⟨#[]⟩, .int .i64 0, .slice none 0 0, .slice none 0 0]) (v0 v1 v2 v3 v4 v5 v6 : Value) :
    Tb (((((((w.setCell ⟨g, 0, none⟩ v0).setCell ⟨g, 1, none⟩ v1).setCell ⟨g, 2, none⟩ v2).setCell ⟨g, 3, none⟩ v3).setCell ⟨g, 4, none⟩ v4).setCell ⟨g, 5, none⟩ v5).setCell ⟨g, 6, none⟩ v6) g #[v0, v1, v2, v3, v4, v5, v6] ∧
    Upd [g] w (((((((w.setCell ⟨g, 0, none⟩ v0).setCell ⟨g, 1, none⟩ v1).setCell ⟨g, 2, none⟩ v2).setCell ⟨g, 3, none⟩ v3).setCell ⟨g, 4, none⟩ v4).setCell ⟨g, 5, none⟩ v5).setCell ⟨g, 6, none⟩ v6) := by
  refine ⟨?_, ?_⟩
  · have h7 := ((((((h.set 0 v0).set 1 v1).set 2 v2).set 3 v3).set 4 v4).set 5 v5).set 6 v6
    simp only [List.setIfInBounds_toArray, List.set_cons_zero, List.set_cons_succ] at h7
    exact h7
  · have hm : ∀ i, w.heap.size ≤ (⟨g, i, none⟩ : Addr).block ∨ (⟨g, i, none⟩ : Addr).block ∈ [g] := fun i => Or.inr (by simp)
    exact (((((((Upd.refl [g] w).setCell (hm 0) v0).setCell (hm 1) v1).setCell (hm 2) v2).setCell (hm 3) v3).setCell (hm 4) v4).setCell (hm 5) v5).setCell (hm 6) v6
theorem sg_mul (na nb : Bool) (x y : Nat) : sg (!(na == nb)) (x * y) = sg na x * sg nb y := by
  cases na <;> cases nb <;> simp [sg, Int.neg_mul, Int.mul_neg]

set_option maxHeartbeats 2000000 in
set_option maxRecDepth 100000 in
theorem Times_fit (a ai at' b bi bt : Option Addr) (ca ci ct cb cbi cbt : Nat) (na nb : Bool) (A B : List Nat) (x y : Int) (w : World) (HA : TI w na a A x) (HB : TI w nb b B y) (hfit : (x * y).natAbs < 4294967296 ^ 32) :
    Calls Tryz.prog 104 #[.agg #[.int .u8 1, .bool na, .slice a A.length ca, .string ⟨#[]⟩, .int .i64 0, .slice ai 0 ci, .slice at' 0 ct], .agg #[.int .u8 1, .bool nb, .slice b B.length cb, .string ⟨#[]⟩, .int .i64 0, .slice bi 0 cbi, .slice bt 0 cbt]] w fun e w' => Res w' e (x * y) ∧ Upd [] w w' := by
  have HRA : Hid (∀ W, Upd [] w W → _) := fun W hu => HA.right (W := W) ai at' ca ci ct hu
  have HRB : Hid (∀ W, Upd [] w W → _) := fun W hu => HB.right (W := W) bi bt cb cbi cbt hu
  have HTA : Hid _ := HA
  have HTB : Hid _ := HB
  have hlA := HA.len
  have hlB := HB.len
  clear HA HB
  have hz : sg (!(na == nb)) (x.natAbs * y.natAbs) = x * y := by rw [sg_mul, HTA.out.sg, HTB.out.sg]
  have HZ : Hid _ := hz
  have HF : Hid _ := hfit
  clear hz hfit
  go_enter Tryz.func104, Tryz.ntmps104
  go_wp2_with fail
  refine (HRA.out _ (by repeat (first | exact Upd.refl _ _ | refine Upd.alloc ?_ _))).mono ?_
  rintro e w1 ⟨rfl, rfl⟩
  go_wp2_with fail
  refine (HRB.out _ (by repeat (first | exact Upd.refl _ _ | refine Upd.alloc ?_ _))).mono ?_
  rintro e w2 ⟨rfl, rfl⟩
  go_wp2_with fail
  obtain ⟨W, hW⟩ : ∃ W, W = (((((w.alloc (.cells #[.int .u8 1, .bool na, .slice a A.length ca, .string ⟨#[]⟩, .int .i64 0, .slice ai 0 ci, .slice at' 0 ct] 26)).alloc (.cells #[.int .u8 1, .bool nb, .slice b B.length cb, .string ⟨#[]⟩, .int .i64 0, .slice bi 0 cbi, .slice bt 0 cbt] 26)).alloc (.cells #[.int .u8 0, .bool false, .slice none 0 0, .string ⟨#[]⟩, .int .i64 0, .slice none 0 0, .slice none 0 0] 26)).alloc (.cells #[.int .u8 1, .bool na, .slice a A.length ca, .string ⟨#[]⟩, .int .i64 0, .slice ai 0 ci, .slice at' 0 ct] 26)).alloc (.cells #[.int .u8 1, .bool nb, .slice b B.length cb, .string ⟨#[]⟩, .int .i64 0, .slice bi 0 cbi, .slice bt 0 cbt] 26)) := ⟨_, rfl⟩
  have hUW : Upd [] w W := by rw [hW]; exact ((((((Upd.refl [] w).alloc (.cells #[.int .u8 1, .bool na, .slice a A.length ca, .string ⟨#[]⟩, .int .i64 0, .slice ai 0 ci, .slice at' 0 ct] 26)).alloc (.cells #[.int .u8 1, .bool nb, .slice b B.length cb, .string ⟨#[]⟩, .int .i64 0, .slice bi 0 cbi, .slice bt 0 cbt] 26)).alloc (.cells #[.int .u8 0, .bool false, .slice none 0 0, .string ⟨#[]⟩, .int .i64 0, .slice none 0 0, .slice none 0 0] 26)).alloc (.cells #[.int .u8 1, .bool na, .slice a A.length ca, .string ⟨#[]⟩, .int .i64 0, .slice ai 0 ci, .slice at' 0 ct] 26)).alloc (.cells #[.int .u8 1, .bool nb, .slice b B.length cb, .string ⟨#[]⟩, .int .i64 0, .slice bi 0 cbi, .slice bt 0 cbt] 26))
  have tA : Tb W w.heap.size #[.int .u8 1, .bool na, .slice a A.length ca, .string ⟨#[]⟩, .int .i64 0, .slice ai 0 ci, .slice at' 0 ct] := by rw [hW]; exact (((((Tb.new w #[.int .u8 1, .bool na, .slice a A.length ca, .string ⟨#[]⟩, .int .i64 0, .slice ai 0 ci, .slice at' 0 ct] w.heap.size rfl).old (.cells #[.int .u8 1, .bool nb, .slice b B.length cb, .string ⟨#[]⟩, .int .i64 0, .slice bi 0 cbi, .slice bt 0 cbt] 26)).old (.cells #[.int .u8 0, .bool false, .slice none 0 0, .string ⟨#[]⟩, .int .i64 0, .slice none 0 0, .slice none 0 0] 26)).old (.cells #[.int .u8 1, .bool na, .slice a A.length ca, .string ⟨#[]⟩, .int .i64 0, .slice ai 0 ci, .slice at' 0 ct] 26)).old (.cells #[.int .u8 1, .bool nb, .slice b B.length cb, .string ⟨#[]⟩, .int .i64 0, .slice bi 0 cbi, .slice bt 0 cbt] 26))
  have tB : Tb W (w.heap.size + 1) #[.int .u8 1, .bool nb, .slice b B.length cb, .string ⟨#[]⟩, .int .i64 0, .slice bi 0 cbi, .slice bt 0 cbt] := by rw [hW]; exact ((((Tb.new (w.alloc (.cells #[.int .u8 1, .bool na, .slice a A.length ca, .string ⟨#[]⟩, .int .i64 0, .slice ai 0 ci, .slice at' 0 ct] 26)) #[.int .u8 1, .bool nb, .slice b B.length cb, .string ⟨#[]⟩, .int .i64 0, .slice bi 0 cbi, .slice bt 0 cbt] (w.heap.size + 1) (by simp)).old (.cells #[.int .u8 0, .bool false, .slice none 0 0, .string ⟨#[]⟩, .int .i64 0, .slice none 0 0, .slice none 0 0] 26)).old (.cells #[.int .u8 1, .bool na, .slice a A.length ca, .string ⟨#[]⟩, .int .i64 0, .slice ai 0 ci, .slice at' 0 ct] 26)).old (.cells #[.int .u8 1, .bool nb, .slice b B.length cb, .string ⟨#[]⟩, .int .i64 0, .slice bi 0 cbi, .slice bt 0 cbt] 26))
  have tR0 : Tb W (w.heap.size + 2) #[.int .u8 0, .bool false, .slice none 0 0, .string ⟨#[]⟩, .int .i64 0, .slice none 0 0, .slice none 0 0] := by rw [hW]; exact (((Tb.new ((w.alloc (.cells #[.int .u8 1, .bool na, .slice a A.length ca, .string ⟨#[]⟩, .int .i64 0, .slice ai 0 ci, .slice at' 0 ct] 26)).alloc (.cells #[.int .u8 1, .bool nb, .slice b B.length cb, .string ⟨#[]⟩, .int .i64 0, .slice bi 0 cbi, .slice bt 0 cbt] 26)) #[.int .u8 0, .bool false, .slice none 0 0, .string ⟨#[]⟩, .int .i64 0, .slice none 0 0, .slice none 0 0] (w.heap.size + 2) (by simp)).old (.cells #[.int .u8 1, .bool na, .slice a A.length ca, .string ⟨#[]⟩, .int .i64 0, .slice ai 0 ci, .slice at' 0 ct] 26)).old (.cells #[.int .u8 1, .bool nb, .slice b B.length cb, .string ⟨#[]⟩, .int .i64 0, .slice bi 0 cbi, .slice bt 0 cbt] 26))
  rw [← hW]
  clear hW
  have cA1 : W.cell? ⟨w.heap.size, 1, none⟩ = some (.bool na) := tA.cell 1
  have cA2 : W.cell? ⟨w.heap.size, 2, none⟩ = some (.slice a A.length ca) := tA.cell 2
  have cB1 : W.cell? ⟨w.heap.size + 1, 1, none⟩ = some (.bool nb) := tB.cell 1
  have cB2 : W.cell? ⟨w.heap.size + 1, 2, none⟩ = some (.slice b B.length cb) := tB.cell 2
  have hsz := tR0.lt
  have HUW : Hid _ := hUW
  have HTR : Hid _ := tR0
  clear hUW tR0 tA tB
  have hne1 : (w.heap.size + 1 + 1 = w.heap.size) = False := eq_false (by omega)
  have hne2 : (w.heap.size = w.heap.size + 1 + 1) = False := eq_false (by omega)
  go_region_held3 (fun w' => w'.cell? ⟨w.heap.size, 1, none⟩ = some (.bool na) ∧ w'.cell? ⟨w.heap.size, 2, none⟩ = some (.slice a A.length ca) ∧ w'.cell? ⟨w.heap.size + 1, 1, none⟩ = some (.bool nb) ∧ w'.cell? ⟨w.heap.size + 1, 2, none⟩ = some (.slice b B.length cb) ∧ W.heap.size ≤ w'.heap.size)
    (go_keep)
    (first
      | (go_at_call 130; refine (timesLimbs_any a b ca cb _ _ A B _ ?_ ?_ ?_ ?_ HTA.out.norm HTB.out.norm).mono ?_; (omega); (omega); (exact HTA.out.mem.mono (by first | exact HUW.out | exact HUW.out.drew)); (exact HTB.out.mem.mono (by first | exact HUW.out | exact HUW.out.drew)); rintro e w3 ⟨hU3, a1, c1, M1, rfl, nM1, hA1, hl1, hc11, hc12⟩; have k1 : w3.cell? ⟨w.heap.size, 1, none⟩ = some (.bool na) := (hU3.cell (p := ⟨w.heap.size, 1, none⟩) (by show w.heap.size < W.heap.size; omega) (by simp)).trans cA1; have k2 : w3.cell? ⟨w.heap.size, 2, none⟩ = some (.slice a A.length ca) := (hU3.cell (p := ⟨w.heap.size, 2, none⟩) (by show w.heap.size < W.heap.size; omega) (by simp)).trans cA2; have k3 : w3.cell? ⟨w.heap.size + 1, 1, none⟩ = some (.bool nb) := (hU3.cell (p := ⟨w.heap.size + 1, 1, none⟩) (by show w.heap.size + 1 < W.heap.size; omega) (by simp)).trans cB1; have k4 : w3.cell? ⟨w.heap.size + 1, 2, none⟩ = some (.slice b B.length cb) := (hU3.cell (p := ⟨w.heap.size + 1, 2, none⟩) (by show w.heap.size + 1 < W.heap.size; omega) (by simp)).trans cB2; have k5 : W.heap.size ≤ w3.heap.size := hU3.size)
      | (go_at_call 129; refine (fitting_any a1 c1 _ (!(na == nb)) M1 _ w3 ?_ nM1 hA1 HZ.out).mono ?_; (omega); rintro e w4 ⟨hR, hU4⟩; obtain ⟨_, neg', a2, c2, M2, rfl, hTI⟩ := hR.resolve_right (fun h => h.1 HF.out); clear hR; have q1 : w4.cell? ⟨w.heap.size, 1, none⟩ = some (.bool na) := (hU4.cell (p := ⟨w.heap.size, 1, none⟩) (by show w.heap.size < w3.heap.size; omega) (by simp)).trans k1; have q2 : w4.cell? ⟨w.heap.size, 2, none⟩ = some (.slice a A.length ca) := (hU4.cell (p := ⟨w.heap.size, 2, none⟩) (by show w.heap.size < w3.heap.size; omega) (by simp)).trans k2; have q3 : w4.cell? ⟨w.heap.size + 1, 1, none⟩ = some (.bool nb) := (hU4.cell (p := ⟨w.heap.size + 1, 1, none⟩) (by show w.heap.size + 1 < w3.heap.size; omega) (by simp)).trans k3; have q4 : w4.cell? ⟨w.heap.size + 1, 2, none⟩ = some (.slice b B.length cb) := (hU4.cell (p := ⟨w.heap.size + 1, 2, none⟩) (by show w.heap.size + 1 < w3.heap.size; omega) (by simp)).trans k4; have q5 : W.heap.size ≤ w4.heap.size := Nat.le_trans k5 hU4.size; have hT4 : Tb w4 (w.heap.size + 1 + 1) #[.int .u8 0, .bool false, .slice none 0 0, .string ⟨#[]⟩, .int .i64 0, .slice none 0 0, .slice none 0 0] := Tb.mono (Tb.mono (w := W.drew) HTR.out hU3 (by simp)) hU4 (by simp); have z0 : w4.cell? ⟨w.heap.size + 1 + 1, 0, none⟩ = some (.int .u8 0) := hT4.cell 0; have z1 : w4.cell? ⟨w.heap.size + 1 + 1, 1, none⟩ = some (.bool false) := hT4.cell 1; have z2 : w4.cell? ⟨w.heap.size + 1 + 1, 2, none⟩ = some (.slice none 0 0) := hT4.cell 2; have z3 : w4.cell? ⟨w.heap.size + 1 + 1, 3, none⟩ = some (.string ⟨#[]⟩) := hT4.cell 3; have z4 : w4.cell? ⟨w.heap.size + 1 + 1, 4, none⟩ = some (.int .i64 0) := hT4.cell 4; have z5 : w4.cell? ⟨w.heap.size + 1 + 1, 5, none⟩ = some (.slice none 0 0) := hT4.cell 5; have z6 : w4.cell? ⟨w.heap.size + 1 + 1, 6, none⟩ = some (.slice none 0 0) := hT4.cell 6; have zf : ∀ i, w4.frozen? ⟨w.heap.size + 1 + 1, i, none⟩ = false := fun i => hT4.free i; have HT4 : Hid _ := hT4; clear hT4))
  all_goals
    go_wp2
    have hU5 := (HUW.out.drew.trans hU3).trans hU4
    have h7 := seven HT4.out (.int .u8 1) (.bool neg') (.slice a2 M2.length c2) (.string ⟨#[]⟩) (.int .i64 0) (.slice none 0 0) (.slice none 0 0)
    exact ret_Tb Tryz.results104 rfl _ _ _ rfl h7.1 rfl rfl ⟨Or.inl ⟨HF.out, neg', a2, c2, M2, rfl, ⟨hTI.norm, hTI.mem.keep HT4.out h7.2, hTI.len, hTI.sgn⟩⟩, hU5.then h7.2 (by simp <;> omega)⟩

set_option maxHeartbeats 2000000 in
set_option maxRecDepth 100000 in
theorem Times_not (a ai at' b bi bt : Option Addr) (ca ci ct cb cbi cbt : Nat) (na nb : Bool) (A B : List Nat) (x y : Int) (w : World) (HA : TI w na a A x) (HB : TI w nb b B y) (hfit : ¬ (x * y).natAbs < 4294967296 ^ 32) :
    Calls Tryz.prog 104 #[.agg #[.int .u8 1, .bool na, .slice a A.length ca, .string ⟨#[]⟩, .int .i64 0, .slice ai 0 ci, .slice at' 0 ct], .agg #[.int .u8 1, .bool nb, .slice b B.length cb, .string ⟨#[]⟩, .int .i64 0, .slice bi 0 cbi, .slice bt 0 cbt]] w fun e w' => Res w' e (x * y) ∧ Upd [] w w' := by
  have HRA : Hid (∀ W, Upd [] w W → _) := fun W hu => HA.right (W := W) ai at' ca ci ct hu
  have HRB : Hid (∀ W, Upd [] w W → _) := fun W hu => HB.right (W := W) bi bt cb cbi cbt hu
  have HTA : Hid _ := HA
  have HTB : Hid _ := HB
  have hlA := HA.len
  have hlB := HB.len
  clear HA HB
  have hz : sg (!(na == nb)) (x.natAbs * y.natAbs) = x * y := by rw [sg_mul, HTA.out.sg, HTB.out.sg]
  have HZ : Hid _ := hz
  have HF : Hid _ := hfit
  clear hz hfit
  go_enter Tryz.func104, Tryz.ntmps104
  go_wp2_with fail
  refine (HRA.out _ (by repeat (first | exact Upd.refl _ _ | refine Upd.alloc ?_ _))).mono ?_
  rintro e w1 ⟨rfl, rfl⟩
  go_wp2_with fail
  refine (HRB.out _ (by repeat (first | exact Upd.refl _ _ | refine Upd.alloc ?_ _))).mono ?_
  rintro e w2 ⟨rfl, rfl⟩
  go_wp2_with fail
  obtain ⟨W, hW⟩ : ∃ W, W = (((((w.alloc (.cells #[.int .u8 1, .bool na, .slice a A.length ca, .string ⟨#[]⟩, .int .i64 0, .slice ai 0 ci, .slice at' 0 ct] 26)).alloc (.cells #[.int .u8 1, .bool nb, .slice b B.length cb, .string ⟨#[]⟩, .int .i64 0, .slice bi 0 cbi, .slice bt 0 cbt] 26)).alloc (.cells #[.int .u8 0, .bool false, .slice none 0 0, .string ⟨#[]⟩, .int .i64 0, .slice none 0 0, .slice none 0 0] 26)).alloc (.cells #[.int .u8 1, .bool na, .slice a A.length ca, .string ⟨#[]⟩, .int .i64 0, .slice ai 0 ci, .slice at' 0 ct] 26)).alloc (.cells #[.int .u8 1, .bool nb, .slice b B.length cb, .string ⟨#[]⟩, .int .i64 0, .slice bi 0 cbi, .slice bt 0 cbt] 26)) := ⟨_, rfl⟩
  have hUW : Upd [] w W := by rw [hW]; exact ((((((Upd.refl [] w).alloc (.cells #[.int .u8 1, .bool na, .slice a A.length ca, .string ⟨#[]⟩, .int .i64 0, .slice ai 0 ci, .slice at' 0 ct] 26)).alloc (.cells #[.int .u8 1, .bool nb, .slice b B.length cb, .string ⟨#[]⟩, .int .i64 0, .slice bi 0 cbi, .slice bt 0 cbt] 26)).alloc (.cells #[.int .u8 0, .bool false, .slice none 0 0, .string ⟨#[]⟩, .int .i64 0, .slice none 0 0, .slice none 0 0] 26)).alloc (.cells #[.int .u8 1, .bool na, .slice a A.length ca, .string ⟨#[]⟩, .int .i64 0, .slice ai 0 ci, .slice at' 0 ct] 26)).alloc (.cells #[.int .u8 1, .bool nb, .slice b B.length cb, .string ⟨#[]⟩, .int .i64 0, .slice bi 0 cbi, .slice bt 0 cbt] 26))
  have tA : Tb W w.heap.size #[.int .u8 1, .bool na, .slice a A.length ca, .string ⟨#[]⟩, .int .i64 0, .slice ai 0 ci, .slice at' 0 ct] := by rw [hW]; exact (((((Tb.new w #[.int .u8 1, .bool na, .slice a A.length ca, .string ⟨#[]⟩, .int .i64 0, .slice ai 0 ci, .slice at' 0 ct] w.heap.size rfl).old (.cells #[.int .u8 1, .bool nb, .slice b B.length cb, .string ⟨#[]⟩, .int .i64 0, .slice bi 0 cbi, .slice bt 0 cbt] 26)).old (.cells #[.int .u8 0, .bool false, .slice none 0 0, .string ⟨#[]⟩, .int .i64 0, .slice none 0 0, .slice none 0 0] 26)).old (.cells #[.int .u8 1, .bool na, .slice a A.length ca, .string ⟨#[]⟩, .int .i64 0, .slice ai 0 ci, .slice at' 0 ct] 26)).old (.cells #[.int .u8 1, .bool nb, .slice b B.length cb, .string ⟨#[]⟩, .int .i64 0, .slice bi 0 cbi, .slice bt 0 cbt] 26))
  have tB : Tb W (w.heap.size + 1) #[.int .u8 1, .bool nb, .slice b B.length cb, .string ⟨#[]⟩, .int .i64 0, .slice bi 0 cbi, .slice bt 0 cbt] := by rw [hW]; exact ((((Tb.new (w.alloc (.cells #[.int .u8 1, .bool na, .slice a A.length ca, .string ⟨#[]⟩, .int .i64 0, .slice ai 0 ci, .slice at' 0 ct] 26)) #[.int .u8 1, .bool nb, .slice b B.length cb, .string ⟨#[]⟩, .int .i64 0, .slice bi 0 cbi, .slice bt 0 cbt] (w.heap.size + 1) (by simp)).old (.cells #[.int .u8 0, .bool false, .slice none 0 0, .string ⟨#[]⟩, .int .i64 0, .slice none 0 0, .slice none 0 0] 26)).old (.cells #[.int .u8 1, .bool na, .slice a A.length ca, .string ⟨#[]⟩, .int .i64 0, .slice ai 0 ci, .slice at' 0 ct] 26)).old (.cells #[.int .u8 1, .bool nb, .slice b B.length cb, .string ⟨#[]⟩, .int .i64 0, .slice bi 0 cbi, .slice bt 0 cbt] 26))
  have tR0 : Tb W (w.heap.size + 2) #[.int .u8 0, .bool false, .slice none 0 0, .string ⟨#[]⟩, .int .i64 0, .slice none 0 0, .slice none 0 0] := by rw [hW]; exact (((Tb.new ((w.alloc (.cells #[.int .u8 1, .bool na, .slice a A.length ca, .string ⟨#[]⟩, .int .i64 0, .slice ai 0 ci, .slice at' 0 ct] 26)).alloc (.cells #[.int .u8 1, .bool nb, .slice b B.length cb, .string ⟨#[]⟩, .int .i64 0, .slice bi 0 cbi, .slice bt 0 cbt] 26)) #[.int .u8 0, .bool false, .slice none 0 0, .string ⟨#[]⟩, .int .i64 0, .slice none 0 0, .slice none 0 0] (w.heap.size + 2) (by simp)).old (.cells #[.int .u8 1, .bool na, .slice a A.length ca, .string ⟨#[]⟩, .int .i64 0, .slice ai 0 ci, .slice at' 0 ct] 26)).old (.cells #[.int .u8 1, .bool nb, .slice b B.length cb, .string ⟨#[]⟩, .int .i64 0, .slice bi 0 cbi, .slice bt 0 cbt] 26))
  rw [← hW]
  clear hW
  have cA1 : W.cell? ⟨w.heap.size, 1, none⟩ = some (.bool na) := tA.cell 1
  have cA2 : W.cell? ⟨w.heap.size, 2, none⟩ = some (.slice a A.length ca) := tA.cell 2
  have cB1 : W.cell? ⟨w.heap.size + 1, 1, none⟩ = some (.bool nb) := tB.cell 1
  have cB2 : W.cell? ⟨w.heap.size + 1, 2, none⟩ = some (.slice b B.length cb) := tB.cell 2
  have hsz := tR0.lt
  have HUW : Hid _ := hUW
  have HTR : Hid _ := tR0
  clear hUW tR0 tA tB
  have hne1 : (w.heap.size + 1 + 1 = w.heap.size) = False := eq_false (by omega)
  have hne2 : (w.heap.size = w.heap.size + 1 + 1) = False := eq_false (by omega)
  go_region_held3 (fun w' => w'.cell? ⟨w.heap.size, 1, none⟩ = some (.bool na) ∧ w'.cell? ⟨w.heap.size, 2, none⟩ = some (.slice a A.length ca) ∧ w'.cell? ⟨w.heap.size + 1, 1, none⟩ = some (.bool nb) ∧ w'.cell? ⟨w.heap.size + 1, 2, none⟩ = some (.slice b B.length cb) ∧ W.heap.size ≤ w'.heap.size)
    (go_keep)
    (first
      | (go_at_call 130; refine (timesLimbs_any a b ca cb _ _ A B _ ?_ ?_ ?_ ?_ HTA.out.norm HTB.out.norm).mono ?_; (omega); (omega); (exact HTA.out.mem.mono (by first | exact HUW.out | exact HUW.out.drew)); (exact HTB.out.mem.mono (by first | exact HUW.out | exact HUW.out.drew)); rintro e w3 ⟨hU3, a1, c1, M1, rfl, nM1, hA1, hl1, hc11, hc12⟩; have k1 : w3.cell? ⟨w.heap.size, 1, none⟩ = some (.bool na) := (hU3.cell (p := ⟨w.heap.size, 1, none⟩) (by show w.heap.size < W.heap.size; omega) (by simp)).trans cA1; have k2 : w3.cell? ⟨w.heap.size, 2, none⟩ = some (.slice a A.length ca) := (hU3.cell (p := ⟨w.heap.size, 2, none⟩) (by show w.heap.size < W.heap.size; omega) (by simp)).trans cA2; have k3 : w3.cell? ⟨w.heap.size + 1, 1, none⟩ = some (.bool nb) := (hU3.cell (p := ⟨w.heap.size + 1, 1, none⟩) (by show w.heap.size + 1 < W.heap.size; omega) (by simp)).trans cB1; have k4 : w3.cell? ⟨w.heap.size + 1, 2, none⟩ = some (.slice b B.length cb) := (hU3.cell (p := ⟨w.heap.size + 1, 2, none⟩) (by show w.heap.size + 1 < W.heap.size; omega) (by simp)).trans cB2; have k5 : W.heap.size ≤ w3.heap.size := hU3.size)
      | (go_at_call 129; refine (fitting_any a1 c1 _ (!(na == nb)) M1 _ w3 ?_ nM1 hA1 HZ.out).mono ?_; (omega); rintro e w4 ⟨hR, hU4⟩; obtain ⟨_, rfl⟩ := hR.resolve_left (fun h => HF.out h.1); clear hR; have q1 : w4.cell? ⟨w.heap.size, 1, none⟩ = some (.bool na) := (hU4.cell (p := ⟨w.heap.size, 1, none⟩) (by show w.heap.size < w3.heap.size; omega) (by simp)).trans k1; have q2 : w4.cell? ⟨w.heap.size, 2, none⟩ = some (.slice a A.length ca) := (hU4.cell (p := ⟨w.heap.size, 2, none⟩) (by show w.heap.size < w3.heap.size; omega) (by simp)).trans k2; have q3 : w4.cell? ⟨w.heap.size + 1, 1, none⟩ = some (.bool nb) := (hU4.cell (p := ⟨w.heap.size + 1, 1, none⟩) (by show w.heap.size + 1 < w3.heap.size; omega) (by simp)).trans k3; have q4 : w4.cell? ⟨w.heap.size + 1, 2, none⟩ = some (.slice b B.length cb) := (hU4.cell (p := ⟨w.heap.size + 1, 2, none⟩) (by show w.heap.size + 1 < w3.heap.size; omega) (by simp)).trans k4; have q5 : W.heap.size ≤ w4.heap.size := Nat.le_trans k5 hU4.size; have hT4 : Tb w4 (w.heap.size + 1 + 1) #[.int .u8 0, .bool false, .slice none 0 0, .string ⟨#[]⟩, .int .i64 0, .slice none 0 0, .slice none 0 0] := Tb.mono (Tb.mono (w := W.drew) HTR.out hU3 (by simp)) hU4 (by simp); have z0 : w4.cell? ⟨w.heap.size + 1 + 1, 0, none⟩ = some (.int .u8 0) := hT4.cell 0; have z1 : w4.cell? ⟨w.heap.size + 1 + 1, 1, none⟩ = some (.bool false) := hT4.cell 1; have z2 : w4.cell? ⟨w.heap.size + 1 + 1, 2, none⟩ = some (.slice none 0 0) := hT4.cell 2; have z3 : w4.cell? ⟨w.heap.size + 1 + 1, 3, none⟩ = some (.string ⟨#[]⟩) := hT4.cell 3; have z4 : w4.cell? ⟨w.heap.size + 1 + 1, 4, none⟩ = some (.int .i64 0) := hT4.cell 4; have z5 : w4.cell? ⟨w.heap.size + 1 + 1, 5, none⟩ = some (.slice none 0 0) := hT4.cell 5; have z6 : w4.cell? ⟨w.heap.size + 1 + 1, 6, none⟩ = some (.slice none 0 0) := hT4.cell 6; have zf : ∀ i, w4.frozen? ⟨w.heap.size + 1 + 1, i, none⟩ = false := fun i => hT4.free i; have HT4 : Hid _ := hT4; clear hT4))
  all_goals
    go_wp2
    have hU5 := (HUW.out.drew.trans hU3).trans hU4
    have h7 := seven HT4.out (.int .u8 0) (.bool false) (.slice none 0 0) (.string ⟨#[]⟩) (.int .i64 0) (.slice none 0 0) (.slice none 0 0)
    exact ret_Tb Tryz.results104 rfl _ _ _ rfl h7.1 rfl rfl ⟨Or.inr ⟨HF.out, rfl⟩, hU5.then h7.2 (by simp <;> omega)⟩

/-- Times, of right integers. -/
theorem Times_any (a ai at' b bi bt : Option Addr) (ca ci ct cb cbi cbt : Nat) (na nb : Bool) (A B : List Nat) (x y : Int) (w : World) (HA : TI w na a A x) (HB : TI w nb b B y) :
    Calls Tryz.prog 104 #[.agg #[.int .u8 1, .bool na, .slice a A.length ca, .string ⟨#[]⟩, .int .i64 0, .slice ai 0 ci, .slice at' 0 ct], .agg #[.int .u8 1, .bool nb, .slice b B.length cb, .string ⟨#[]⟩, .int .i64 0, .slice bi 0 cbi, .slice bt 0 cbt]] w fun e w' => Res w' e (x * y) ∧ Upd [] w w' := by
  by_cases h : (x * y).natAbs < 4294967296 ^ 32
  · exact Times_fit a ai at' b bi bt ca ci ct cb cbi cbt na nb A B x y w HA HB h
  · exact Times_not a ai at' b bi bt ca ci ct cb cbi cbt na nb A B x y w HA HB h

end Go.Proofs.YtnpocmhaoaigfaaGreatDoor
