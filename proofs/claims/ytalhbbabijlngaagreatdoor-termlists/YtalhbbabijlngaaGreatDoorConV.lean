/- Cons of package term: whatever two terms, the answer's rows lie apart. -/
import Derived.Test.YtalhbbabijlngaaGreatDoorJAW
namespace Go.Proofs.YtalhbbabijlngaaGreatDoor
open Go.RowKit
set_option maxHeartbeats 8000000 in
set_option maxRecDepth 100000 in
theorem Cons_elseS (B d ci ct c : Nat) (k num : Int) (neg : Bool) (s : ByteArray) (L : List Nat) (a ai at' : Option Addr) (I T : List Tm) (h : Tm) (q0 q1 q2 q3 q4 q5 q6 : Value) (w : World) (hB : B ≤ w.heap.size) (hh : InB (fun b => b < B) w (d + 1) [q0, q1, q2, q3, q4, q5, q6] h) (hin : InB (fun b => b < B) w (d + 1) [.int .u8 k, .bool neg, .slice a L.length c, .string s, .int .i64 num, .slice ai I.length ci, .slice at' T.length ct] (Tm.mk k num neg L s I T))
  (hzh : tsz h ≤ 1353245080330) (hz : tsz (Tm.mk k num neg L s I T) ≤ 1353245080330) (hok : okS (Tm.mk k num neg L s I T) = true) (hokh : okS h = true) (hk : k ≠ 7) :
  Calls Tryz.prog 24 #[.agg #[q0, q1, q2, q3, q4, q5, q6], .agg #[.int .u8 k, .bool neg, .slice a L.length c, .string s, .int .i64 num, .slice ai I.length ci, .slice at' T.length ct]] w (ConsQ w (d + 2) (pickT (okS (consT h [] [(Tm.mk k num neg L s I T)])) (consT h [] [(Tm.mk k num neg L s I T)]))) := by
 have HR1 : Hid (∀ V, Upd [] w V → Calls Tryz.prog 9 #[.agg #[q0, q1, q2, q3, q4, q5, q6]] V fun e w' => e = .returned (.bool true) ∧ Upd [] V w') := fun V hU => by
  have := TRight_in (d + 1) V _ _ (In.mono hU _ _ _ (InB.plain _ _ _ hh)) hzh
  rw [hokh] at this
  exact this
 have HR2 : Hid (∀ V, Upd [] w V → Calls Tryz.prog 9 #[.agg #[.int .u8 k, .bool neg, .slice a L.length c, .string s, .int .i64 num, .slice ai I.length ci, .slice at' T.length ct]] V fun e w' => e = .returned (.bool true) ∧ Upd [] V w') := fun V hU => by
  have := TRight_in (d + 1) V _ _ (In.mono hU _ _ _ (InB.plain _ _ _ hin)) hz
  rw [hok] at this
  exact this
 have hone := (InB.plain _ _ _ hh).one
 have hb1 : belT h ≤ 4096 := by
  rw [okS_iff] at hokh
  have := bel_lt h
  omega
 have hb2 : I.length + belR I + (T.length + belR T) ≤ 4096 := by
  rw [okS_iff] at hok
  have := bel_lt (Tm.mk k num neg L s I T)
  rw [belT] at this
  omega
 have hz' := hz
 simp only [tsz] at hz
 have hzI : tszs I ≤ 1353245080330 := by omega
 have hzT : tszs T ≤ 1353245080330 := by omega
 have hLl : L.length ≤ 35184372088700 := by omega
 have hIl : I.length ≤ 1353245080330 := Nat.le_trans (tszs_len I) hzI
 have hTl : T.length ≤ 1353245080330 := Nat.le_trans (tszs_len T) hzT
 have kne : (k == 7) = false := beq_eq_false_iff_ne.2 hk
 have hbl : [h].length + belR [h] ≤ 65536 := by simp only [List.length_cons, List.length_nil, belR]; omega
 have hblT : [(Tm.mk k num neg L s I T)].length + belR [(Tm.mk k num neg L s I T)] ≤ 65536 := by simp only [List.length_cons, List.length_nil, belR, belT]; omega
 have hzJ : tszs [h] ≤ 1353245080330 := by simp only [tszs, List.length_nil]; omega
 have hzU : tszs [(Tm.mk k num neg L s I T)] ≤ 1353245080330 := by simp only [tszs, List.length_nil]; omega
 have HXT : Hid (InB (fun b => b < B) w (d + 1) [.int .u8 k, .bool neg, .slice a L.length c, .string s, .int .i64 num, .slice ai I.length ci, .slice at' T.length ct] (Tm.mk k num neg L s I T)) := hin
 clear hok hokh hin hk
 have hU0 : Upd [] w (((w.alloc (.cells #[q0, q1, q2, q3, q4, q5, q6] 26)).alloc (.cells #[.int .u8 k, .bool neg, .slice a L.length c, .string s, .int .i64 num, .slice ai I.length ci, .slice at' T.length ct] 26)).alloc (.cells #[.int .u8 0, .bool false, .slice none 0 0, .string ⟨#[]⟩, .int .i64 0, .slice none 0 0, .slice none 0 0] 26)) := (((Upd.refl [] w).alloc _).alloc _).alloc _
 have tb0 : Tb (((w.alloc (.cells #[q0, q1, q2, q3, q4, q5, q6] 26)).alloc (.cells #[.int .u8 k, .bool neg, .slice a L.length c, .string s, .int .i64 num, .slice ai I.length ci, .slice at' T.length ct] 26)).alloc (.cells #[.int .u8 0, .bool false, .slice none 0 0, .string ⟨#[]⟩, .int .i64 0, .slice none 0 0, .slice none 0 0] 26)) w.heap.size #[q0, q1, q2, q3, q4, q5, q6] := ((Tb.new _ _ _ rfl).old _).old _
 have tb1 : Tb (((w.alloc (.cells #[q0, q1, q2, q3, q4, q5, q6] 26)).alloc (.cells #[.int .u8 k, .bool neg, .slice a L.length c, .string s, .int .i64 num, .slice ai I.length ci, .slice at' T.length ct] 26)).alloc (.cells #[.int .u8 0, .bool false, .slice none 0 0, .string ⟨#[]⟩, .int .i64 0, .slice none 0 0, .slice none 0 0] 26)) (w.heap.size + 1) #[.int .u8 k, .bool neg, .slice a L.length c, .string s, .int .i64 num, .slice ai I.length ci, .slice at' T.length ct] := (Tb.new _ _ _ (by simp)).old _
 have tb2 : Tb (((w.alloc (.cells #[q0, q1, q2, q3, q4, q5, q6] 26)).alloc (.cells #[.int .u8 k, .bool neg, .slice a L.length c, .string s, .int .i64 num, .slice ai I.length ci, .slice at' T.length ct] 26)).alloc (.cells #[.int .u8 0, .bool false, .slice none 0 0, .string ⟨#[]⟩, .int .i64 0, .slice none 0 0, .slice none 0 0] 26)) (w.heap.size + 1 + 1) #[.int .u8 0, .bool false, .slice none 0 0, .string ⟨#[]⟩, .int .i64 0, .slice none 0 0, .slice none 0 0] := Tb.new _ _ _ (by simp)
 obtain ⟨W, hW⟩ : ∃ W, W = (((w.alloc (.cells #[q0, q1, q2, q3, q4, q5, q6] 26)).alloc (.cells #[.int .u8 k, .bool neg, .slice a L.length c, .string s, .int .i64 num, .slice ai I.length ci, .slice at' T.length ct] 26)).alloc (.cells #[.int .u8 0, .bool false, .slice none 0 0, .string ⟨#[]⟩, .int .i64 0, .slice none 0 0, .slice none 0 0] 26)) := ⟨_, rfl⟩
 have hsW : W.heap.size = w.heap.size + 3 := by rw [hW]; simp
 obtain ⟨bb, hbb⟩ : ∃ b, okS (consT h [] [(Tm.mk k num neg L s I T)]) = b := ⟨_, rfl⟩
 have hzC : tsz (consT h [] [(Tm.mk k num neg L s I T)]) ≤ 1353245080330 := by unfold consT; simp only [tsz, tszs, List.length_nil]; omega
 rw [hbb]
 have HX0 : Hid (InB (fun b => b < B) w (d + 1) [q0, q1, q2, q3, q4, q5, q6] h) := hh
 have HOC : Hid (okS (consT h [] [(Tm.mk k num neg L s I T)]) = bb) := hbb
 have HZC : Hid (tsz (consT h [] [(Tm.mk k num neg L s I T)]) ≤ 1353245080330) := hzC
 clear hh hbb hzC hz' hz
 go_enter Tryz.func24, Tryz.ntmps24
 go_wp2_with (first | (refine load_T _ rfl _ rfl _ _ rfl tb0 rfl ?_) | fail)
 rw [← hW] at hU0 tb0 tb1 tb2 ⊢
 clear hW
 refine Calls.mono (HR1.out W hU0) ?_
 rintro e w1 ⟨rfl, hU1⟩
 have tc1 := tb1.mono hU1 (by simp)
 go_wp2_with (first | (refine load_G _ _ rfl _ _ rfl tc1 rfl rfl ?_) | fail)
 refine Calls.mono (HR2.out w1 (hU0.trans hU1)) ?_
 rintro e w2 ⟨rfl, hU2⟩
 have hU3 : Upd [] W w2 := hU1.trans hU2
 have td0 := tb0.mono hU3 (by simp)
 have td1 := tb1.mono hU3 (by simp)
 have td2 := tb2.mono hU3 (by simp)
 have hUa : Upd [] w2 (w2.alloc (.cells #[q0, q1, q2, q3, q4, q5, q6] 26)) := (Upd.refl [] w2).alloc _
 have te1 := td1.old (.cells #[q0, q1, q2, q3, q4, q5, q6] 26)
 have te2 := td2.old (.cells #[q0, q1, q2, q3, q4, q5, q6] 26)
 have tef : Tb (w2.alloc (.cells #[q0, q1, q2, q3, q4, q5, q6] 26)) w2.heap.size #[q0, q1, q2, q3, q4, q5, q6] := Tb.new _ _ _ rfl
 have x0 : (w2.alloc (.cells #[q0, q1, q2, q3, q4, q5, q6] 26)).cell? ⟨w.heap.size + 1, 0, none⟩ = some (.int .u8 k) := te1.cell 0
 have hUW2 : Upd [] w w2 := hU0.trans hU3
 have hsz2 : w.heap.size + 3 ≤ w2.heap.size := by have := hU3.size; omega
 obtain ⟨X, hX⟩ : ∃ X, X = w2.alloc (.cells #[q0, q1, q2, q3, q4, q5, q6] 26) := ⟨_, rfl⟩
 have HSX : Hid (X.heap.size = w2.heap.size + 1) := by show _ = _; rw [hX]; simp
 go_wp2_with (first | (refine load_T _ rfl _ rfl _ _ rfl td0 rfl ?_) | fail)
 rw [← hX] at hUa te1 te2 tef x0 ⊢
 have HUX : Hid (Upd [] w X) := hUW2.trans hUa
 have HTE2 : Hid (Tb X _ _) := te2
 have HTF : Hid (Tb X w2.heap.size #[q0, q1, q2, q3, q4, q5, q6]) := tef
 have x1 : X.cell? ⟨w.heap.size + 1, 1, none⟩ = some (.bool neg) := te1.cell 1
 have x2 : X.cell? ⟨w.heap.size + 1, 2, none⟩ = some (.slice a L.length c) := te1.cell 2
 have x3 : X.cell? ⟨w.heap.size + 1, 3, none⟩ = some (.string s) := te1.cell 3
 have x4 : X.cell? ⟨w.heap.size + 1, 4, none⟩ = some (.int .i64 num) := te1.cell 4
 have x5 : X.cell? ⟨w.heap.size + 1, 5, none⟩ = some (.slice ai I.length ci) := te1.cell 5
 have x6 : X.cell? ⟨w.heap.size + 1, 6, none⟩ = some (.slice at' T.length ct) := te1.cell 6
 have HS : Hid (∀ w', Upd [w.heap.size + 1 + 1] X w' → w'.cell? ⟨w.heap.size + 1, 0, none⟩ = some (.int .u8 k) ∧ w'.cell? ⟨w.heap.size + 1, 1, none⟩ = some (.bool neg) ∧ w'.cell? ⟨w.heap.size + 1, 2, none⟩ = some (.slice a L.length c) ∧ w'.cell? ⟨w.heap.size + 1, 3, none⟩ = some (.string s) ∧ w'.cell? ⟨w.heap.size + 1, 4, none⟩ = some (.int .i64 num) ∧ w'.cell? ⟨w.heap.size + 1, 5, none⟩ = some (.slice ai I.length ci) ∧ w'.cell? ⟨w.heap.size + 1, 6, none⟩ = some (.slice at' T.length ct)) := fun w' hu => ⟨(te1.mono hu (by simp)).cell 0, (te1.mono hu (by simp)).cell 1, (te1.mono hu (by simp)).cell 2, (te1.mono hu (by simp)).cell 3, (te1.mono hu (by simp)).cell 4, (te1.mono hu (by simp)).cell 5, (te1.mono hu (by simp)).cell 6⟩
 have UC : Hid (Upd [] X X) := Upd.refl [] X
 have hl1 : w.heap.size + 1 < X.heap.size := te1.lt
 clear td0 td1 td2 tb0 tb1 tb2 tc1 hU1 hU2 hU3 hU0 hUa te1 te2 tef hX hUW2
 have HF1 : Hid (∀ V g, Upd [] X V → V.cell? ⟨g, 0, none⟩ = some (.slice (some ⟨w2.heap.size, 0, none⟩) 1 1) → Calls Tryz.prog 50 #[.slice (some ⟨g, 0, none⟩) 1 1] V (FreshS B V (d + 1) [h])) := fun V g hU hc0 => by
  have hUV := HUX.out.trans hU
  have hr0 := Tb.row (R := InB (fun b => b < B) V (d + 1)) (cs := [q0, q1, q2, q3, q4, q5, q6]) (HTF.out.mono hU (by simp)) rfl (InB.upd hUV (by simp) (fun b hb _ => hb) _ _ _ HX0.out)
  exact fresh_oneS B g 0 1 1 (d + 1) _ _ [h] V (World.block_lt_of_cell? _ _ hc0) (Nat.le_trans hB hUV.size) hc0 hr0 hbl hzJ
 have HF2 : Hid (∀ V g, Upd [] X V → (∃ gt, V.cell? ⟨g, 0, none⟩ = some (.slice (some ⟨gt, 0, none⟩) 1 1) ∧ Tb V gt #[.int .u8 k, .bool neg, .slice a L.length c, .string s, .int .i64 num, .slice ai I.length ci, .slice at' T.length ct]) → Calls Tryz.prog 50 #[.slice (some ⟨g, 0, none⟩) 1 1] V (FreshS B V (d + 1) [(Tm.mk k num neg L s I T)])) := fun V g hU ⟨gt, hc, hT⟩ => by
  have hUV := HUX.out.trans hU
  have hr0 := Tb.row (R := InB (fun b => b < B) V (d + 1)) (cs := [.int .u8 k, .bool neg, .slice a L.length c, .string s, .int .i64 num, .slice ai I.length ci, .slice at' T.length ct]) hT rfl (InB.upd hUV (by simp) (fun b hb _ => hb) _ _ _ HXT.out)
  exact fresh_oneS B g 0 1 1 (d + 1) _ _ [(Tm.mk k num neg L s I T)] V (World.block_lt_of_cell? _ _ hc) (Nat.le_trans hB hUV.size) hc hr0 hblT hzU
 have HF3 : Hid (∀ V a3 c3 a4 c4, InB (Pl B X.heap.size) V (d + 2) [.int .u8 7, .bool false, .slice none 0 0, .string ⟨#[]⟩, .int .i64 0, .slice a3 1 c3, .slice a4 1 c4] (consT h [] [(Tm.mk k num neg L s I T)]) → Calls Tryz.prog 63 #[.agg #[.int .u8 7, .bool false, .slice none 0 0, .string ⟨#[]⟩, .int .i64 0, .slice a3 1 c3, .slice a4 1 c4]] V fun e w' => e = .returned (.agg #[.int .u8 (fk bb), .bool false, .slice none 0 0, .string ⟨#[]⟩, .int .i64 0, .slice (fa bb a3) (fn bb 1) (fn bb c3), .slice (fa bb a4) (fn bb 1) (fn bb c4)]) ∧ Upd [] V w') := fun V a3 c3 a4 c4 hin => fit_gen (d + 2) _ _ _ _ _ _ V _ bb HOC.out (InB.plain _ _ _ hin) HZC.out
 clear HR1 HR2
 go_wp2_with fail
 go_region_held3 (fun w' => w'.cell? ⟨w.heap.size + 1, 0, none⟩ = some (.int .u8 k) ∧ w'.cell? ⟨w.heap.size + 1, 1, none⟩ = some (.bool neg) ∧ w'.cell? ⟨w.heap.size + 1, 2, none⟩ = some (.slice a L.length c) ∧ w'.cell? ⟨w.heap.size + 1, 3, none⟩ = some (.string s) ∧ w'.cell? ⟨w.heap.size + 1, 4, none⟩ = some (.int .i64 num) ∧ w'.cell? ⟨w.heap.size + 1, 5, none⟩ = some (.slice ai I.length ci) ∧ w'.cell? ⟨w.heap.size + 1, 6, none⟩ = some (.slice at' T.length ct))
  (exact HS.out _ (by repeat (first | with_reducible exact Upd.wid UC.out | with_reducible refine Upd.setCell ?_ (Or.inr (by simp)) _ | with_reducible refine Upd.drew ?_ | with_reducible refine Upd.alloc ?_ _)))
  (first
   | (go_at_call 63; go_loud (refine Calls.mono (HF3.out _ a3 c3 a4 c4 ?_) ?_); go_loud (exact ⟨none, a3, a4, 0, c3, c4, rfl, Or.inl rfl, Dig.nil, RowB.upd (S := []) (w := w3) (Upd.trans uw4.out (by repeat (first | with_reducible exact Upd.refl _ _ | with_reducible refine Upd.drew ?_ | with_reducible refine Upd.alloc ?_ _))) (by simp) (fun b hb _ => hb) HR3.out, RowB.upd (S := []) (w := w4) (by repeat (first | with_reducible exact Upd.refl _ _ | with_reducible refine Upd.drew ?_ | with_reducible refine Upd.alloc ?_ _)) (by simp) (fun b hb _ => hb) HR4.out⟩); rintro e w5 ⟨rfl, hU5⟩; have uw5 : Hid (Upd [] w4 w5) := Upd.trans (by repeat (first | with_reducible exact Upd.refl _ _ | with_reducible refine Upd.drew ?_ | with_reducible refine Upd.alloc ?_ _)) hU5; clear hU5; have mx0 : w5.cell? ⟨w.heap.size + 1, 0, none⟩ = some (.int .u8 k) := (((uw3.out.trans uw4.out).trans uw5.out).cell (p := ⟨w.heap.size + 1, 0, none⟩) hl1 (by simp)).trans x0; have mx1 : w5.cell? ⟨w.heap.size + 1, 1, none⟩ = some (.bool neg) := (((uw3.out.trans uw4.out).trans uw5.out).cell (p := ⟨w.heap.size + 1, 1, none⟩) hl1 (by simp)).trans x1; have mx2 : w5.cell? ⟨w.heap.size + 1, 2, none⟩ = some (.slice a L.length c) := (((uw3.out.trans uw4.out).trans uw5.out).cell (p := ⟨w.heap.size + 1, 2, none⟩) hl1 (by simp)).trans x2; have mx3 : w5.cell? ⟨w.heap.size + 1, 3, none⟩ = some (.string s) := (((uw3.out.trans uw4.out).trans uw5.out).cell (p := ⟨w.heap.size + 1, 3, none⟩) hl1 (by simp)).trans x3; have mx4 : w5.cell? ⟨w.heap.size + 1, 4, none⟩ = some (.int .i64 num) := (((uw3.out.trans uw4.out).trans uw5.out).cell (p := ⟨w.heap.size + 1, 4, none⟩) hl1 (by simp)).trans x4; have mx5 : w5.cell? ⟨w.heap.size + 1, 5, none⟩ = some (.slice ai I.length ci) := (((uw3.out.trans uw4.out).trans uw5.out).cell (p := ⟨w.heap.size + 1, 5, none⟩) hl1 (by simp)).trans x5; have mx6 : w5.cell? ⟨w.heap.size + 1, 6, none⟩ = some (.slice at' T.length ct) := (((uw3.out.trans uw4.out).trans uw5.out).cell (p := ⟨w.heap.size + 1, 6, none⟩) hl1 (by simp)).trans x6; have tbx := ((HTE2.out.mono uw3.out (by simp)).mono uw4.out (by simp)).mono uw5.out (by simp); have z0 : w5.cell? ⟨w.heap.size + 1 + 1, 0, none⟩ = some (.int .u8 0) := tbx.cell 0; have f0 : w5.frozen? ⟨w.heap.size + 1 + 1, 0, none⟩ = false := tbx.free 0; have z1 : w5.cell? ⟨w.heap.size + 1 + 1, 1, none⟩ = some (.bool false) := tbx.cell 1; have f1 : w5.frozen? ⟨w.heap.size + 1 + 1, 1, none⟩ = false := tbx.free 1; have z2 : w5.cell? ⟨w.heap.size + 1 + 1, 2, none⟩ = some (.slice none 0 0) := tbx.cell 2; have f2 : w5.frozen? ⟨w.heap.size + 1 + 1, 2, none⟩ = false := tbx.free 2; have z3 : w5.cell? ⟨w.heap.size + 1 + 1, 3, none⟩ = some (.string ⟨#[]⟩) := tbx.cell 3; have f3 : w5.frozen? ⟨w.heap.size + 1 + 1, 3, none⟩ = false := tbx.free 3; have z4 : w5.cell? ⟨w.heap.size + 1 + 1, 4, none⟩ = some (.int .i64 0) := tbx.cell 4; have f4 : w5.frozen? ⟨w.heap.size + 1 + 1, 4, none⟩ = false := tbx.free 4; have z5 : w5.cell? ⟨w.heap.size + 1 + 1, 5, none⟩ = some (.slice none 0 0) := tbx.cell 5; have f5 : w5.frozen? ⟨w.heap.size + 1 + 1, 5, none⟩ = false := tbx.free 5; have z6 : w5.cell? ⟨w.heap.size + 1 + 1, 6, none⟩ = some (.slice none 0 0) := tbx.cell 6; have f6 : w5.frozen? ⟨w.heap.size + 1 + 1, 6, none⟩ = false := tbx.free 6; have HTX : Hid (Tb w5 _ _) := tbx; clear tbx; have UC : Hid (Upd [] X w5) := (uw3.out.trans uw4.out).trans uw5.out)
   | (go_at_call 50; (have _hw := uw3); go_loud (refine Calls.mono (HF2.out _ _ (by repeat (first | with_reducible exact Upd.refl _ _ | with_reducible exact uw3.out | with_reducible refine Upd.drew ?_ | with_reducible refine Upd.alloc ?_ _)) (by apply Exists.intro; apply And.intro; (repeat (first | focus (with_reducible refine cellN _ ?_; simp; done) | with_reducible refine cellU HU3.out ?_ | with_reducible refine cellA ?_ _ | with_reducible refine cellD ?_)); (repeat (first | focus (with_reducible refine Tb.new _ _ _ ?_; simp; done) | with_reducible refine Tb.mono ?_ HU3.out (by simp) | with_reducible refine Tb.old ?_ _ | with_reducible refine Tb.mono ?_ (Upd.drew (Upd.refl [] _)) (by simp))))) ?_); rintro e w4 ⟨a4, c4, rfl, hR4, hU4, _, _, LB4, RB4, hB4, hA4, hK4⟩; have uw4 : Hid (Upd [] w3 w4) := Upd.trans (by repeat (first | with_reducible exact Upd.refl _ _ | with_reducible refine Upd.drew ?_ | with_reducible refine Upd.alloc ?_ _)) hU4; have HR4 : Hid (RowB (Pl B X.heap.size) (InB (Pl B X.heap.size) w4 (d + 1)) w4 a4 [(Tm.mk k num neg L s I T)]) := hR4.weak (Nat.le_trans uw3.out.size (Upd.size (w := w3) (S := []) (by repeat (first | with_reducible exact Upd.refl _ _ | with_reducible refine Upd.drew ?_ | with_reducible refine Upd.alloc ?_ _)))); have HS4 : Hid (SepR w3.heap.size w4.heap.size w4 (d + 1) (.slice a4 ([(Tm.mk k num neg L s I T)]).length c4) [(Tm.mk k num neg L s I T)]) := SepR.mk' hB4 hA4 (Upd.size (w := w3) (S := []) (by repeat (first | with_reducible exact Upd.refl _ _ | with_reducible refine Upd.drew ?_ | with_reducible refine Upd.alloc ?_ _))) hK4; clear hR4 hU4 hB4 hA4 hK4; have lx0 : w4.cell? ⟨w.heap.size + 1, 0, none⟩ = some (.int .u8 k) := ((uw3.out.trans uw4.out).cell (p := ⟨w.heap.size + 1, 0, none⟩) hl1 (by simp)).trans x0; have lx1 : w4.cell? ⟨w.heap.size + 1, 1, none⟩ = some (.bool neg) := ((uw3.out.trans uw4.out).cell (p := ⟨w.heap.size + 1, 1, none⟩) hl1 (by simp)).trans x1; have lx2 : w4.cell? ⟨w.heap.size + 1, 2, none⟩ = some (.slice a L.length c) := ((uw3.out.trans uw4.out).cell (p := ⟨w.heap.size + 1, 2, none⟩) hl1 (by simp)).trans x2; have lx3 : w4.cell? ⟨w.heap.size + 1, 3, none⟩ = some (.string s) := ((uw3.out.trans uw4.out).cell (p := ⟨w.heap.size + 1, 3, none⟩) hl1 (by simp)).trans x3; have lx4 : w4.cell? ⟨w.heap.size + 1, 4, none⟩ = some (.int .i64 num) := ((uw3.out.trans uw4.out).cell (p := ⟨w.heap.size + 1, 4, none⟩) hl1 (by simp)).trans x4; have lx5 : w4.cell? ⟨w.heap.size + 1, 5, none⟩ = some (.slice ai I.length ci) := ((uw3.out.trans uw4.out).cell (p := ⟨w.heap.size + 1, 5, none⟩) hl1 (by simp)).trans x5; have lx6 : w4.cell? ⟨w.heap.size + 1, 6, none⟩ = some (.slice at' T.length ct) := ((uw3.out.trans uw4.out).cell (p := ⟨w.heap.size + 1, 6, none⟩) hl1 (by simp)).trans x6; have UC : Hid (Upd [] X w4) := uw3.out.trans uw4.out)
   | (go_at_call 50; go_loud (refine Calls.mono (HF1.out _ _ (by repeat (first | with_reducible exact Upd.refl _ _ | with_reducible refine Upd.drew ?_ | with_reducible refine Upd.alloc ?_ _)) ?_) ?_); go_loud (repeat (first | focus (with_reducible refine cellN _ ?_; simp; done) | with_reducible refine cellA ?_ _ | with_reducible refine cellD ?_)); rintro e w3 ⟨a3, c3, rfl, hR3, hU3, hC3, hC3b, LB3, RB3, hB3, hA3, hK3⟩; have uw3 : Hid (Upd [] X w3) := Upd.trans (by repeat (first | with_reducible exact Upd.refl _ _ | with_reducible refine Upd.drew ?_ | with_reducible refine Upd.alloc ?_ _)) hU3; have HR3 : Hid (RowB (Pl B X.heap.size) (InB (Pl B X.heap.size) w3 (d + 1)) w3 a3 [h]) := hR3.weak (Upd.size (w := X) (S := []) (by repeat (first | with_reducible exact Upd.refl _ _ | with_reducible refine Upd.drew ?_ | with_reducible refine Upd.alloc ?_ _))); have HU3 : Hid (Upd [] _ w3) := hU3; have HC3 : Hid (1 ≤ c3 ∧ c3 ≤ 9223372036854775807) := ⟨hC3, hC3b⟩; have HS3 : Hid (SepR X.heap.size w3.heap.size w3 (d + 1) (.slice a3 ([h]).length c3) [h]) := SepR.mk' hB3 hA3 (Upd.size (w := X) (S := []) (by repeat (first | with_reducible exact Upd.refl _ _ | with_reducible refine Upd.drew ?_ | with_reducible refine Upd.alloc ?_ _))) hK3; clear hR3 hU3 hC3 hC3b hB3 hA3 hK3; have kx0 : w3.cell? ⟨w.heap.size + 1, 0, none⟩ = some (.int .u8 k) := (uw3.out.cell (p := ⟨w.heap.size + 1, 0, none⟩) hl1 (by simp)).trans x0; have kx1 : w3.cell? ⟨w.heap.size + 1, 1, none⟩ = some (.bool neg) := (uw3.out.cell (p := ⟨w.heap.size + 1, 1, none⟩) hl1 (by simp)).trans x1; have kx2 : w3.cell? ⟨w.heap.size + 1, 2, none⟩ = some (.slice a L.length c) := (uw3.out.cell (p := ⟨w.heap.size + 1, 2, none⟩) hl1 (by simp)).trans x2; have kx3 : w3.cell? ⟨w.heap.size + 1, 3, none⟩ = some (.string s) := (uw3.out.cell (p := ⟨w.heap.size + 1, 3, none⟩) hl1 (by simp)).trans x3; have kx4 : w3.cell? ⟨w.heap.size + 1, 4, none⟩ = some (.int .i64 num) := (uw3.out.cell (p := ⟨w.heap.size + 1, 4, none⟩) hl1 (by simp)).trans x4; have kx5 : w3.cell? ⟨w.heap.size + 1, 5, none⟩ = some (.slice ai I.length ci) := (uw3.out.cell (p := ⟨w.heap.size + 1, 5, none⟩) hl1 (by simp)).trans x5; have kx6 : w3.cell? ⟨w.heap.size + 1, 6, none⟩ = some (.slice at' T.length ct) := (uw3.out.cell (p := ⟨w.heap.size + 1, 6, none⟩) hl1 (by simp)).trans x6; have UC : Hid (Upd [] X w3) := uw3.out))
 all_goals
  have hsX2 := HSX.out
  obtain ⟨W5, hW5, hT5, hE5⟩ := cons_endS B X.heap.size (d + 1) (w.heap.size + 1 + 1) 1 c3 1 c4 a3 a4 (consT h [] [(Tm.mk k num neg L s I T)]) bb w w5 (by omega) (by omega) hB w3.heap.size w4.heap.size [h] [(Tm.mk k num neg L s I T)] rfl uw3.out.size (HS3.out.upd (S := []) (Upd.trans uw4.out uw5.out) (by simp)) (HS4.out.upd (S := []) uw5.out (by simp)) (((HUX.out.trans uw3.out).trans uw4.out).trans uw5.out) HTX.out HC3.out.1 HC3.out.2 (⟨none, a3, a4, 0, c3, c4, rfl, Or.inl rfl, Dig.nil, RowB.upd (S := []) (w := w3) (Upd.trans uw4.out uw5.out) (by simp) (fun b hb _ => hb) HR3.out, RowB.upd (S := []) (w := w4) uw5.out (by simp) (fun b hb _ => hb) HR4.out⟩)
  rw [← hW5]
  have HE5 : Hid _ := hE5
  clear z0 z1 z2 z3 z4 z5 z6 f0 f1 f2 f3 f4 f5 f6 hW5 hE5 hsX2 x0 x1 x2 x3 x4 x5 x6 kx0 kx1 kx2 kx3 kx4 kx5 kx6 lx0 lx1 lx2 lx3 lx4 lx5 lx6 mx0 mx1 mx2 mx3 mx4 mx5 mx6
  go_wp2
  exact ret_T Tryz.results24 rfl _ _ rfl hT5 rfl (HE5.out _ rfl)
theorem Cons_sep (d : Nat) (w : World) (cs cs' : List Value) (h t : Tm) (hh : In w (d + 1) cs h) (hin : In w (d + 1) cs' t) (hzh : tsz h ≤ 1353245080330) (hz : tsz t ≤ 1353245080330) :
  Calls Tryz.prog 24 #[.agg cs.toArray, .agg cs'.toArray] w (ConsQ w (d + 2) (consS h t)) := by
 obtain ⟨q0, q1, q2, q3, q4, q5, q6, rfl⟩ := list7 hh.len
 cases hok : (okS h && okS t) with
 | false =>
  obtain ⟨p0, p1, p2, p3, p4, p5, p6, rfl⟩ := list7 hin.len
  unfold consS
  rw [hok]
  exact Cons_badS (d + 1) w h t q0 q1 q2 q3 q4 q5 q6 p0 p1 p2 p3 p4 p5 p6 hh hin hzh hz hok
 | true =>
  rw [show consS h t = pickT (okS (consI h t)) (consI h t) by unfold consS pickT; rw [hok, Bool.true_and]]
  rw [Bool.and_eq_true] at hok
  have hhB := In.toB (P := fun b => b < w.heap.size) (fun b hb => hb) (Upd.refl [] w) _ _ _ hh
  have hinB := In.toB (P := fun b => b < w.heap.size) (fun b hb => hb) (Upd.refl [] w) _ _ _ hin
  obtain ⟨k, num, neg, L, s, I, T⟩ := t
  obtain ⟨a, ai, at', c, ci, ct, rfl, _⟩ := hin
  by_cases hk : k = 7
  ·subst hk
   rw [consI_l]
   exact Cons_listS w.heap.size d ci ct c num neg s L a ai at' I T h q0 q1 q2 q3 q4 q5 q6 w (Nat.le_refl _) hhB hinB hzh hz hok.2 hok.1
  ·rw [consI_e _ _ _ _ _ _ _ _ hk]
   exact Cons_elseS w.heap.size d ci ct c k num neg s L a ai at' I T h q0 q1 q2 q3 q4 q5 q6 w (Nat.le_refl _) hhB hinB hzh hz hok.2 hok.1 hk
end Go.Proofs.YtalhbbabijlngaaGreatDoor
