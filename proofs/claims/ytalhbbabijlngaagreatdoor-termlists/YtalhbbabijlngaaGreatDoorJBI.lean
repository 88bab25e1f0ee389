/- Split of the reference, of one item with a tail, and of whatever term. -/
import Derived.Test.YtalhbbabijlngaaGreatDoorJBH
import Derived.Test.YtalhbbabijlngaaGreatDoorJBG
import Derived.Test.YtalhbbabijlngaaGreatDoorJAH
import Derived.Test.YtalhbbabijlngaaGreatDoorJAR
import Derived.Test.YtalhbbabijlngaaGreatDoorJAW
namespace Go.Proofs.YtalhbbabijlngaaGreatDoor
open Go.RowKit
def SqR (s lo d : Nat) (v6 : Value) (X : Array Value) (bt ot : Nat) (P : Array Value) (u : Tm) : Nat → Value → World → Prop
 | 0, v, _ => v = .agg X
 | 1, v, _ => v = .pointer (some ⟨s, 6, none⟩)
 | 2, v, _ => v = v6
 | 3, v, _ => v = .pointer (some ⟨bt, ot, none⟩)
 | 4, v, _ => v = .agg P
 | 5, v, w' => TmS lo d w' u v
 | 6, _, w' => Tb w' (s + 1) X
 | 7, _, w' => ∃ cs : List Value, cs.length = 7 ∧ Tb w' (s + 1 + 1) cs.toArray ∧ InB (fun g => lo ≤ g) w' d cs u
 | 8, v, _ => v = .bool true
 | _, _, _ => True
theorem SqR.stab {s lo d : Nat} {v6 : Value} {X : Array Value} {bt ot : Nat} {P : Array Value} {u : Tm} (hl : s + 3 ≤ lo) (i j : Nat) (v : Value) (w w' : World) (hij : i ≠ j) (h : SqR s lo d v6 X bt ot P u j v w) (hu : Upd (SpS s 6 i) w w') : SqR s lo d v6 X bt ot P u j v w' := by
 have hS : ∀ x, x ∈ SpS s 6 i → x < lo := SpS_lt hl
 match j, h with
 | 0, h => exact h
 | 1, h => exact h
 | 2, h => exact h
 | 3, h => exact h
 | 4, h => exact h
 | 5, h => exact TmS.upd h hu hS
 | 6, h => exact Tb.mono h hu (by unfold SpS; rw [if_neg hij]; split <;> simp)
 | 7, ⟨cs, e7, e, h1⟩ => exact ⟨cs, e7, e.mono hu (by unfold SpS; rw [if_neg (show ¬ i = 6 + 1 from hij)]; split <;> simp), InB.upd hu (fun g hg hm => by have := hS g hm; omega) (fun g hg _ => hg) _ _ _ h1⟩
 | 8, h => exact h
 | _ + 9, _ => trivial
theorem wp_index0 {o : Oper} {a : Act} {w : World} {K : Act → World → Prop} {Q : Exit → Act → World → Prop} (x : Operand) (ho : o.op = .indexAddr 24 x (.const (.int .i64 0))) (b q n c : Nat) (hn : 1 ≤ n) (hx : a.eval x = .slice (some ⟨b, q, none⟩) n c)
  (h : K (a.put o.dst (.pointer (some ⟨b, q, none⟩))) w) : o.wp Tryz.prog a w K Q := by
 refine wp_pure ?_ h
 have he : a.eval (.const (.int .i64 0)) = .int .i64 0 := rfl
 unfold execOp
 simp only [ho, hx, he]
 simp [go_sem, Tryz.underlying24]
 omega
set_option maxHeartbeats 8000000 in
set_option maxRecDepth 100000 in
theorem RSplit_one (d b o bt ot ci ct c : Nat) (num : Int) (neg : Bool) (s : ByteArray) (L : List Nat) (a : Option Addr) (t u : Tm) (w : World) (hin : In w (d + 1) [.int .u8 7, .bool neg, .slice a L.length c, .string s, .int .i64 num, .slice (some ⟨b, o, none⟩) 1 ci, .slice (some ⟨bt, ot, none⟩) 1 ct] (.mk 7 num neg L s [t] [u]))
  (hz : tsz (.mk 7 num neg L s [t] [u]) ≤ 1353245080330) (hcn : cntT (.mk 7 num neg L s [t] [u]) ≤ 6000) (hok : okS (.mk 7 num neg L s [t] [u]) = true) :
  Calls Tryz.prog 27 #[.agg #[.int .u8 7, .bool neg, .slice a L.length c, .string s, .int .i64 num, .slice (some ⟨b, o, none⟩) 1 ci, .slice (some ⟨bt, ot, none⟩) 1 ct]] w fun e w' => ∃ cs cs' : List Value, cs.length = 7 ∧ cs'.length = 7 ∧ e = .returned (.tuple #[.agg cs.toArray, .agg cs'.toArray, .bool true]) ∧ In w' (d + 1) cs t ∧ In w' (d + 1) cs' u ∧ Upd [] w w' := by
 have HR : Hid (∀ V, Upd [] w V → Calls Tryz.prog 15 #[.agg #[.int .u8 7, .bool neg, .slice a L.length c, .string s, .int .i64 num, .slice (some ⟨b, o, none⟩) 1 ci, .slice (some ⟨bt, ot, none⟩) 1 ct]] V fun e w' => e = .returned (.bool true) ∧ Upd [] V w') := fun V hU => by
  have := right2_in (d + 1) V _ _ (In.mono hU _ _ _ hin) hz hcn
  rw [hok] at this
  exact this
 simp only [tsz, tszs] at hz
 have hzt : tsz t ≤ 1353245080330 := by omega
 have hzu : tsz u ≤ 1353245080330 := by omega
 obtain ⟨_, _, _, _, _, _, e, _, _, hI, hT⟩ := hin
 simp only [List.cons.injEq, Value.slice.injEq, true_and, and_true] at e
 obtain ⟨e2, ⟨e5, e5'⟩, e6, e6'⟩ := e
 rw [← e5] at hI
 rw [← e6] at hT
 clear e2 e5 e5' e6 e6'
 have hrow : ∀ (b o : Nat) (t : Tm), RowAt (In w d) w (some ⟨b, o, none⟩) [t] → ∃ p0 p1 p2 p3 p4 p5 p6, (∀ j, j < 7 → w.cell? ⟨b, o + j, none⟩ = [p0, p1, p2, p3, p4, p5, p6][j]?) ∧ In w d [p0, p1, p2, p3, p4, p5, p6] t := by
  intro b o t hI
  rcases hI with h0 | ⟨b', o', e, hlt, hc⟩
  ·cases h0
  ·cases e
   obtain ⟨cs, k1, k2, k3⟩ := hc 0 (by simp)
   obtain ⟨p0, p1, p2, p3, p4, p5, p6, rfl⟩ := list7 k1
   exact ⟨p0, p1, p2, p3, p4, p5, p6, fun j hj => by have := k2 j hj; rwa [Nat.zero_mul, Nat.zero_add] at this, k3⟩
 obtain ⟨p0, p1, p2, p3, p4, p5, p6, hpc, hpin⟩ := hrow _ _ _ hI
 obtain ⟨m0, m1, m2, m3, m4, m5, m6, hmc, hmin⟩ := hrow _ _ _ hT
 have hblt : b < w.heap.size := by have := World.block_lt_of_cell? _ _ (hpc 0 (by omega)); exact this
 have hbt : bt < w.heap.size := by have := World.block_lt_of_cell? _ _ (hmc 0 (by omega)); exact this
 obtain ⟨W, hW⟩ : ∃ W, W = (((w.alloc (.cells #[.int .u8 7, .bool neg, .slice a L.length c, .string s, .int .i64 num, .slice (some ⟨b, o, none⟩) 1 ci, .slice (some ⟨bt, ot, none⟩) 1 ct] 26)).alloc (.cells #[.int .u8 0, .bool false, .slice none 0 0, .string ⟨#[]⟩, .int .i64 0, .slice none 0 0, .slice none 0 0] 26)).alloc (.cells #[.int .u8 0, .bool false, .slice none 0 0, .string ⟨#[]⟩, .int .i64 0, .slice none 0 0, .slice none 0 0] 26)) := ⟨_, rfl⟩
 have hU0 : Upd [] w W := by rw [hW]; exact (((Upd.refl [] w).alloc _).alloc _).alloc _
 have tb0 : Tb W w.heap.size #[.int .u8 7, .bool neg, .slice a L.length c, .string s, .int .i64 num, .slice (some ⟨b, o, none⟩) 1 ci, .slice (some ⟨bt, ot, none⟩) 1 ct] := by rw [hW]; exact ((Tb.new _ _ _ rfl).old _).old _
 have tb1 : Tb W (w.heap.size + 1) #[.int .u8 0, .bool false, .slice none 0 0, .string ⟨#[]⟩, .int .i64 0, .slice none 0 0, .slice none 0 0] := by rw [hW]; exact (Tb.new _ _ _ (by simp)).old _
 have tb2 : Tb W (w.heap.size + 1 + 1) #[.int .u8 0, .bool false, .slice none 0 0, .string ⟨#[]⟩, .int .i64 0, .slice none 0 0, .slice none 0 0] := by rw [hW]; exact Tb.new _ _ _ (by simp)
 have hsW : W.heap.size = w.heap.size + 3 := by rw [hW]; simp
 have HI : Hid (RowAt (In w d) w (some ⟨b, o, none⟩) [t]) := hI
 have HT : Hid (RowAt (In w d) w (some ⟨bt, ot, none⟩) [u]) := hT
 have HP : Hid (In w d [p0, p1, p2, p3, p4, p5, p6] t) := hpin
 have HPC : Hid (∀ j, j < 7 → w.cell? ⟨b, o + j, none⟩ = [p0, p1, p2, p3, p4, p5, p6][j]?) := hpc
 have HMI : Hid (In w d [m0, m1, m2, m3, m4, m5, m6] u) := hmin
 have HMC : Hid (∀ j, j < 7 → w.cell? ⟨bt, ot + j, none⟩ = [m0, m1, m2, m3, m4, m5, m6][j]?) := hmc
 have HW : Hid (W = _) := hW
 clear hI hT hpin hpc hmin hmc hok hz hW hrow hcn
 go_enter Tryz.func27, Tryz.ntmps27
 go_wp2_with fail
 rw [← HW.out]
 refine Calls.mono (HR.out W hU0) ?_
 rintro e w1 ⟨rfl, hU1⟩
 have tc0 := tb0.mono hU1 (by simp)
 have HT1 : Hid (Tb w1 _ _) := tb1.mono hU1 (by simp)
 have HT2 : Hid (Tb w1 _ _) := tb2.mono hU1 (by simp)
 have HU1 : Hid (Upd [] w w1) := hU0.trans hU1
 have hl1 : w.heap.size < w1.heap.size := tc0.lt
 have hsz1 : w.heap.size + 3 ≤ w1.heap.size := by have := hU1.size; omega
 clear tb0 tb1 tb2 hU1 hU0
 have x0 : w1.cell? ⟨w.heap.size, 0, none⟩ = some (.int .u8 7) := tc0.cell 0
 have x5 : w1.cell? ⟨w.heap.size, 5, none⟩ = some (.slice (some ⟨b, o, none⟩) 1 ci) := tc0.cell 5
 have x6 : w1.cell? ⟨w.heap.size, 6, none⟩ = some (.slice (some ⟨bt, ot, none⟩) 1 ct) := tc0.cell 6
 have y0 : w1.cell? ⟨b, o, none⟩ = some p0 := (HU1.out.cell (p := ⟨b, o, none⟩) hblt (by simp)).trans (HPC.out 0 (by omega))
 have y1 : w1.cell? ⟨b, o + 1, none⟩ = some p1 := (HU1.out.cell (p := ⟨b, o + 1, none⟩) hblt (by simp)).trans (HPC.out 1 (by omega))
 have y2 : w1.cell? ⟨b, o + 2, none⟩ = some p2 := (HU1.out.cell (p := ⟨b, o + 2, none⟩) hblt (by simp)).trans (HPC.out 2 (by omega))
 have y3 : w1.cell? ⟨b, o + 3, none⟩ = some p3 := (HU1.out.cell (p := ⟨b, o + 3, none⟩) hblt (by simp)).trans (HPC.out 3 (by omega))
 have y4 : w1.cell? ⟨b, o + 4, none⟩ = some p4 := (HU1.out.cell (p := ⟨b, o + 4, none⟩) hblt (by simp)).trans (HPC.out 4 (by omega))
 have y5 : w1.cell? ⟨b, o + 5, none⟩ = some p5 := (HU1.out.cell (p := ⟨b, o + 5, none⟩) hblt (by simp)).trans (HPC.out 5 (by omega))
 have y6 : w1.cell? ⟨b, o + 6, none⟩ = some p6 := (HU1.out.cell (p := ⟨b, o + 6, none⟩) hblt (by simp)).trans (HPC.out 6 (by omega))
 clear HR tc0
 go_wp2_with fail
 refine Calls.mono (RCopy_in d w1 [p0, p1, p2, p3, p4, p5, p6] t (In.mono HU1.out _ _ _ HP.out) hzt) ?_
 rintro e w3 ⟨hU3, cs3, h73, rfl, hR3⟩
 obtain ⟨k3, nu3, ng3, st3, aa3, ab3, ac3, na3, nb3, nc3, ca3, cb3, cc3, rfl⟩ := InB.shapeC hR3
 have HR3 : Hid (InB (fun g => w1.heap.size ≤ g) w3 d [.int .u8 k3, .bool ng3, .slice aa3 na3 ca3, .string st3, .int .i64 nu3, .slice ab3 nb3 cb3, .slice ac3 nc3 cc3] t) := hR3
 have hs3 := hU3.size
 have tb5 := Tb.new w3 #[.int .u8 0, .bool false, .slice none 0 0, .string ⟨#[]⟩, .int .i64 0, .slice none 0 0, .slice none 0 0] _ rfl
 have ua : Upd [] w3 (w3.alloc (.cells #[.int .u8 0, .bool false, .slice none 0 0, .string ⟨#[]⟩, .int .i64 0, .slice none 0 0, .slice none 0 0] 26)) := (Upd.refl [] w3).alloc _
 have uv3 : Upd [] w1 (w3.alloc (.cells #[.int .u8 0, .bool false, .slice none 0 0, .string ⟨#[]⟩, .int .i64 0, .slice none 0 0, .slice none 0 0] 26)) := hU3.trans ua
 clear hR3 h73
 go_wp2_with (refine store_V _ rfl _ _ rfl _ _ _ _ _ _ _ _ _ _ _ _ _ _ _ rfl rfl tb5 rfl ?_; intro w4 hT4 hU4; have u4 : Upd [] w1 w4 := uv3.then hU4 (by simp; omega); have q5 : w4.cell? ⟨w.heap.size, 5, none⟩ = some (.slice (some ⟨b, o, none⟩) 1 ci) := (u4.cell (p := ⟨w.heap.size, 5, none⟩) hl1 (by simp)).trans x5; have q6 : w4.cell? ⟨w.heap.size, 6, none⟩ = some (.slice (some ⟨bt, ot, none⟩) 1 ct) := (u4.cell (p := ⟨w.heap.size, 6, none⟩) hl1 (by simp)).trans x6)
 have hl4 : w.heap.size < w4.heap.size := Nat.lt_of_lt_of_le hl1 u4.size
 have hl5 : w3.heap.size < w4.heap.size := hT4.lt
 have HH4 : InB (fun g => w1.heap.size ≤ g) w4 d [.int .u8 k3, .bool ng3, .slice aa3 na3 ca3, .string st3, .int .i64 nu3, .slice ab3 nb3 cb3, .slice ac3 nc3 cc3] t := InB.upd hU4 (fun g hg hm => by simp at hm; omega) (fun g hg _ => hg.1) _ _ _ (InB.upd ua (by simp) (fun g hg _ => hg) _ _ _ (InB.tight HR3.out))
 have HU4 : Upd [] w w4 := HU1.out.trans u4
 have HTX4 := HT1.out.mono u4 (by simp)
 have HTY4 := HT2.out.mono u4 (by simp)
 have HB : SpB w1.heap.size w3.heap.size d w (.slice (some ⟨b, o, none⟩) 1 ci) (.slice (some ⟨bt, ot, none⟩) 1 ct) #[.int .u8 k3, .bool ng3, .slice aa3 na3 ca3, .string st3, .int .i64 nu3, .slice ab3 nb3 cb3, .slice ac3 nc3 cc3] t w4 := ⟨HU4, q5, q6, ⟨hsz1, hs3, hl5⟩, hT4, HH4, ⟨_, rfl, HTX4⟩, ⟨_, rfl, HTY4⟩⟩
 clear HP HPC HW HR3 uv3 ua x0 x5 x6 y0 y1 y2 y3 y4 y5 y6 tb5 hU4 hU3
 have HRG : ∀ V, Upd [] w V → V.rangeAt bt ot [m0, m1, m2, m3, m4, m5, m6] := fun V hUV j v hj => by
  have hj7 : j < 7 := by have := (List.getElem?_eq_some_iff.1 hj).1; simpa using this
  rw [hUV.cell (p := ⟨bt, ot + j, none⟩) hbt (by simp), HMC.out j hj7]
  exact hj
 have HF3 : ∀ V, Upd [] w V → Calls Tryz.prog 66 #[.agg #[m0, m1, m2, m3, m4, m5, m6]] V fun e w' => ∃ u', e = .returned u' ∧ Upd [] V w' ∧ TmS V.heap.size d w' u u' := fun V hUV => by
  refine (RCopy_in d V [m0, m1, m2, m3, m4, m5, m6] u (In.mono hUV _ _ _ HMI.out) hzu).mono ?_
  rintro e w' ⟨g1, cs, h7, rfl, g5⟩
  exact ⟨_, rfl, g1, cs, h7, rfl, g5⟩
 obtain ⟨fs, hdesc⟩ := term_desc
 refine region_res (by kernel_rfl) 9 rfl [some 37, some 38, some 39, some 40, some 41, some 42, none, none, some 4] rfl (by decide) rfl (by kernel_rfl) (SpS w.heap.size 6) (SpB w1.heap.size w3.heap.size d w (.slice (some ⟨b, o, none⟩) 1 ci) (.slice (some ⟨bt, ot, none⟩) 1 ct) #[.int .u8 k3, .bool ng3, .slice aa3 na3 ca3, .string st3, .int .i64 nu3, .slice ab3 nb3 cb3, .slice ac3 nc3 cc3] t) (SqR w.heap.size w1.heap.size d (.slice (some ⟨bt, ot, none⟩) 1 ct) #[.int .u8 k3, .bool ng3, .slice aa3 na3 ca3, .string st3, .int .i64 nu3, .slice ab3 nb3 cb3, .slice ac3 nc3 cc3] bt ot #[m0, m1, m2, m3, m4, m5, m6] u) (HB.step ((Upd.refl [] w4).drew)) (fun i j v w5 w6 hij hB h hu => SqR.stab hB.lt.1 i j v w5 w6 hij h hu) ?_ ?_
 ·intro D vs a' w5 i o' hA hB hR hS hi ho haf
  have hc : i = 0 ∨ i = 1 ∨ i = 2 ∨ i = 3 ∨ i = 4 ∨ i = 5 ∨ i = 6 ∨ i = 7 ∨ i = 8 := by omega
  rcases hc with rfl | rfl | rfl | rfl | rfl | rfl | rfl | rfl | rfl <;> cases ho
  ·exact ops_wp rfl rfl (wp_load_row 26 (.tmp 5) rfl w3.heap.size (hA.ev 5 (by decide)) 26 _ (0, 0) _ hB.hx hdesc rfl (by rw [info_term]; rfl) ⟨_, rfl, hB, rfl, Upd.refl _ _⟩)
  ·exact ops_wp rfl rfl (wp_field6 (.tmp 1) rfl w.heap.size (hA.ev 1 (by decide)) ⟨_, rfl, hB, rfl, Upd.refl _ _⟩)
  ·have D1 := haf ⟨1, .data⟩ (by simp) rfl
   exact ops_wp rfl rfl (wp_loadS (.tmp 38) rfl _ _ ((hS 1 38 rfl D1).trans (hR 1 D1)) hB.x6 ⟨_, rfl, hB, rfl, Upd.refl _ _⟩)
  ·have D2 := haf ⟨2, .data⟩ (by simp) rfl
   exact ops_wp rfl rfl (wp_index0 (.tmp 39) rfl bt ot 1 ct (by omega) ((hS 2 39 rfl D2).trans (hR 2 D2)) ⟨_, rfl, hB, rfl, Upd.refl _ _⟩)
  ·have D3 := haf ⟨3, .data⟩ (by simp) rfl
   refine ops_wp rfl rfl (wp_load_mid 26 (.tmp 40) rfl bt ot ((hS 3 40 rfl D3).trans (hR 3 D3)) [m0, m1, m2, m3, m4, m5, m6] _ ?_ hdesc rfl (by rw [info_term]; rfl) ⟨_, rfl, hB, rfl, Upd.refl _ _⟩)
   exact HRG w5 hB.u
  ·have D4 := haf ⟨4, .data⟩ (by simp) rfl
   refine ops_wp rfl rfl (wp_call' rfl Tryz.call66 ((hS 4 41 rfl D4).trans (hR 4 D4)) (HF3 w5 hB.u) ?_)
   rintro u5 w6 ⟨hu, hr⟩
   refine ⟨_, rfl, hB.step hu, ?_, hu⟩
   obtain ⟨cs, e7, e5, hr⟩ := hr
   exact ⟨cs, e7, e5, InB.upd (Upd.refl [] w6) (by simp) (fun g hg _ => by have := hB.lt; omega) _ _ _ hr⟩
  ·have D0 := haf ⟨0, .data⟩ (by simp) rfl
   obtain ⟨c1, z1, k1⟩ := hB.t1
   exact ops_wp rfl rfl (wp_store_row 26 (.tmp 2) (.tmp 37) rfl (w.heap.size + 1) #[.int .u8 k3, .bool ng3, .slice aa3 na3 ca3, .string st3, .int .i64 nu3, .slice ab3 nb3 cb3, .slice ac3 nc3 cc3] (hA.ev 2 (by decide)) ((hS 0 37 rfl D0).trans (hR 0 D0)) 26 c1 k1 (by rw [info_term]; rfl) z1 (by simp [Value.oneCell']) ⟨_, rfl, hB.put1 _ rfl, setRow_tb k1 _, setRow_upd _ _ _⟩)
  ·have D5 := haf ⟨5, .data⟩ (by simp) rfl
   obtain ⟨c1, z1, k1⟩ := hB.t2
   obtain ⟨cs, e7, e5, hr⟩ := hR 5 D5
   have hu := setRow_upd w5 (w.heap.size + 1 + 1) cs.toArray
   have hlo := hB.lt.1
   have hone := (InB.plain _ _ _ hr).one
   exact ops_wp rfl rfl (wp_store_row 26 (.tmp 3) (.tmp 42) rfl (w.heap.size + 1 + 1) _ (hA.ev 3 (by decide)) ((hS 5 42 rfl D5).trans e5) 26 c1 k1 (by rw [info_term]; simp [e7]) (by rw [z1]; simp [e7]) hone ⟨_, rfl, hB.put2 _ (by simp [e7]), ⟨cs, e7, setRow_tb k1 _, InB.upd hu (fun g hg => by simp; omega) (fun g hg _ => hg) _ _ _ hr⟩, hu⟩)
  ·exact ops_wp rfl rfl (wp_assign _ rfl _ rfl ⟨_, rfl, hB, rfl, Upd.refl _ _⟩)
 ·intro vs w5 hv hB hR
  obtain ⟨v0, r0, rfl, hv0⟩ := list_cons hv
  obtain ⟨v1, r1, rfl, hv1⟩ := list_cons hv0
  obtain ⟨v2, r2, rfl, hv2⟩ := list_cons hv1
  obtain ⟨v3, r3, rfl, hv3⟩ := list_cons hv2
  obtain ⟨v4, r4, rfl, hv4⟩ := list_cons hv3
  obtain ⟨v5, r5, rfl, hv5⟩ := list_cons hv4
  obtain ⟨v6, r6, rfl, hv6⟩ := list_cons hv5
  obtain ⟨v7, r7, rfl, hv7⟩ := list_cons hv6
  obtain ⟨v8, r8, rfl, hv8⟩ := list_cons hv7
  have e8 : v8 = .bool true := hR 8 (by omega)
  have k6 : Tb w5 (w.heap.size + 1) _ := hR 6 (by omega)
  obtain ⟨cs, e7, k7, hr⟩ := hR 7 (by omega)
  subst e8
  have HE : Hid (∃ cs1 cs' : List Value, cs1.length = 7 ∧ cs'.length = 7 ∧ Ending.returned (.tuple #[.agg #[.int .u8 k3, .bool ng3, .slice aa3 na3 ca3, .string st3, .int .i64 nu3, .slice ab3 nb3 cb3, .slice ac3 nc3 cc3], .agg cs.toArray, .bool true]) = .returned (.tuple #[.agg cs1.toArray, .agg cs'.toArray, .bool true]) ∧ In w5 (d + 1) cs1 t ∧ In w5 (d + 1) cs' u ∧ Upd [] w w5) := by
   exact ⟨[.int .u8 k3, .bool ng3, .slice aa3 na3 ca3, .string st3, .int .i64 nu3, .slice ab3 nb3 cb3, .slice ac3 nc3 cc3], cs, rfl, e7, rfl, In.more _ _ _ (InB.plain _ _ _ hB.ht), In.more _ _ _ (InB.plain _ _ _ hr), hB.u⟩
  clear hR hB hr HF3 HRG HB HH4 HI HT
  have z7 : cs.toArray.size = 7 := by simp [e7]
  simp only [putAll, Act.put, List.setIfInBounds_toArray, List.set_cons_succ, List.set_cons_zero]
  go_wp2_with fail
  exact ret_TTb Tryz.results27 rfl _ _ _ _ _ rfl k6 rfl rfl k7 z7 rfl HE.out
end Go.Proofs.YtalhbbabijlngaaGreatDoor
namespace Go.Proofs.YtalhbbabijlngaaGreatDoor
open Go.RowKit
theorem RSplit_in (d : Nat) (w : World) (cs : List Value) (t : Tm) (hin : In w (d + 1) cs t) (hcap : CapC cs) (hz : tsz t ≤ 1353245080330) (hcn : cntT t ≤ 6000) :
  Calls Tryz.prog 27 #[.agg cs.toArray] w (SplitQ w (d + 1) t) := by
 obtain ⟨k, num, neg, L, s, I, T⟩ := t
 have hin' := hin
 obtain ⟨a, ai, at', c, ci, ct, rfl, _, _, hI, hT⟩ := hin
 cases hyes : (splits (.mk k num neg L s I T) && okS (.mk k num neg L s I T)) with
 | false => exact RSplit_bad (d + 1) c ci ct k num neg s L a ai at' I T w hin' hz hcn hyes
 | true =>
  have hy := hyes
  rw [Bool.and_eq_true] at hy
  obtain ⟨hsp, hok⟩ := hy
  unfold splits at hsp
  rw [Bool.and_eq_true, decide_eq_true_eq, decide_eq_true_eq] at hsp
  obtain ⟨rfl, hpos⟩ := hsp
  obtain ⟨b, o, rfl⟩ : ∃ b o, ai = some ⟨b, o, none⟩ := by
   rcases hI with h | ⟨b, o, e, _⟩
   ·rw [h] at hpos; simp at hpos
   ·exact ⟨b, o, e⟩
  obtain ⟨ac, nc, cc, e5, hc1, hc2⟩ := hcap
  simp only [List.getElem?_cons_succ, List.getElem?_cons_zero, Option.some.injEq, Value.slice.injEq] at e5
  obtain ⟨_, rfl, rfl⟩ := e5
  have hH : I.getD 0 nilT = headT (.mk 7 num neg L s I T) := by unfold headT; cases I <;> rfl
  have key : ∀ R e w', R = restT (.mk 7 num neg L s I T) → (∃ cs cs' : List Value, cs.length = 7 ∧ cs'.length = 7 ∧ e = .returned (.tuple #[.agg cs.toArray, .agg cs'.toArray, .bool true]) ∧ In w' (d + 1) cs (I.getD 0 nilT) ∧ In w' (d + 1) cs' R ∧ Upd [] w w') → SplitQ w (d + 1) (.mk 7 num neg L s I T) e w' := by
   rintro R e w' hR ⟨cs, cs', h1, h2, rfl, h4, h5, h6⟩
   subst hR
   refine ⟨cs, cs', h1, h2, by rw [hyes], ?_, ?_, h6⟩
   ·rw [hyes, ← hH]
    exact h4
   ·rw [hyes]
    exact h5
  have hT' : T = [] ∨ ∃ u, T = [u] := by
   have h2 := hok
   rw [okS_iff] at h2
   have h3 := h2.1
   rw [okT', Bool.and_eq_true, Bool.and_eq_true] at h3
   obtain ⟨_, _, _, _, h | ⟨u, h, _⟩⟩ := okF_list h3.1.1
   ·exact Or.inl h
   ·exact Or.inr ⟨u, h⟩
  by_cases h11 : I.length = 1 ∧ T.length = 1
  ·obtain ⟨hI1, hT1⟩ := h11
   obtain ⟨t, rfl⟩ := List.length_eq_one_iff.1 hI1
   obtain ⟨u, rfl⟩ := List.length_eq_one_iff.1 hT1
   obtain ⟨bt, ot, rfl⟩ : ∃ b o, at' = some ⟨b, o, none⟩ := by
    rcases hT with h | ⟨b, o, e, _⟩
    ·cases h
    ·exact ⟨b, o, e⟩
   exact (RSplit_one d b o bt ot ci ct c num neg s L a t u w hin' hz hcn hok).mono fun e w' h => key u e w' (by rw [restT]; rfl) h
  ·refine (RSplit_many d b o ci ct c num neg s L a at' I T w hin' hz hcn hok hpos hc1 hc2 h11).mono fun e w' h => key _ e w' ?_ h
   rw [restT]
   by_cases h1 : I.length ≤ 1
   ·rw [if_pos h1]
    have hT0 : T = [] := by
     rcases hT' with h | ⟨u, h⟩
     ·exact h
     ·exact absurd ⟨by omega, by rw [h]; rfl⟩ h11
    rw [hT0, List.drop_eq_nil_of_le h1]
    rfl
   ·rw [if_neg h1]
end Go.Proofs.YtalhbbabijlngaaGreatDoor
namespace Go.Proofs.YtalhbbabijlngaaGreatDoor
open Go.RowKit
def ConsW (w : World) (d : Nat) (t : Tm) (e : Ending) (w' : World) : Prop := ∃ cs : List Value, cs.length = 7 ∧ e = .returned (.agg cs.toArray) ∧ In w' d cs t ∧ Upd [] w w'
set_option maxHeartbeats 4000000 in
set_option maxRecDepth 100000 in
theorem RCons_bad (d : Nat) (w : World) (h t : Tm) (q0 q1 q2 q3 q4 q5 q6 p0 p1 p2 p3 p4 p5 p6 : Value) (hh : In w d [q0, q1, q2, q3, q4, q5, q6] h) (hin : In w d [p0, p1, p2, p3, p4, p5, p6] t) (hzh : tsz h ≤ 1353245080330) (hz : tsz t ≤ 1353245080330) (hch : cntT h ≤ 6000) (hct : cntT t ≤ 6000) (hok : (okS h && okS t) = false) :
  Calls Tryz.prog 28 #[.agg #[q0, q1, q2, q3, q4, q5, q6], .agg #[p0, p1, p2, p3, p4, p5, p6]] w (ConsW w d zeroT) := by
 have HR1 : Hid (∀ V, Upd [] w V → Calls Tryz.prog 15 #[.agg #[q0, q1, q2, q3, q4, q5, q6]] V fun e w' => e = .returned (.bool (okS h)) ∧ Upd [] V w') := fun V hU => right2_in d V _ _ (In.mono hU _ _ _ hh) hzh hch
 have HR2 : Hid (∀ V, Upd [] w V → Calls Tryz.prog 15 #[.agg #[p0, p1, p2, p3, p4, p5, p6]] V fun e w' => e = .returned (.bool (okS t)) ∧ Upd [] V w') := fun V hU => right2_in d V _ _ (In.mono hU _ _ _ hin) hz hct
 have tb0 : Tb (((w.alloc (.cells #[q0, q1, q2, q3, q4, q5, q6] 26)).alloc (.cells #[p0, p1, p2, p3, p4, p5, p6] 26)).alloc (.cells #[.int .u8 0, .bool false, .slice none 0 0, .string ⟨#[]⟩, .int .i64 0, .slice none 0 0, .slice none 0 0] 26)) w.heap.size #[q0, q1, q2, q3, q4, q5, q6] := ((Tb.new _ _ _ rfl).old _).old _
 have tb1 : Tb (((w.alloc (.cells #[q0, q1, q2, q3, q4, q5, q6] 26)).alloc (.cells #[p0, p1, p2, p3, p4, p5, p6] 26)).alloc (.cells #[.int .u8 0, .bool false, .slice none 0 0, .string ⟨#[]⟩, .int .i64 0, .slice none 0 0, .slice none 0 0] 26)) (w.heap.size + 1) #[p0, p1, p2, p3, p4, p5, p6] := (Tb.new _ _ _ (by simp)).old _
 have tb2 : Tb (((w.alloc (.cells #[q0, q1, q2, q3, q4, q5, q6] 26)).alloc (.cells #[p0, p1, p2, p3, p4, p5, p6] 26)).alloc (.cells #[.int .u8 0, .bool false, .slice none 0 0, .string ⟨#[]⟩, .int .i64 0, .slice none 0 0, .slice none 0 0] 26)) (w.heap.size + 1 + 1) #[.int .u8 0, .bool false, .slice none 0 0, .string ⟨#[]⟩, .int .i64 0, .slice none 0 0, .slice none 0 0] := Tb.new _ _ _ (by simp)
 have HU0 : Hid (Upd [] w (((w.alloc (.cells #[q0, q1, q2, q3, q4, q5, q6] 26)).alloc (.cells #[p0, p1, p2, p3, p4, p5, p6] 26)).alloc (.cells #[.int .u8 0, .bool false, .slice none 0 0, .string ⟨#[]⟩, .int .i64 0, .slice none 0 0, .slice none 0 0] 26))) := (((Upd.refl [] w).alloc _).alloc _).alloc _
 have hzi : ∀ V : World, In V d zeroC zeroT := fun V => by
  cases d with
  | zero => exact hin.elim
  | succ d => exact zero_in V d
 obtain ⟨oh, hoh⟩ : ∃ o, okS h = o := ⟨_, rfl⟩
 obtain ⟨ot, hot⟩ : ∃ o, okS t = o := ⟨_, rfl⟩
 rw [hoh, hot] at hok
 rw [hoh] at HR1
 rw [hot] at HR2
 have HZI : Hid (∀ V : World, In V d zeroC zeroT) := hzi
 clear hh hin hzh hz hch hct hoh hot hzi
 go_enter Tryz.func28, Tryz.ntmps28
 go_wp2_with (first | (refine load_T _ rfl _ rfl _ _ rfl tb0 rfl ?_) | fail)
 refine Calls.mono (HR1.out _ HU0.out) ?_
 rintro e w1 ⟨rfl, hU1⟩
 have HU1 : Hid (Upd [] w w1) := HU0.out.trans hU1
 have tc1 := tb1.mono hU1 (by simp)
 have tc2 := tb2.mono hU1 (by simp)
 clear hU1 tb0 tb1 tb2
 cases oh with
 | false =>
  go_wp2_with (first | (refine store_V _ rfl _ _ rfl _ _ _ _ _ _ _ _ _ _ _ _ _ _ _ rfl rfl tc2 rfl ?_; intro w3 hT3 hU3) | fail)
  exact ret_T Tryz.results28 rfl _ _ rfl hT3 rfl ⟨zeroC, rfl, rfl, HZI.out _, HU1.out.then hU3 (by simp; omega)⟩
 | true =>
  have : ot = false := by simpa using hok
  subst this
  go_wp2_with (first | (refine load_G _ _ rfl _ _ rfl tc1 rfl rfl ?_) | fail)
  refine Calls.mono (HR2.out _ HU1.out) ?_
  rintro e w2 ⟨rfl, hU2⟩
  have td2 := tc2.mono hU2 (by simp)
  have HU2 : Hid (Upd [] w w2) := HU1.out.trans hU2
  clear hU2
  go_wp2_with (first | (refine store_V _ rfl _ _ rfl _ _ _ _ _ _ _ _ _ _ _ _ _ _ _ rfl rfl td2 rfl ?_; intro w3 hT3 hU3) | fail)
  exact ret_T Tryz.results28 rfl _ _ rfl hT3 rfl ⟨zeroC, rfl, rfl, HZI.out _, HU2.out.then hU3 (by simp; omega)⟩
end Go.Proofs.YtalhbbabijlngaaGreatDoor
namespace Go.Proofs.YtalhbbabijlngaaGreatDoor
open Go.RowKit
theorem set_true {L : List Bool} {i k : Nat} (hi : i < L.length) : (L.set i true)[k]? = some true ↔ k = i ∨ L[k]? = some true := by
 by_cases e : i = k
 ·subst e
  rw [List.getElem?_set_self hi]
  simp
 ·rw [List.getElem?_set_ne e]
  constructor
  ·exact fun h => Or.inr h
  ·rintro (h | h)
   ·exact absurd h.symm e
   ·exact h
theorem region_resD {rid : Nat} {ops : Array Oper} {Q : Exit → Act → World → Prop} {a0 : Act} {w0 : World} (hm : Tryz.prog.follows .mixedOrders = true) (n : Nat) (hn : ops.size = n) (ds : List (Option Nat)) (hds : ops.toList.map (·.dst) = ds)
  (hd : ds.Pairwise fun a b => a = none ∨ a ≠ b) (hz : (ds.all fun o => o.all fun d => decide (d < a0.tmps.size)) = true) (hlow : lowOps ops = true)
  (S : Nat → List Nat) (Base : (Nat → Prop) → World → Prop) (Res : Nat → Value → World → Prop) (h0 : Base (fun _ => False) { w0 with drawn := w0.drawn + 1 }) (hext : ∀ D D' w, (∀ j, D j ↔ D' j) → Base D w → Base D' w)
  (hstab : ∀ (D : Nat → Prop) i j v w w', i ≠ j → ¬ D i → D j → (∀ j o', D j → ops[j]? = some o' → ∀ e ∈ o'.after, Region.binds .any e = true → D e.on) → Res j v w → Upd (S i) w w' → Res j v w')
  (hstep : ∀ (D : Nat → Prop) (vs : List Value) a w i o, Agr (ds.filterMap id) a0 a → Base D w → (∀ j, D j → Res j (vs.getD j undef) w) → (∀ j d, ds[j]? = some (some d) → D j → a.tmps.getD d undef = vs.getD j undef) → i < n → ¬ D i → ops[i]? = some o → (∀ e ∈ o.after, Region.binds .any e = true → D e.on) →
   (∀ j o', D j → ops[j]? = some o' → ∀ e ∈ o'.after, Region.binds .any e = true → D e.on) →
   wpOp Tryz.prog ops Q i (fun a' w' => ∃ v, a' = a.put o.dst v ∧ Base (fun j => j = i ∨ D j) w' ∧ Res i v w' ∧ Upd (S i) w w') a w)
  (hend : ∀ vs w, vs.length = n → Base (fun j => j < n) w → (∀ j, j < n → Res j (vs.getD j undef) w) → Q .normal (putAll a0 ds vs) w) :
  (Code.region rid ops true).wp Tryz.prog Q a0 w0 := by
 refine region_inv hm n hn ds hds hd hz hlow (fun L vs w => (L.length = n ∧ vs.length = n) ∧ Base (fun j => L[j]? = some true) w ∧ (∀ j, L[j]? = some true → Res j (vs.getD j undef) w) ∧ ∀ (j : Nat) (o' : Oper), L[j]? = some true → ops[j]? = some o' → ∀ e ∈ o'.after, Region.binds .any e = true → L[e.on]? = some true) ⟨⟨by simp, by simp⟩, ?_, fun j hj => ?_, fun j _ hj => ?_⟩ ?_ ?_
 ·refine hext _ _ _ (fun j => ⟨fun h => h.elim, fun h => ?_⟩) h0
  rw [List.getElem?_replicate] at h
  split at h <;> cases h
 ·rw [List.getElem?_replicate] at hj
  split at hj <;> cases hj
 ·rw [List.getElem?_replicate] at hj
  split at hj <;> cases hj
 ·rintro L vs a w i o hL hv hS ⟨_, hB, hR, hcl⟩ hun ho haf
  have hin : i < n := by rw [← hn]; exact (Array.getElem?_eq_some_iff.1 ho).1
  refine wpOp_mono ?_ (hstep (fun j => L[j]? = some true) vs a w i o hS.agr hB hR hS.at' hin (by rw [hun]; simp) ho haf hcl)
  rintro a' w' ⟨v, ha, hB', hr, hu⟩
  refine ⟨v, ha, ⟨by simpa using hL, by simpa using hv⟩, hext _ _ _ (fun j => (set_true (by omega)).symm) hB', fun j hj => ?_, fun j o' hj ho' e he hb => ?_⟩
  ·by_cases e : i = j
   ·subst e
    rw [List.getD_eq_getElem?_getD, List.getElem?_set_self (by omega)]
    exact hr
   ·rw [List.getElem?_set_ne e] at hj
    have := hstab (fun j => L[j]? = some true) i j _ w w' e (by rw [hun]; simp) hj hcl (hR j hj) hu
    rw [List.getD_eq_getElem?_getD, List.getElem?_set_ne e, ← List.getD_eq_getElem?_getD]
    exact this
  ·rw [set_true (by omega)]
   right
   rcases (set_true (by omega)).1 hj with rfl | h
   ·rw [ho] at ho'
    cases ho'
    exact haf e he hb
   ·exact hcl j o' h ho' e he hb
 ·rintro vs w hv ⟨_, hB, hR, _⟩
  refine hend vs w hv (hext _ _ _ (fun j => ?_) hB) fun j hj => hR j (List.getElem?_replicate_of_lt hj)
  constructor
  ·intro h
   rw [List.getElem?_replicate] at h
   split at h
   ·assumption
   ·cases h
  ·exact fun h => List.getElem?_replicate_of_lt h
end Go.Proofs.YtalhbbabijlngaaGreatDoor
namespace Go.Proofs.YtalhbbabijlngaaGreatDoor
open Go.RowKit
theorem wp_appendT {o : Oper} {a : Act} {w : World} {K : Act → World → Prop} {Q : Exit → Act → World → Prop} (s x : Operand) (ho : o.op = .call { callee := .builtin .append, args := #[s, x], argTypes := #[24, 24] })
  {v : Value} {n : Nat} (hs : a.eval s = v) (hr : RowG w 7 v n) (ad : Addr) (m c : Nat) (news : List Value) (hx : a.eval x = .slice (some ad) m c) (hl : news.length = m * 7) (hnews : ∀ j u, news[j]? = some u → w.cell? (ad.add j) = some u) (h1 : ∀ u ∈ news, u.oneCell' = true)
  (hm : 0 < m) (h63 : n + m ≤ 1000000000000)
  (h : ∀ g' cap' w', RowG w' 7 (.slice (some ⟨g', 0, none⟩) (n + m) cap') (n + m) → Grew 7 w w' v n g' → (∀ j, j < m * 7 → w'.cell? ⟨g', n * 7 + j, none⟩ = news[j]?) → K (a.put o.dst (.slice (some ⟨g', 0, none⟩) (n + m) cap')) w') : o.wp Tryz.prog a w K Q := by
 obtain ⟨i0, hi, hz0, hz1, hz2⟩ := info_parts info_term3
 obtain ⟨g', cap', w', hrun, h2, h3, h4⟩ := run_appendG (ty := o.type) Tryz.underlying24 hi hz0 hz1 hz2 rfl hr ad m c news hl hnews h1 hm (by omega) (by omega)
 unfold Oper.wp execOp
 simp only [ho, resolve, invoke, builtin, Sem.run_bind, Sem.run_pure, Result.andThen_ok, List.map_toArray, List.map_cons, List.map_nil, hs, hx, hrun]
 exact h g' cap' w' h2 h3 h4
theorem wp_append0 {o : Oper} {a : Act} {w : World} {K : Act → World → Prop} {Q : Exit → Act → World → Prop} (s x : Operand) (ho : o.op = .call { callee := .builtin .append, args := #[s, x], argTypes := #[24, 24] })
  (g n c c' : Nat) (a' : Option Addr) (hnc : n ≤ c) (hs : a.eval s = .slice (some ⟨g, 0, none⟩) n c) (hx : a.eval x = .slice a' 0 c') (h : K (a.put o.dst (.slice (some ⟨g, 0, none⟩) n c)) w) : o.wp Tryz.prog a w K Q := by
 obtain ⟨i0, hi, hz0, hz1, hz2⟩ := info_parts info_term3
 have e0 : ∀ k, w.setCells g k [] = w := fun _ => rfl
 have hr : (Builtin.append_ #[24, 24] o.type #[.slice (some ⟨g, 0, none⟩) n c, .slice a' 0 c']).run Tryz.prog w = .ok (.slice (some ⟨g, 0, none⟩) n c) w := by
  rcases a' with _ | ad
  ·have hr := run_append_room_src (P := Tryz.prog) w 24 24 o.type 26 i0 Tryz.underlying24 hi g 0 n c (.slice none 0 c') 0 [] (Src.ofNil w Tryz.underlying24 c') (by omega) (fun j hj => by simp at hj) (fun j hj => by simp at hj)
   rw [e0] at hr
   exact hr
  ·have hr := run_append_room_cells (P := Tryz.prog) w 24 o.type 26 i0 Tryz.underlying24 hi g 0 n c ad 0 c' [] (by simp) (fun j u hj => by simp at hj) (fun u hu => by simp at hu) (by omega) (fun j hj => by simp at hj) (fun j hj => by simp at hj)
   rw [e0] at hr
   exact hr
 unfold Oper.wp execOp
 simp only [ho, resolve, invoke, builtin, Sem.run_bind, Sem.run_pure, Result.andThen_ok, List.map_toArray, List.map_cons, List.map_nil, hs, hx, hr]
 exact h
theorem wp_storeS {o : Oper} {a : Act} {w : World} {K : Act → World → Prop} {Q : Exit → Act → World → Prop} (x y : Operand) (ho : o.op = .store 24 x y) (p : Addr) (a1 : Option Addr) (n c : Nat) (u : Value) (hx : a.eval x = .pointer (some p)) (hy : a.eval y = .slice a1 n c) (hc : w.cell? p = some u) (hf : w.frozen? p = false)
  (h : K (a.put o.dst undef) (w.setCell p (.slice a1 n c))) : o.wp Tryz.prog a w K Q := by
 have hr : (execOp a.eval o).run Tryz.prog w = .ok .skip (w.setCell p (.slice a1 n c)) := by
  unfold execOp
  simp only [ho, hx, hy]
  simp [go_sem, hc, hf]
 unfold Oper.wp
 rw [hr]
 exact h
end Go.Proofs.YtalhbbabijlngaaGreatDoor
namespace Go.Proofs.YtalhbbabijlngaaGreatDoor
open Go.RowKit
theorem len_cnt : ∀ I : List Tm, I.length ≤ cntR I
 | [] => by simp [cntR]
 | t :: r => by
  have h2 := len_cnt r
  obtain ⟨k, num, neg, L, s, I, T⟩ := t
  rw [cntR, cntT, List.length_cons]
  omega
theorem RowB.deep {P : Nat → Prop} {w : World} {d : Nat} {a : Option Addr} {I : List Tm} (h : RowB P (InB P w d) w a I) : RowB P (InB P w (d + 1)) w a I := by
 rcases h with h | ⟨b, o, e, hP, hl, hc⟩
 ·exact Or.inl h
 ·exact Or.inr ⟨b, o, e, hP, hl, fun i hi => by obtain ⟨cs, k1, k2, k3⟩ := hc i hi; exact ⟨cs, k1, k2, InB.more _ _ _ k3⟩⟩
theorem row_oneI {P : Nat → Prop} {w : World} {d A : Nat} {cs : List Value} {t : Tm} (hT : Tb w A cs.toArray) (h7 : cs.length = 7) (hP : P A) (h : InB P w d cs t) : RowB P (InB P w d) w (some ⟨A, 0, none⟩) [t] := by
 refine Or.inr ⟨A, 0, rfl, hP, hT.lt, fun i hi => ?_⟩
 have e : i = 0 := by simp at hi; exact hi
 subst e
 exact ⟨cs, h7, fun j hj => by rw [Nat.zero_mul, Nat.zero_add, Nat.zero_add, hT.cell j]; simp, h⟩
def outC (v5 v6 : Value) : Array Value := #[.int .u8 7, .bool false, .slice none 0 0, .string ⟨#[]⟩, .int .i64 0, v5, v6]
def NotB (lo ob b : Nat) : Prop := lo ≤ b ∧ b ≠ ob
structure RcB (w0 : World) (lo rb d : Nat) (X H : Array Value) (h : Tm) (D : Nat → Prop) (w' : World) : Prop where
 u : Upd [] w0 w'
 lt : w0.heap.size + 3 ≤ lo ∧ lo ≤ rb ∧ rb + 1 < w'.heap.size
 tx : Tb w' (w0.heap.size + 1) X
 tz : Tb w' (w0.heap.size + 1 + 1) #[.int .u8 0, .bool false, .slice none 0 0, .string ⟨#[]⟩, .int .i64 0, .slice none 0 0, .slice none 0 0]
 ro : RowG w' 7 (.slice (some ⟨rb, 0, none⟩) 1 1) 1
 rc : ∀ j, j < 7 → w'.cell? ⟨rb, j, none⟩ = H[j]?
 hin : InB (fun g => lo ≤ g ∧ g < rb) w' (d + 1) H.toList h
 ox : ¬ D 7 → Tb w' (rb + 1) (outC (.slice (some ⟨rb, 0, none⟩) 1 1) (.slice none 0 0))
theorem RcB.ext {w0 w' : World} {lo rb d : Nat} {X H : Array Value} {h : Tm} {D D' : Nat → Prop} (hD : D 7 → D' 7) (k : RcB w0 lo rb d X H h D w') : RcB w0 lo rb d X H h D' w' :=
 ⟨k.u, k.lt, k.tx, k.tz, k.ro, k.rc, k.hin, fun n => k.ox fun h => n (hD h)⟩
theorem RcB.step {w0 w w' : World} {lo rb d : Nat} {X H : Array Value} {h : Tm} {D : Nat → Prop} (k : RcB w0 lo rb d X H h D w) (hu : Upd [] w w') : RcB w0 lo rb d X H h D w' := by
 obtain ⟨l1, l2, l3⟩ := k.lt
 exact ⟨k.u.trans hu, ⟨l1, l2, Nat.lt_of_lt_of_le l3 hu.size⟩, k.tx.mono hu (by simp), k.tz.mono hu (by simp), k.ro.upd hu (by simp), fun j hj => by rw [hu.cell (p := ⟨rb, j, none⟩) (by show rb < _; omega) (by simp)]; exact k.rc j hj,
  InB.upd hu (by simp) (fun g hg _ => hg) _ _ _ k.hin, fun n => (k.ox n).mono hu (by simp)⟩
theorem RcB.grew {w0 w w' : World} {lo rb d g' : Nat} {X H : Array Value} {h : Tm} {D : Nat → Prop} (k : RcB w0 lo rb d X H h D w) (hG : Grew 7 w w' (.slice (some ⟨rb, 0, none⟩) 1 1) 1 g') : RcB w0 lo rb d X H h D w' := by
 obtain ⟨l1, l2, l3⟩ := k.lt
 have hg : g' = rb ∨ g' = w.heap.size := by
  rcases hG.at' with h | h
  ·left; simpa [Value.ownBlock] using h.symm
  ·exact Or.inr h
 have hu := hG.upd
 have hs := hu.size
 exact ⟨k.u.then hu (by simp; omega), ⟨l1, l2, by omega⟩, k.tx.mono hu (by simp; omega), k.tz.mono hu (by simp; omega), hG.row k.ro, fun j hj => by rw [hG.old rb 1 1 rfl j (by omega)]; exact k.rc j hj,
  InB.upd hu (fun g hg => by simp; omega) (fun g hg _ => hg) _ _ _ k.hin, fun n => (k.ox n).mono hu (by simp; omega)⟩
theorem Grew.updR {w w' : World} {rb n g' l c : Nat} (hG : Grew 7 w w' (.slice (some ⟨rb, 0, none⟩) l c) n g') : Upd [rb] w w' := by
 rcases hG.at' with h | h
 ·have : rb = g' := by simpa [Value.ownBlock] using h
  subst this; exact hG.upd
 ·exact (Upd.refl [rb] w).then hG.upd (by simp; omega)
def RcR (w0 : World) (lo rb d : Nat) (v3 : Value) (I : List Tm) (h : Tm) : Nat → Value → World → Prop
 | 0, v, _ => v = .pointer (some ⟨rb + 1, 5, none⟩)
 | 1, v, _ => v = .slice (some ⟨rb, 0, none⟩) 1 1
 | 2, v, _ => v = .pointer (some ⟨w0.heap.size + 1, 5, none⟩)
 | 3, v, _ => v = v3
 | 4, v, w' => RwS (rb + 2) d w' I.length I v
 | 5, v, w' => ∃ a5 c5, v = .slice a5 (1 + I.length) c5 ∧ RowB (NotB lo (rb + 1)) (InB (NotB lo (rb + 1)) w' (d + 1)) w' a5 (h :: I)
 | 6, v, _ => v = .pointer (some ⟨rb + 1, 5, none⟩)
 | 7, _, w' => ∃ a5 c5, Tb w' (rb + 1) (outC (.slice a5 (1 + I.length) c5) (.slice none 0 0)) ∧ RowB (NotB lo (rb + 1)) (InB (NotB lo (rb + 1)) w' (d + 1)) w' a5 (h :: I)
 | _, _, _ => True
def RcS (rb i : Nat) : List Nat := if i = 5 then [rb] else if i = 7 then [rb + 1] else []
theorem RcR.stab {w0 : World} {lo rb d : Nat} {v3 : Value} {I : List Tm} {h : Tm} (i j : Nat) (v : Value) (w w' : World) (hij : i ≠ j) (h75 : j = 7 → i ≠ 5) (k : RcR w0 lo rb d v3 I h j v w) (hu : Upd (RcS rb i) w w') : RcR w0 lo rb d v3 I h j v w' := by
 have hS : ∀ x, x ∈ RcS rb i → x < rb + 2 := by
  intro x hx
  unfold RcS at hx
  split at hx
  ·simp at hx; omega
  ·split at hx
   ·simp at hx; omega
   ·simp at hx
 match j, k with
 | 0, k => exact k
 | 1, k => exact k
 | 2, k => exact k
 | 3, k => exact k
 | 4, k => exact RwS.upd k hu hS
 | 5, ⟨a5, c5, e, k⟩ =>
  refine ⟨a5, c5, e, RowB.upd hu (fun b hb hm => ?_) (fun b hb _ => hb) k⟩
  unfold RcS at hm
  rw [if_neg hij] at hm
  split at hm
  ·simp at hm; exact hb.2 hm
  ·simp at hm
 | 6, k => exact k
 | 7, ⟨a5, c5, e, k⟩ =>
  have h5 := h75 rfl
  have he : RcS rb i = [] := by unfold RcS; rw [if_neg h5, if_neg hij]
  rw [he] at hu
  exact ⟨a5, c5, e.mono hu (by simp), RowB.upd hu (by simp) (fun b hb _ => hb) k⟩
 | _ + 8, _ => trivial
theorem row_cells {P : Nat → Prop} {w : World} {d b o : Nat} {I : List Tm} (h : RowB P (InB P w d) w (some ⟨b, o, none⟩) I) : ∃ news : List Value, news.length = I.length * 7 ∧ (∀ j u, news[j]? = some u → w.cell? ((⟨b, o, none⟩ : Addr).add j) = some u) ∧ (∀ u ∈ news, u.oneCell' = true) ∧
  ∀ i (hi : i < I.length), ∃ cs : List Value, cs.length = 7 ∧ (∀ j, j < 7 → news[i * 7 + j]? = cs[j]?) ∧ InB P w d cs I[i] ∧ P b := by
 rcases h with h0 | ⟨b', o', e, hP, hlt, hc⟩
 ·subst h0
  exact ⟨[], rfl, fun j u hj => by simp at hj, fun u hu => by simp at hu, fun i hi => by simp at hi⟩
 ·cases e
  obtain ⟨news, hn⟩ : ∃ news : List Value, news = (List.range (I.length * 7)).map fun j => (w.cell? ⟨b, o + j, none⟩).getD undef := ⟨_, rfl⟩
  have get : ∀ j, j < I.length * 7 → ∃ i r cs, ∃ (hi : i < I.length), r < 7 ∧ j = i * 7 + r ∧ cs.length = 7 ∧ w.cell? ⟨b, o + j, none⟩ = cs[r]? ∧ InB P w d cs I[i] := fun j hj => by
   have hi : j / 7 < I.length := by omega
   obtain ⟨cs, k1, k2, k3⟩ := hc (j / 7) hi
   refine ⟨j / 7, j % 7, cs, hi, by omega, by omega, k1, ?_, k3⟩
   rw [← k2 (j % 7) (by omega)]
   congr 2; omega
  have sm : ∀ j, j < I.length * 7 → ∃ u, w.cell? ⟨b, o + j, none⟩ = some u ∧ news[j]? = some u ∧ u.oneCell' = true := fun j hj => by
   obtain ⟨i, r, cs, hi, hr, e, k1, k2, k3⟩ := get j hj
   have hr' : r < cs.length := by omega
   rw [List.getElem?_eq_getElem hr'] at k2
   refine ⟨cs[r], k2, ?_, ?_⟩
   ·rw [hn, List.getElem?_map, List.getElem?_range hj]
    simp [k2]
   ·have := (InB.plain _ _ _ k3).one
    have h2 := Array.all_eq_true_iff_forall_mem.1 this cs[r] (by simp)
    exact h2
  have nl : news.length = I.length * 7 := by rw [hn]; simp
  refine ⟨news, nl, fun j u hj => ?_, fun u hu => ?_, fun i hi => ?_⟩
  ·have hlt2 : j < I.length * 7 := by rw [← nl]; exact (List.getElem?_eq_some_iff.1 hj).1
   obtain ⟨u', k1, k2, _⟩ := sm j hlt2
   rw [k2] at hj
   cases hj
   rw [Addr.add_lit]; exact k1
  ·obtain ⟨j, hj, e⟩ := List.mem_iff_getElem.1 hu
   obtain ⟨u', _, k2, k3⟩ := sm j (by omega)
   rw [List.getElem?_eq_getElem hj, e] at k2
   cases k2
   exact k3
  ·obtain ⟨cs, k1, k2, k3⟩ := hc i hi
   refine ⟨cs, k1, fun j hj => ?_, k3, hP⟩
   have hlt2 : i * 7 + j < I.length * 7 := by omega
   obtain ⟨u', e1, e2, _⟩ := sm _ hlt2
   rw [e2, ← k2 j hj, e1]
theorem rc_row {w0 w w' : World} {lo rb d g' : Nat} {X H : Array Value} {h : Tm} {D : Nat → Prop} {I : List Tm} {news : List Value} (k : RcB w0 lo rb d X H h D w) (hH : H.size = 7) (hG : Grew 7 w w' (.slice (some ⟨rb, 0, none⟩) 1 1) 1 g') (hlt : g' < w'.heap.size) (hN : ∀ j, j < I.length * 7 → w'.cell? ⟨g', 1 * 7 + j, none⟩ = news[j]?)
  (hI : ∀ i (hi : i < I.length), ∃ cs : List Value, cs.length = 7 ∧ (∀ j, j < 7 → news[i * 7 + j]? = cs[j]?) ∧ InB (fun g => rb + 2 ≤ g) w d cs I[i]) : RowB (NotB lo (rb + 1)) (InB (NotB lo (rb + 1)) w' (d + 1)) w' (some ⟨g', 0, none⟩) (h :: I) := by
 obtain ⟨l1, l2, l3⟩ := k.lt
 have hg : g' = rb ∨ g' = w.heap.size := by
  rcases hG.at' with h | h
  ·left; simpa [Value.ownBlock] using h.symm
  ·exact Or.inr h
 have hu := hG.upd
 refine Or.inr ⟨g', 0, rfl, ⟨by omega, by omega⟩, hlt, fun i hi => ?_⟩
 cases i with
 | zero =>
  refine ⟨H.toList, by simpa using hH, fun j hj => ?_, ?_⟩
  ·have := hG.new rb 1 1 rfl j (by omega)
   rw [Nat.zero_mul, Nat.zero_add, Nat.zero_add, this, k.rc j hj, Array.getElem?_toList]
  ·exact InB.upd hu (fun g hg => by simp; omega) (fun g hg _ => ⟨hg.1, by omega⟩) _ _ _ k.hin
 | succ i =>
  have hi2 : i < I.length := by simpa using hi
  obtain ⟨cs, k1, k2, k3⟩ := hI i hi2
  refine ⟨cs, k1, fun j hj => ?_, ?_⟩
  ·have := hN (i * 7 + j) (by omega)
   rw [← k2 j hj, ← this]
   congr 2; omega
  ·refine InB.more _ _ _ ?_
   rw [List.getElem_cons_succ]
   exact InB.upd hu (fun g hg hm => by simp at hm; omega) (fun g hg _ => ⟨by omega, by omega⟩) _ _ _ k3.tight
end Go.Proofs.YtalhbbabijlngaaGreatDoor
namespace Go.Proofs.YtalhbbabijlngaaGreatDoor
open Go.RowKit
set_option maxHeartbeats 8000000 in
set_option maxRecDepth 100000 in
theorem RCons_ok (d c ci ct : Nat) (k num : Int) (neg : Bool) (s : ByteArray) (L : List Nat) (a ai at' : Option Addr) (I T : List Tm) (h : Tm) (q0 q1 q2 q3 q4 q5 q6 : Value) (w : World) (hh : In w (d + 1) [q0, q1, q2, q3, q4, q5, q6] h) (hin : In w (d + 1) [.int .u8 k, .bool neg, .slice a L.length c, .string s, .int .i64 num, .slice ai I.length ci, .slice at' T.length ct] (.mk k num neg L s I T))
  (hzh : tsz h ≤ 1353245080330) (hz : tsz (.mk k num neg L s I T) ≤ 1353245080330) (hch : cntT h ≤ 6000) (hct : cntT (.mk k num neg L s I T) ≤ 6000) (hoh : okS h = true) (hot : okS (.mk k num neg L s I T) = true) :
  Calls Tryz.prog 28 #[.agg #[q0, q1, q2, q3, q4, q5, q6], .agg #[.int .u8 k, .bool neg, .slice a L.length c, .string s, .int .i64 num, .slice ai I.length ci, .slice at' T.length ct]] w (ConsW w (d + 2) (consS h (.mk k num neg L s I T))) := by
 have HR1 : Hid (∀ V, Upd [] w V → Calls Tryz.prog 15 #[.agg #[q0, q1, q2, q3, q4, q5, q6]] V fun e w' => e = .returned (.bool true) ∧ Upd [] V w') := fun V hU => by
  have := right2_in (d + 1) V _ _ (In.mono hU _ _ _ hh) hzh hch
  rw [hoh] at this
  exact this
 have HR2 : Hid (∀ V, Upd [] w V → Calls Tryz.prog 15 #[.agg #[.int .u8 k, .bool neg, .slice a L.length c, .string s, .int .i64 num, .slice ai I.length ci, .slice at' T.length ct]] V fun e w' => e = .returned (.bool true) ∧ Upd [] V w') := fun V hU => by
  have := right2_in (d + 1) V _ _ (In.mono hU _ _ _ hin) hz hct
  rw [hot] at this
  exact this
 obtain ⟨W, hW⟩ : ∃ W, W = (((w.alloc (.cells #[q0, q1, q2, q3, q4, q5, q6] 26)).alloc (.cells #[.int .u8 k, .bool neg, .slice a L.length c, .string s, .int .i64 num, .slice ai I.length ci, .slice at' T.length ct] 26)).alloc (.cells #[.int .u8 0, .bool false, .slice none 0 0, .string ⟨#[]⟩, .int .i64 0, .slice none 0 0, .slice none 0 0] 26)) := ⟨_, rfl⟩
 have hU0 : Upd [] w W := by rw [hW]; exact (((Upd.refl [] w).alloc _).alloc _).alloc _
 have tb0 : Tb W w.heap.size #[q0, q1, q2, q3, q4, q5, q6] := by rw [hW]; exact ((Tb.new _ _ _ rfl).old _).old _
 have tb1 : Tb W (w.heap.size + 1) #[.int .u8 k, .bool neg, .slice a L.length c, .string s, .int .i64 num, .slice ai I.length ci, .slice at' T.length ct] := by rw [hW]; exact (Tb.new _ _ _ (by simp)).old _
 have tb2 : Tb W (w.heap.size + 1 + 1) #[.int .u8 0, .bool false, .slice none 0 0, .string ⟨#[]⟩, .int .i64 0, .slice none 0 0, .slice none 0 0] := by rw [hW]; exact Tb.new _ _ _ (by simp)
 have hsW : W.heap.size = w.heap.size + 3 := by rw [hW]; simp
 have HH : Hid (In w (d + 1) [q0, q1, q2, q3, q4, q5, q6] h) := hh
 have HI0 : Hid (In w (d + 1) [.int .u8 k, .bool neg, .slice a L.length c, .string s, .int .i64 num, .slice ai I.length ci, .slice at' T.length ct] (.mk k num neg L s I T)) := hin
 have HW : Hid (W = _) := hW
 have HOK : Hid (okS h = true ∧ okS (.mk k num neg L s I T) = true) := ⟨hoh, hot⟩
 have HC : Hid (cntT h ≤ 6000 ∧ cntT (.mk k num neg L s I T) ≤ 6000) := ⟨hch, hct⟩
 have HZ : Hid (tsz h ≤ 1353245080330 ∧ tsz (.mk k num neg L s I T) ≤ 1353245080330) := ⟨hzh, hz⟩
 have HTZ : Hid (tsz (consI h (.mk k num neg L s I T)) ≤ 1353245080330) := by
  show _ ≤ _
  rw [okS_iff] at hoh hot
  have h1 := tsz_ok _ (cons_ok h _ hoh.1 hot.1)
  have h2 := cons_sz h (.mk k num neg L s I T)
  split at h2 <;> omega
 have HCN : Hid (cntT (consI h (.mk k num neg L s I T)) ≤ 12100) := by
  show _ ≤ _
  have h1 : cntT (consI h (.mk k num neg L s I T)) ≤ 1 + cntT h + cntT (.mk k num neg L s I T) := by
   by_cases hk : k = 7
   ·subst hk
    rw [consI_l]
    simp only [consT, cntT, cntR, List.length_nil]
    have : (⟨#[]⟩ : ByteArray).size = 0 := rfl
    omega
   ·rw [consI_e _ _ _ _ _ _ _ _ hk]
    simp only [consT, cntT, cntR, List.length_nil]
    have : (⟨#[]⟩ : ByteArray).size = 0 := rfl
    omega
  omega
 clear hh hin hW hoh hot hch hct hzh hz
 go_enter Tryz.func28, Tryz.ntmps28
 go_wp2_with fail
 rw [← HW.out]
 go_wp2_with (first | (refine load_T _ rfl _ rfl _ _ rfl tb0 rfl ?_) | fail)
 refine Calls.mono (HR1.out _ hU0) ?_
 rintro e w1 ⟨rfl, hU1⟩
 have HU1 : Hid (Upd [] w w1) := hU0.trans hU1
 have tc0 := tb0.mono hU1 (by simp)
 have tc1 := tb1.mono hU1 (by simp)
 have tc2 := tb2.mono hU1 (by simp)
 clear hU1 tb0 tb1 tb2 hU0
 go_wp2_with (first | (refine load_G _ _ rfl _ _ rfl tc1 rfl rfl ?_) | fail)
 refine Calls.mono (HR2.out _ HU1.out) ?_
 rintro e w2 ⟨rfl, hU2⟩
 have HU2 : Hid (Upd [] w w2) := HU1.out.trans hU2
 have td0 := tc0.mono hU2 (by simp)
 have td1 := tc1.mono hU2 (by simp)
 have td2 := tc2.mono hU2 (by simp)
 clear hU2 tc0 tc1 tc2
 go_wp2_with (first | (refine load_T _ rfl _ rfl _ _ rfl td0 rfl ?_) | fail)
 refine Calls.mono (RCopy_in (d + 1) w2 [q0, q1, q2, q3, q4, q5, q6] h (In.mono HU2.out _ _ _ HH.out) HZ.out.1) ?_
 rintro e w3 ⟨hU3, cs3, h73, rfl, hR3⟩
 obtain ⟨k3, nu3, ng3, st3, aa3, ab3, ac3, na3, nb3, nc3, ca3, cb3, cc3, rfl⟩ := InB.shapeC hR3
 have te1 := td1.mono hU3 (by simp)
 have te2 := td2.mono hU3 (by simp)
 have HU3 : Hid (Upd [] w w3) := HU2.out.trans hU3
 have hs3 : w.heap.size + 3 ≤ w3.heap.size := by have := td2.lt; have := hU3.size; omega
 have HR3 : Hid (InB (fun g => w2.heap.size ≤ g) w3 (d + 1) [.int .u8 k3, .bool ng3, .slice aa3 na3 ca3, .string st3, .int .i64 nu3, .slice ab3 nb3 cb3, .slice ac3 nc3 cc3] h) := hR3
 have h23 : w2.heap.size ≤ w3.heap.size := hU3.size
 have hs2 : w.heap.size + 3 ≤ w2.heap.size := by have := td2.lt; omega
 clear hU3 td0 td1 td2 hR3 h73
 by_cases hk : k = 7
 ·subst hk
  rw [consI_l] at HTZ HCN
  have tbz : Tb ((w3.alloc (.cells #[.int .u8 k3, .bool ng3, .slice aa3 na3 ca3, .string st3, .int .i64 nu3, .slice ab3 nb3 cb3, .slice ac3 nc3 cc3] 26)).alloc (.cells #[.int .u8 0, .bool false, .slice none 0 0, .string ⟨#[]⟩, .int .i64 0, .slice none 0 0, .slice none 0 0] 26)) (w3.heap.size + 1) #[.int .u8 0, .bool false, .slice none 0 0, .string ⟨#[]⟩, .int .i64 0, .slice none 0 0, .slice none 0 0] := Tb.new _ _ _ (by simp)
  have trw : Tb ((w3.alloc (.cells #[.int .u8 k3, .bool ng3, .slice aa3 na3 ca3, .string st3, .int .i64 nu3, .slice ab3 nb3 cb3, .slice ac3 nc3 cc3] 26)).alloc (.cells #[.int .u8 0, .bool false, .slice none 0 0, .string ⟨#[]⟩, .int .i64 0, .slice none 0 0, .slice none 0 0] 26)) w3.heap.size #[.int .u8 k3, .bool ng3, .slice aa3 na3 ca3, .string st3, .int .i64 nu3, .slice ab3 nb3 cb3, .slice ac3 nc3 cc3] := (Tb.new _ _ _ rfl).old _
  have ual : Upd [] w3 ((w3.alloc (.cells #[.int .u8 k3, .bool ng3, .slice aa3 na3 ca3, .string st3, .int .i64 nu3, .slice ab3 nb3 cb3, .slice ac3 nc3 cc3] 26)).alloc (.cells #[.int .u8 0, .bool false, .slice none 0 0, .string ⟨#[]⟩, .int .i64 0, .slice none 0 0, .slice none 0 0] 26)) := ((Upd.refl [] w3).alloc _).alloc _
  go_wp2_with (first | (refine store_V _ rfl _ _ rfl _ _ _ _ _ _ _ _ _ _ _ _ _ _ _ rfl rfl tbz rfl ?_; intro w4 hT4 hU4; have u4 : Upd [] w3 w4 := ual.then hU4 (by simp); have tf1 := te1.mono u4 (by simp); have x0 : w4.cell? ⟨w.heap.size + 1, 0, none⟩ = some (.int .u8 7) := tf1.cell 0) | fail)
  have tf2 := te2.mono u4 (by simp)
  have tr4 := trw.mono hU4 (by simp)
  have HU4 : Upd [] w w4 := HU3.out.trans u4
  have hl4 : w3.heap.size + 1 < w4.heap.size := hT4.lt
  have hs23 : w2.heap.size ≤ w3.heap.size := h23
  have hin4 : InB (fun g => w2.heap.size ≤ g ∧ g < w3.heap.size) w4 (d + 1) [.int .u8 k3, .bool ng3, .slice aa3 na3 ca3, .string st3, .int .i64 nu3, .slice ab3 nb3 cb3, .slice ac3 nc3 cc3] h := InB.upd u4 (by simp) (fun g hg _ => hg) _ _ _ (InB.tight HR3.out)
  obtain ⟨_, _, _, _, _, _, e, _, _, hI, hT⟩ := HI0.out
  simp only [List.cons.injEq, Value.slice.injEq, true_and, and_true] at e
  obtain ⟨e2, ⟨e5, e5'⟩, e6, e6'⟩ := e
  rw [← e5] at hI
  rw [← e6] at hT
  clear e2 e5 e5' e6 e6'
  have hzz := HZ.out.2
  simp only [tsz] at hzz
  have HF1 : ∀ V, Upd [] w V → Calls Tryz.prog 67 #[.slice ai I.length ci] V fun e w' => ∃ u, e = .returned u ∧ Upd [] V w' ∧ RwS V.heap.size d w' I.length I u := fun V hUV => by
   refine (rcopies_in d (RCopy_in d) V ai ci I (hI.imp hUV (In.mono hUV d)) (by omega)).mono ?_
   rintro e w' ⟨g1, v, C, rfl, g2, g3, g4⟩
   obtain ⟨a6, c6, rfl, _, _, _, g5⟩ := g2.row g4 g3
   exact ⟨_, rfl, g1, a6, c6, rfl, g5⟩
  have HF2 : Hid (∀ V, Upd [] w V → Calls Tryz.prog 67 #[.slice at' T.length ct] V fun e w' => ∃ u, e = .returned u ∧ Upd [] V w' ∧ RwS V.heap.size d w' T.length T u) := fun V hUV => by
   refine (rcopies_in d (RCopy_in d) V at' ct T (hT.imp hUV (In.mono hUV d)) (by omega)).mono ?_
   rintro e w' ⟨g1, v, C, rfl, g2, g3, g4⟩
   obtain ⟨a6, c6, rfl, _, _, _, g5⟩ := g2.row g4 g3
   exact ⟨_, rfl, g1, a6, c6, rfl, g5⟩
  have hIl : I.length ≤ 1353245080330 := Nat.le_trans (tszs_len I) (by omega)
  have hILs : I.length ≤ 6000 := by
   have h1 := HC.out.2
   rw [cntT] at h1
   have h2 := len_cnt I
   omega
  have HB : RcB w w2.heap.size w3.heap.size d #[.int .u8 7, .bool neg, .slice a L.length c, .string s, .int .i64 num, .slice ai I.length ci, .slice at' T.length ct] #[.int .u8 k3, .bool ng3, .slice aa3 na3 ca3, .string st3, .int .i64 nu3, .slice ab3 nb3 cb3, .slice ac3 nc3 cc3] h (fun _ => False) w4 := ⟨HU4, ⟨hs2, hs23, hl4⟩, tf1, tf2, Or.inr ⟨w3.heap.size, 1, rfl, by omega, Nat.le_refl _, by unfold maxLen; omega, fun j hj => ⟨by rw [tr4.cell (0 + j), Array.getElem?_eq_getElem (by simp; omega)]; rfl, frozen_of_row _ _ _ _ _ tr4⟩⟩, fun j hj => tr4.cell j, hin4, fun _ => hT4⟩
  clear hI hT hzz
  refine region_resD (by kernel_rfl) 8 rfl [some 22, some 23, some 24, some 25, some 26, some 27, some 28, none] rfl (by decide) rfl (by kernel_rfl) (RcS w3.heap.size) (RcB w w2.heap.size w3.heap.size d #[.int .u8 7, .bool neg, .slice a L.length c, .string s, .int .i64 num, .slice ai I.length ci, .slice at' T.length ct] #[.int .u8 k3, .bool ng3, .slice aa3 na3 ca3, .string st3, .int .i64 nu3, .slice ab3 nb3 cb3, .slice ac3 nc3 cc3] h) (RcR w w2.heap.size w3.heap.size d (.slice ai I.length ci) I h) (HB.step ((Upd.refl [] w4).drew)) (fun D D' w5 hD hb => hb.ext (hD 7).1) (fun D i j v w5 w6 hij hni hdj hcl h hu => RcR.stab i j v w5 w6 hij (fun e e2 => by subst e; subst e2; exact hni (hcl 7 _ hdj rfl ⟨5, .data⟩ (by simp) rfl)) h hu) ?_ ?_
  ·intro D vs a' w5 i o' hA hB hR hS hi hni ho haf hcl
   have hc : i = 0 ∨ i = 1 ∨ i = 2 ∨ i = 3 ∨ i = 4 ∨ i = 5 ∨ i = 6 ∨ i = 7 := by omega
   rcases hc with rfl | rfl | rfl | rfl | rfl | rfl | rfl | rfl <;> cases ho
   ·exact ops_wp rfl rfl (wp_field5 (.tmp 5) rfl (w3.heap.size + 1) (hA.ev 5 (by decide)) ⟨_, rfl, hB.ext Or.inr, rfl, Upd.refl _ _⟩)
   ·have D0 := haf ⟨0, .data⟩ (by simp) rfl
    have n7 : ¬ D 7 := fun h7 => hni (hcl 7 _ h7 rfl ⟨1, .phase⟩ (by simp) rfl)
    exact ops_wp rfl rfl (wp_loadS (.tmp 22) rfl _ _ ((hS 0 22 rfl D0).trans (hR 0 D0)) ((hB.ox n7).cell 5) ⟨_, rfl, hB.ext Or.inr, rfl, Upd.refl _ _⟩)
   ·exact ops_wp rfl rfl (wp_field5 (.tmp 3) rfl (w.heap.size + 1) (hA.ev 3 (by decide)) ⟨_, rfl, hB.ext Or.inr, rfl, Upd.refl _ _⟩)
   ·have D2 := haf ⟨2, .data⟩ (by simp) rfl
    exact ops_wp rfl rfl (wp_loadS (.tmp 24) rfl _ _ ((hS 2 24 rfl D2).trans (hR 2 D2)) (hB.tx.cell 5) ⟨_, rfl, hB.ext Or.inr, rfl, Upd.refl _ _⟩)
   ·have D3 := haf ⟨3, .data⟩ (by simp) rfl
    refine ops_wp rfl rfl (wp_call' rfl Tryz.call67 ((hS 3 25 rfl D3).trans (hR 3 D3)) (HF1 w5 hB.u) ?_)
    rintro u w6 ⟨hu, hr⟩
    refine ⟨_, rfl, (hB.step hu).ext Or.inr, ?_, hu⟩
    obtain ⟨a5, c5, e5, hr⟩ := hr
    exact ⟨a5, c5, e5, RowB.upd (Upd.refl [] w6) (by simp) (fun g hg _ => by have := hB.lt; omega) hr⟩
   ·have D1 := haf ⟨1, .data⟩ (by simp) rfl
    have D4 := haf ⟨4, .data⟩ (by simp) rfl
    obtain ⟨a5, c5, e5, hr5⟩ := hR 4 D4
    by_cases h0 : I = []
    ·have hl0 : I.length = 0 := by rw [h0]; rfl
     rw [hl0] at e5
     refine ops_wp rfl rfl (wp_append0 (.tmp 23) (.tmp 26) rfl w3.heap.size 1 1 c5 a5 (Nat.le_refl _) ((hS 1 23 rfl D1).trans (hR 1 D1)) ((hS 4 26 rfl D4).trans e5) ⟨_, rfl, hB.ext Or.inr, ⟨some ⟨w3.heap.size, 0, none⟩, 1, by rw [hl0], ?_⟩, Upd.refl _ _⟩)
     rw [h0]
     have hlt := hB.lt
     refine Or.inr ⟨w3.heap.size, 0, rfl, ⟨hlt.2.1, by omega⟩, by omega, fun i hi => ?_⟩
     have e : i = 0 := by simp at hi; exact hi
     subst e
     exact ⟨[.int .u8 k3, .bool ng3, .slice aa3 na3 ca3, .string st3, .int .i64 nu3, .slice ab3 nb3 cb3, .slice ac3 nc3 cc3], rfl, fun j hj => by rw [Nat.zero_mul, Nat.zero_add, Nat.zero_add, hB.rc j hj]; simp, InB.upd (Upd.refl [] w5) (by simp) (fun g hg _ => ⟨hg.1, by omega⟩) _ _ _ hB.hin⟩
    ·have hpos : 0 < I.length := List.length_pos_iff.2 h0
     obtain ⟨bb, oo, rfl⟩ : ∃ b o, a5 = some ⟨b, o, none⟩ := by
      rcases hr5 with h | ⟨b, o, e, _⟩
      ·exact absurd h h0
      ·exact ⟨b, o, e⟩
     obtain ⟨news, n1, n2, n3, n4⟩ := row_cells hr5
     refine ops_wp rfl rfl (wp_appendT (.tmp 23) (.tmp 26) rfl ((hS 1 23 rfl D1).trans (hR 1 D1)) hB.ro ⟨bb, oo, none⟩ I.length c5 news ((hS 4 26 rfl D4).trans e5) n1 n2 n3 hpos (by omega) fun g' cap' w6 hR6 hG6 hN6 => ⟨_, rfl, (hB.grew hG6).ext Or.inr, ⟨_, _, rfl, ?_⟩, hG6.updR⟩)
     exact rc_row hB rfl hG6 (hR6.lt _ rfl) hN6 (fun i hi => by obtain ⟨cs, m1, m2, m3, _⟩ := n4 i hi; exact ⟨cs, m1, m2, m3⟩)
   ·exact ops_wp rfl rfl (wp_field5 (.tmp 5) rfl (w3.heap.size + 1) (hA.ev 5 (by decide)) ⟨_, rfl, hB.ext Or.inr, rfl, Upd.refl _ _⟩)
   ·have D6 := haf ⟨6, .data⟩ (by simp) rfl
    have D5 := haf ⟨5, .data⟩ (by simp) rfl
    obtain ⟨a5, c5, e5, hr5⟩ := hR 5 D5
    have ox := hB.ox hni
    have hu : Upd [w3.heap.size + 1] w5 (w5.setCell ⟨w3.heap.size + 1, 5, none⟩ (.slice a5 (1 + I.length) c5)) := (Upd.refl _ _).setCell (Or.inr (by simp)) _
    have hlt := hB.lt
    refine ops_wp rfl rfl (wp_storeS (.tmp 28) (.tmp 27) rfl _ a5 (1 + I.length) c5 _ ((hS 6 28 rfl D6).trans (hR 6 D6)) ((hS 5 27 rfl D5).trans e5) (ox.cell 5) (frozen_of_row _ _ _ _ _ ox) ⟨_, rfl, ⟨hB.u.then hu (by simp; omega), ⟨hlt.1, hlt.2.1, Nat.lt_of_lt_of_le hlt.2.2 hu.size⟩, hB.tx.mono hu (by simp; omega), hB.tz.mono hu (by simp; omega), hB.ro.upd hu (by simp [Value.ownBlock]), fun j hj => ?_, InB.upd hu (fun g hg => by simp; omega) (fun g hg _ => hg) _ _ _ hB.hin, fun n => absurd (Or.inl rfl) n⟩, ⟨a5, c5, ox.put5, RowB.upd hu (fun b hb => by simp; exact hb.2) (fun b hb _ => hb) hr5⟩, hu⟩)
    rw [hu.cell (p := ⟨w3.heap.size, j, none⟩) (by show w3.heap.size < _; omega) (by simp)]
    exact hB.rc j hj
  ·intro vs w5 hv hB hR
   obtain ⟨v0, r0, rfl, hv0⟩ := list_cons hv
   obtain ⟨v1, r1, rfl, hv1⟩ := list_cons hv0
   obtain ⟨v2, r2, rfl, hv2⟩ := list_cons hv1
   obtain ⟨v3, r3, rfl, hv3⟩ := list_cons hv2
   obtain ⟨v4, r4, rfl, hv4⟩ := list_cons hv3
   obtain ⟨v5, r5, rfl, hv5⟩ := list_cons hv4
   obtain ⟨v6, r6, rfl, hv6⟩ := list_cons hv5
   obtain ⟨v7, r7, rfl, hv7⟩ := list_cons hv6
   obtain ⟨a5, c5, to5, hr5⟩ := hR 7 (by omega)
   have HRI : Hid (RowB (NotB w2.heap.size (w3.heap.size + 1)) (InB (NotB w2.heap.size (w3.heap.size + 1)) w5 (d + 1)) w5 a5 (h :: I)) := hr5
   have HU5 : Hid (Upd [] w w5) := hB.u
   have hl5 := hB.lt.2.2
   have tx5 := hB.tx
   have tz5 := hB.tz
   have y6 : w5.cell? ⟨w.heap.size + 1, 6, none⟩ = some (.slice at' T.length ct) := tx5.cell 6
   clear hR hB hr5 HF1 HB hT4 tf1 tf2 x0 hin4 tr4
   simp only [putAll, Act.put, List.setIfInBounds_toArray, List.set_cons_succ, List.set_cons_zero]
   go_wp2_with fail
   refine Calls.mono (HF2.out _ HU5.out) ?_
   rintro e w6 ⟨u6, rfl, hu6, ⟨a6, c6, rfl, hr6⟩⟩
   have to6 := to5.mono hu6 (by simp)
   have z6 : w6.cell? ⟨w3.heap.size + 1, 6, none⟩ = some (.slice none 0 0) := to6.cell 6
   have zf6 : w6.frozen? ⟨w3.heap.size + 1, 6, none⟩ = false := frozen_of_row _ _ _ _ _ to6
   have v6 : Upd [w3.heap.size + 1] w6 (w6.setCell ⟨w3.heap.size + 1, 6, none⟩ (.slice a6 T.length c6)) := (Upd.refl _ _).setCell (Or.inr (by simp)) _
   have to7 := to6.put6 (u6 := .slice a6 T.length c6)
   have tz7 := (tz5.mono hu6 (by simp)).mono v6 (by simp; omega)
   have HU7 : Hid (Upd [] w (w6.setCell ⟨w3.heap.size + 1, 6, none⟩ (.slice a6 T.length c6))) := (HU5.out.trans hu6).then v6 (by simp; omega)
   have hrI := RowB.upd v6 (Q := NotB w2.heap.size (w3.heap.size + 1)) (fun b hb => by simp; exact hb.2) (fun b hb _ => hb) (RowB.upd hu6 (by simp) (fun b hb _ => hb) HRI.out)
   have hrT := RowB.upd v6 (Q := NotB w2.heap.size (w3.heap.size + 1)) (fun b hb => by simp; omega) (fun b hb _ => ⟨by omega, by omega⟩) hr6
   have HIN : Hid (InB (NotB w2.heap.size (w3.heap.size + 1)) (w6.setCell ⟨w3.heap.size + 1, 6, none⟩ (.slice a6 T.length c6)) (d + 2) [.int .u8 7, .bool false, .slice none 0 0, .string ⟨#[]⟩, .int .i64 0, .slice a5 (1 + I.length) c5, .slice a6 T.length c6] (consT h I T)) :=
    ⟨none, a5, a6, 0, c5, c6, by rw [List.length_cons, Nat.add_comm 1]; rfl, Or.inl rfl, Dig.nil, hrI, RowB.deep hrT⟩
   clear HRI hrI hrT hr6 HF2
   go_wp2_with (first | (refine load_T _ rfl _ rfl _ _ rfl to7 rfl ?_) | fail)
   refine Calls.mono (right2_inW (d + 2) _ [.int .u8 7, .bool false, .slice none 0 0, .string ⟨#[]⟩, .int .i64 0, .slice a5 (1 + I.length) c5, .slice a6 T.length c6] (consT h I T) (InB.plain _ _ _ HIN.out) HTZ.out HCN.out) ?_
   rintro e w7 ⟨rfl, hu7⟩
   have to8 := to7.mono hu7 (by simp)
   have tz8 := tz7.mono hu7 (by simp)
   have HU8 : Hid (Upd [] w w7) := HU7.out.trans hu7
   have HI8 : Hid (InB (NotB w2.heap.size (w3.heap.size + 1)) w7 (d + 2) [.int .u8 7, .bool false, .slice none 0 0, .string ⟨#[]⟩, .int .i64 0, .slice a5 (1 + I.length) c5, .slice a6 T.length c6] (consT h I T)) := InB.upd hu7 (by simp) (fun b hb _ => hb) _ _ _ HIN.out
   cases hfin : okS (consT h I T) with
   | true =>
    have HE : Hid (consS h (.mk 7 num neg L s I T) = (consT h I T)) := by
     show _ = _
     unfold consS
     rw [consI_l, HOK.out.1, HOK.out.2, hfin]
     rfl
    go_wp2_with (first | (refine load_T _ rfl _ rfl _ _ rfl to8 rfl ?_) | (refine store_V _ rfl _ _ rfl _ _ _ _ _ _ _ _ _ _ _ _ _ _ _ rfl rfl tz8 rfl ?_; intro w9 hT9 hU9) | fail)
    refine ret_T Tryz.results28 rfl _ _ rfl hT9 rfl ⟨[.int .u8 7, .bool false, .slice none 0 0, .string ⟨#[]⟩, .int .i64 0, .slice a5 (1 + I.length) c5, .slice a6 T.length c6], rfl, rfl, ?_, HU8.out.then hU9 (by simp; omega)⟩
    rw [HE.out]
    exact InB.plain _ _ _ (InB.upd (Q := fun _ => True) hU9 (fun b hb hm => by simp at hm; have := hb.1; omega) (fun _ _ _ => trivial) _ _ _ HI8.out)
   | false =>
    have HE : Hid (consS h (.mk 7 num neg L s I T) = zeroT) := by
     show _ = _
     unfold consS
     rw [consI_l, hfin, Bool.and_false]
     rfl
    go_wp2_with (first | (refine store_V _ rfl _ _ rfl _ _ _ _ _ _ _ _ _ _ _ _ _ _ _ rfl rfl tz8 rfl ?_; intro w9 hT9 hU9) | fail)
    refine ret_T Tryz.results28 rfl _ _ rfl hT9 rfl ⟨zeroC, rfl, rfl, ?_, HU8.out.then hU9 (by simp; omega)⟩
    rw [HE.out]
    exact zero_in _ _
 ·have kne : (k == 7) = false := beq_eq_false_iff_ne.2 hk
  rw [consI_e _ _ _ _ _ _ _ _ hk] at HTZ HCN
  have tbz : Tb ((w3.alloc (.cells #[.int .u8 k3, .bool ng3, .slice aa3 na3 ca3, .string st3, .int .i64 nu3, .slice ab3 nb3 cb3, .slice ac3 nc3 cc3] 26)).alloc (.cells #[.int .u8 0, .bool false, .slice none 0 0, .string ⟨#[]⟩, .int .i64 0, .slice none 0 0, .slice none 0 0] 26)) (w3.heap.size + 1) #[.int .u8 0, .bool false, .slice none 0 0, .string ⟨#[]⟩, .int .i64 0, .slice none 0 0, .slice none 0 0] := Tb.new _ _ _ (by simp)
  have trw : Tb ((w3.alloc (.cells #[.int .u8 k3, .bool ng3, .slice aa3 na3 ca3, .string st3, .int .i64 nu3, .slice ab3 nb3 cb3, .slice ac3 nc3 cc3] 26)).alloc (.cells #[.int .u8 0, .bool false, .slice none 0 0, .string ⟨#[]⟩, .int .i64 0, .slice none 0 0, .slice none 0 0] 26)) w3.heap.size #[.int .u8 k3, .bool ng3, .slice aa3 na3 ca3, .string st3, .int .i64 nu3, .slice ab3 nb3 cb3, .slice ac3 nc3 cc3] := (Tb.new _ _ _ rfl).old _
  have ual : Upd [] w3 ((w3.alloc (.cells #[.int .u8 k3, .bool ng3, .slice aa3 na3 ca3, .string st3, .int .i64 nu3, .slice ab3 nb3 cb3, .slice ac3 nc3 cc3] 26)).alloc (.cells #[.int .u8 0, .bool false, .slice none 0 0, .string ⟨#[]⟩, .int .i64 0, .slice none 0 0, .slice none 0 0] 26)) := ((Upd.refl [] w3).alloc _).alloc _
  go_wp2_with (first | (refine store_V _ rfl _ _ rfl _ _ _ _ _ _ _ _ _ _ _ _ _ _ _ rfl rfl tbz rfl ?_; intro w4 hT4 hU4; have u4 : Upd [] w3 w4 := ual.then hU4 (by simp); have tf1 := te1.mono u4 (by simp); have x0 : w4.cell? ⟨w.heap.size + 1, 0, none⟩ = some (.int .u8 k) := tf1.cell 0) | (refine load_T _ rfl _ rfl _ _ rfl tf1 rfl ?_) | fail)
  have tf2 := te2.mono u4 (by simp)
  have tr4 := trw.mono hU4 (by simp)
  have HU4 : Upd [] w w4 := HU3.out.trans u4
  have hl4 : w3.heap.size + 1 < w4.heap.size := hT4.lt
  have hs23 : w2.heap.size ≤ w3.heap.size := h23
  have hin4 : InB (fun g => w2.heap.size ≤ g ∧ g < w3.heap.size) w4 (d + 1) [.int .u8 k3, .bool ng3, .slice aa3 na3 ca3, .string st3, .int .i64 nu3, .slice ab3 nb3 cb3, .slice ac3 nc3 cc3] h := InB.upd u4 (by simp) (fun g hg _ => hg) _ _ _ (InB.tight HR3.out)
  refine Calls.mono (RCopy_in (d + 1) w4 [.int .u8 k, .bool neg, .slice a L.length c, .string s, .int .i64 num, .slice ai I.length ci, .slice at' T.length ct] (.mk k num neg L s I T) (In.mono HU4 _ _ _ HI0.out) HZ.out.2) ?_
  rintro e w5 ⟨hU5, cs5, h75, rfl, hR5⟩
  obtain ⟨k5, nu5, ng5, st5, aa5, ab5, ac5, na5, nb5, nc5, ca5, cb5, cc5, rfl⟩ := InB.shapeC hR5
  have hs5 := hU5.size
  have ua5 : Upd [] w5 (w5.alloc (.cells #[.int .u8 k5, .bool ng5, .slice aa5 na5 ca5, .string st5, .int .i64 nu5, .slice ab5 nb5 cb5, .slice ac5 nc5 cc5] 26)) := (Upd.refl [] w5).alloc _
  have to6 := (hT4.mono hU5 (by simp)).mono ua5 (by simp)
  have z6 : (w5.alloc (.cells #[.int .u8 k5, .bool ng5, .slice aa5 na5 ca5, .string st5, .int .i64 nu5, .slice ab5 nb5 cb5, .slice ac5 nc5 cc5] 26)).cell? ⟨w3.heap.size + 1, 6, none⟩ = some (.slice none 0 0) := to6.cell 6
  have zf6 : (w5.alloc (.cells #[.int .u8 k5, .bool ng5, .slice aa5 na5 ca5, .string st5, .int .i64 nu5, .slice ab5 nb5 cb5, .slice ac5 nc5 cc5] 26)).frozen? ⟨w3.heap.size + 1, 6, none⟩ = false := frozen_of_row _ _ _ _ _ to6
  have v6 : Upd [w3.heap.size + 1] (w5.alloc (.cells #[.int .u8 k5, .bool ng5, .slice aa5 na5 ca5, .string st5, .int .i64 nu5, .slice ab5 nb5 cb5, .slice ac5 nc5 cc5] 26)) ((w5.alloc (.cells #[.int .u8 k5, .bool ng5, .slice aa5 na5 ca5, .string st5, .int .i64 nu5, .slice ab5 nb5 cb5, .slice ac5 nc5 cc5] 26)).setCell ⟨w3.heap.size + 1, 6, none⟩ (.slice (some ⟨w5.heap.size, 0, none⟩) 1 1)) := (Upd.refl _ _).setCell (Or.inr (by simp)) _
  have to7 := to6.put6 (u6 := .slice (some ⟨w5.heap.size, 0, none⟩) 1 1)
  have tz7 := ((tf2.mono hU5 (by simp)).mono ua5 (by simp)).mono v6 (by simp; omega)
  have HU7 : Hid (Upd [] w ((w5.alloc (.cells #[.int .u8 k5, .bool ng5, .slice aa5 na5 ca5, .string st5, .int .i64 nu5, .slice ab5 nb5 cb5, .slice ac5 nc5 cc5] 26)).setCell ⟨w3.heap.size + 1, 6, none⟩ (.slice (some ⟨w5.heap.size, 0, none⟩) 1 1))) := ((HU4.trans hU5).trans ua5).then v6 (by simp; omega)
  have tr7 : Tb ((w5.alloc (.cells #[.int .u8 k5, .bool ng5, .slice aa5 na5 ca5, .string st5, .int .i64 nu5, .slice ab5 nb5 cb5, .slice ac5 nc5 cc5] 26)).setCell ⟨w3.heap.size + 1, 6, none⟩ (.slice (some ⟨w5.heap.size, 0, none⟩) 1 1)) w3.heap.size [.int .u8 k3, .bool ng3, .slice aa3 na3 ca3, .string st3, .int .i64 nu3, .slice ab3 nb3 cb3, .slice ac3 nc3 cc3].toArray := ((tr4.mono hU5 (by simp)).mono ua5 (by simp)).mono v6 (by simp)
  have tt7 : Tb ((w5.alloc (.cells #[.int .u8 k5, .bool ng5, .slice aa5 na5 ca5, .string st5, .int .i64 nu5, .slice ab5 nb5 cb5, .slice ac5 nc5 cc5] 26)).setCell ⟨w3.heap.size + 1, 6, none⟩ (.slice (some ⟨w5.heap.size, 0, none⟩) 1 1)) w5.heap.size [.int .u8 k5, .bool ng5, .slice aa5 na5 ca5, .string st5, .int .i64 nu5, .slice ab5 nb5 cb5, .slice ac5 nc5 cc5].toArray := (Tb.new w5 #[.int .u8 k5, .bool ng5, .slice aa5 na5 ca5, .string st5, .int .i64 nu5, .slice ab5 nb5 cb5, .slice ac5 nc5 cc5] _ rfl).mono v6 (by simp; omega)
  have hi7 : InB (NotB w2.heap.size (w3.heap.size + 1)) ((w5.alloc (.cells #[.int .u8 k5, .bool ng5, .slice aa5 na5 ca5, .string st5, .int .i64 nu5, .slice ab5 nb5 cb5, .slice ac5 nc5 cc5] 26)).setCell ⟨w3.heap.size + 1, 6, none⟩ (.slice (some ⟨w5.heap.size, 0, none⟩) 1 1)) (d + 1) [.int .u8 k3, .bool ng3, .slice aa3 na3 ca3, .string st3, .int .i64 nu3, .slice ab3 nb3 cb3, .slice ac3 nc3 cc3] h := InB.upd v6 (fun g hg => by simp; omega) (fun g hg _ => ⟨hg.1, by omega⟩) _ _ _ (InB.upd (hU5.trans ua5) (by simp) (fun g hg _ => hg) _ _ _ hin4)
  have ht7 : InB (NotB w2.heap.size (w3.heap.size + 1)) ((w5.alloc (.cells #[.int .u8 k5, .bool ng5, .slice aa5 na5 ca5, .string st5, .int .i64 nu5, .slice ab5 nb5 cb5, .slice ac5 nc5 cc5] 26)).setCell ⟨w3.heap.size + 1, 6, none⟩ (.slice (some ⟨w5.heap.size, 0, none⟩) 1 1)) (d + 1) [.int .u8 k5, .bool ng5, .slice aa5 na5 ca5, .string st5, .int .i64 nu5, .slice ab5 nb5 cb5, .slice ac5 nc5 cc5] (.mk k num neg L s I T) := InB.upd v6 (fun g hg => by simp; omega) (fun g hg _ => ⟨by omega, by omega⟩) _ _ _ (InB.upd ua5 (by simp) (fun g hg _ => hg) _ _ _ hR5)
  have HIN : Hid (InB (NotB w2.heap.size (w3.heap.size + 1)) ((w5.alloc (.cells #[.int .u8 k5, .bool ng5, .slice aa5 na5 ca5, .string st5, .int .i64 nu5, .slice ab5 nb5 cb5, .slice ac5 nc5 cc5] 26)).setCell ⟨w3.heap.size + 1, 6, none⟩ (.slice (some ⟨w5.heap.size, 0, none⟩) 1 1)) (d + 2) [.int .u8 7, .bool false, .slice none 0 0, .string ⟨#[]⟩, .int .i64 0, .slice (some ⟨w3.heap.size, 0, none⟩) 1 1, .slice (some ⟨w5.heap.size, 0, none⟩) 1 1] (consT h [] [.mk k num neg L s I T])) :=
   ⟨none, some ⟨w3.heap.size, 0, none⟩, some ⟨w5.heap.size, 0, none⟩, 0, 1, 1, rfl, Or.inl rfl, Dig.nil, row_oneI tr7 rfl ⟨hs23, by omega⟩ hi7, row_oneI tt7 rfl ⟨by omega, by omega⟩ ht7⟩
  clear hi7 ht7 tr7 tt7 hin4 tr4 hT4 hR5 tf1 tf2 x0 ua5 v6 h75
  go_wp2_with (first | (refine load_T _ rfl _ rfl _ _ rfl to7 rfl ?_) | fail)
  refine Calls.mono (right2_inW (d + 2) _ [.int .u8 7, .bool false, .slice none 0 0, .string ⟨#[]⟩, .int .i64 0, .slice (some ⟨w3.heap.size, 0, none⟩) 1 1, .slice (some ⟨w5.heap.size, 0, none⟩) 1 1] (consT h [] [.mk k num neg L s I T]) (InB.plain _ _ _ HIN.out) HTZ.out HCN.out) ?_
  rintro e w7 ⟨rfl, hu7⟩
  have to8 := to7.mono hu7 (by simp)
  have tz8 := tz7.mono hu7 (by simp)
  have HU8 : Hid (Upd [] w w7) := HU7.out.trans hu7
  have HI8 : Hid (InB (NotB w2.heap.size (w3.heap.size + 1)) w7 (d + 2) [.int .u8 7, .bool false, .slice none 0 0, .string ⟨#[]⟩, .int .i64 0, .slice (some ⟨w3.heap.size, 0, none⟩) 1 1, .slice (some ⟨w5.heap.size, 0, none⟩) 1 1] (consT h [] [.mk k num neg L s I T])) := InB.upd hu7 (by simp) (fun b hb _ => hb) _ _ _ HIN.out
  cases hfin : okS (consT h [] [.mk k num neg L s I T]) with
  | true =>
   have HE : Hid (consS h (.mk k num neg L s I T) = (consT h [] [.mk k num neg L s I T])) := by
    show _ = _
    unfold consS
    rw [consI_e _ _ _ _ _ _ _ _ hk, HOK.out.1, HOK.out.2, hfin]
    rfl
   go_wp2_with (first | (refine load_T _ rfl _ rfl _ _ rfl to8 rfl ?_) | (refine store_V _ rfl _ _ rfl _ _ _ _ _ _ _ _ _ _ _ _ _ _ _ rfl rfl tz8 rfl ?_; intro w9 hT9 hU9) | fail)
   refine ret_T Tryz.results28 rfl _ _ rfl hT9 rfl ⟨[.int .u8 7, .bool false, .slice none 0 0, .string ⟨#[]⟩, .int .i64 0, .slice (some ⟨w3.heap.size, 0, none⟩) 1 1, .slice (some ⟨w5.heap.size, 0, none⟩) 1 1], rfl, rfl, ?_, HU8.out.then hU9 (by simp; omega)⟩
   rw [HE.out]
   exact InB.plain _ _ _ (InB.upd (Q := fun _ => True) hU9 (fun b hb hm => by simp at hm; have := hb.1; omega) (fun _ _ _ => trivial) _ _ _ HI8.out)
  | false =>
   have HE : Hid (consS h (.mk k num neg L s I T) = zeroT) := by
    show _ = _
    unfold consS
    rw [consI_e _ _ _ _ _ _ _ _ hk, hfin, Bool.and_false]
    rfl
   go_wp2_with (first | (refine store_V _ rfl _ _ rfl _ _ _ _ _ _ _ _ _ _ _ _ _ _ _ rfl rfl tz8 rfl ?_; intro w9 hT9 hU9) | fail)
   refine ret_T Tryz.results28 rfl _ _ rfl hT9 rfl ⟨zeroC, rfl, rfl, ?_, HU8.out.then hU9 (by simp; omega)⟩
   rw [HE.out]
   exact zero_in _ _
theorem RCons_in (d : Nat) (w : World) (cs cs' : List Value) (h t : Tm) (hh : In w (d + 1) cs h) (hin : In w (d + 1) cs' t) (hzh : tsz h ≤ 1353245080330) (hz : tsz t ≤ 1353245080330) (hch : cntT h ≤ 6000) (hct : cntT t ≤ 6000) :
  Calls Tryz.prog 28 #[.agg cs.toArray, .agg cs'.toArray] w (ConsW w (d + 2) (consS h t)) := by
 obtain ⟨q0, q1, q2, q3, q4, q5, q6, rfl⟩ := list7 hh.len
 cases hok : (okS h && okS t) with
 | false =>
  obtain ⟨p0, p1, p2, p3, p4, p5, p6, rfl⟩ := list7 hin.len
  have e : consS h t = zeroT := by unfold consS; rw [hok]; rfl
  rw [e]
  refine (RCons_bad (d + 1) w h t q0 q1 q2 q3 q4 q5 q6 p0 p1 p2 p3 p4 p5 p6 hh hin hzh hz hch hct hok).mono ?_
  rintro e w' ⟨cs, h7, he, hi, hu⟩
  exact ⟨cs, h7, he, In.more _ _ _ hi, hu⟩
 | true =>
  rw [Bool.and_eq_true] at hok
  obtain ⟨k, num, neg, L, s, I, T⟩ := t
  have hin' := hin
  obtain ⟨a, ai, at', c, ci, ct, rfl, _⟩ := hin
  exact RCons_ok d c ci ct k num neg s L a ai at' I T h q0 q1 q2 q3 q4 q5 q6 w hh hin' hzh hz hch hct hok.1 hok.2
end Go.Proofs.YtalhbbabijlngaaGreatDoor
namespace Go.Proofs.YtalhbbabijlngaaGreatDoor
open Go.RowKit
set_option maxHeartbeats 1000000 in
set_option maxRecDepth 100000 in
theorem Of_byte (S : Nat) (w : World) (hS : S < 256) :
  Calls Tryz.prog 65 #[.int .i64 (S : Nat)] w fun e w' => Upd [] w w' ∧ w.heap.size + 2 ≤ w'.heap.size ∧ ((S = 0 ∧ e = .returned (.agg #[.int .u8 1, .bool false, .slice none 0 0, .string ⟨#[]⟩, .int .i64 0, .slice none 0 0, .slice none 0 0])) ∨ (S ≠ 0 ∧ e = .returned (.agg #[.int .u8 1, .bool false, .slice (some ⟨w.heap.size + 1, 0, none⟩) 1 2, .string ⟨#[]⟩, .int .i64 0, .slice none 0 0, .slice none 0 0]) ∧ Blk w' (w.heap.size + 1) [S, 0])) := by
 go_enter Tryz.func65, Tryz.ntmps65
 go_wp2_with fail
 have hd : (S : Int) / 4294967296 = 0 := by omega
 rw [hd]
 have hU0 := ((Upd.refl [] w).alloc (.cells #[.int .u8 0, .bool false, .slice none 0 0, .string ⟨#[]⟩, .int .i64 0, .slice none 0 0, .slice none 0 0] 26)).alloc (.cells #[.int .u32 (S : Int), .int .u32 0] 47)
 have hT0 := (Tb.new w #[.int .u8 0, .bool false, .slice none 0 0, .string ⟨#[]⟩, .int .i64 0, .slice none 0 0, .slice none 0 0] _ rfl).old (.cells #[.int .u32 (S : Int), .int .u32 0] 47)
 have hblk : Blk ((w.alloc (.cells #[.int .u8 0, .bool false, .slice none 0 0, .string ⟨#[]⟩, .int .i64 0, .slice none 0 0, .slice none 0 0] 26)).alloc (.cells #[.int .u32 (S : Int), .int .u32 0] 47)) (w.heap.size + 1) [S, 0] := by
  unfold Blk
  rw [getnew2 _ _ _ (by simp)]
  simp [u32s]
 have hcell : ∀ i, i < [S, 0].length → ((w.alloc (.cells #[.int .u8 0, .bool false, .slice none 0 0, .string ⟨#[]⟩, .int .i64 0, .slice none 0 0, .slice none 0 0] 26)).alloc (.cells #[.int .u32 (S : Int), .int .u32 0] 47)).cell? ⟨w.heap.size + 1, 0 + i, none⟩ = some (.int .u32 ([S, 0].getD i 0 : Nat)) := by
  rcases hblk.at with h | ⟨b, o, e, _, hc⟩
  ·cases h
  ·cases e; exact hc
 have hsz : ((w.alloc (.cells #[.int .u8 0, .bool false, .slice none 0 0, .string ⟨#[]⟩, .int .i64 0, .slice none 0 0, .slice none 0 0] 26)).alloc (.cells #[.int .u32 (S : Int), .int .u32 0] 47)).heap.size = w.heap.size + 2 := by simp
 refine (trimmed_core (w.heap.size + 1) 0 2 [S, 0] _ (by simp) (by simp) (by omega) hcell).mono ?_
 rintro e w1 ⟨rfl, n, hn, hz, hcase⟩
 by_cases h0 : S = 0
 ·subst h0
  have hn0 : n = 0 := by
   rcases hcase with ⟨h, _⟩ | ⟨h, h2, _⟩
   ·exact h
   ·have h3 : n = 1 ∨ n = 2 := by simp at hn; omega
    rcases h3 with rfl | rfl <;> simp at h2
  obtain ⟨rfl⟩ : e = .returned (.slice none 0 0) := by
   rcases hcase with ⟨_, h⟩ | ⟨h, _⟩
   ·exact h
   ·exact (h hn0).elim
  clear hcase hz hcell hblk
  go_wp2_with fail
  refine (signed_any none 0 0 _ _ (by omega)).mono ?_
  rintro e w2 ⟨rfl, hU2⟩
  have hT2 := hT0.mono hU2 (by simp)
  have hU02 := hU0.trans hU2
  have hs2 : w.heap.size + 2 ≤ w2.heap.size := by have := hU2.size; simp at this; omega
  clear hU0 hT0 hU2 hsz
  go_wp2_with (refine store_V _ rfl _ _ rfl _ _ _ _ _ _ _ _ _ _ _ _ _ _ _ rfl rfl hT2 rfl ?_; intro w3 hT3 hU3)
  exact ret_T Tryz.results65 rfl _ _ rfl hT3 rfl ⟨hU02.then hU3 (by simp), by have := hU3.size; omega, by first | exact Or.inl ⟨rfl, rfl⟩ | rfl⟩
 ·have hn1 : n = 1 := by
   rcases hcase with ⟨h, _⟩ | ⟨h, h2, _⟩
   ·have := hz 0 (by omega)
    simp at this
    omega
   ·have h3 : n = 1 ∨ n = 2 := by simp at hn; omega
    rcases h3 with rfl | rfl
    ·rfl
    ·simp at h2
  subst hn1
  obtain ⟨rfl⟩ : e = .returned (.slice (some ⟨w.heap.size + 1, 0, none⟩) 1 2) := by
   rcases hcase with ⟨h, _⟩ | ⟨_, _, h⟩
   ·omega
   ·exact h
  clear hcase hz hcell
  go_wp2_with fail
  refine (signed_any (some ⟨w.heap.size + 1, 0, none⟩) 1 2 _ _ (by omega)).mono ?_
  rintro e w2 ⟨rfl, hU2⟩
  rw [show (decide ((S : Int) < 0) && decide (0 < 1)) = false by simp]
  have hT2 := hT0.mono hU2 (by simp)
  have hU02 := hU0.trans hU2
  have HB2 : Hid (Blk w2 (w.heap.size + 1) [S, 0]) := (hU2.block _ (by simp) (by simp)).trans hblk
  have hs2 : w.heap.size + 2 ≤ w2.heap.size := by have := hU2.size; simp at this; omega
  clear hU0 hT0 hU2 hsz hblk
  go_wp2_with (refine store_V _ rfl _ _ rfl _ _ _ _ _ _ _ _ _ _ _ _ _ _ _ rfl rfl hT2 rfl ?_; intro w3 hT3 hU3)
  exact ret_T Tryz.results65 rfl _ _ rfl hT3 rfl ⟨hU02.then hU3 (by simp), by have := hU3.size; omega, Or.inr ⟨h0, rfl, (hU3.block _ (by omega) (by simp)).trans HB2.out⟩⟩
end Go.Proofs.YtalhbbabijlngaaGreatDoor
namespace Go.Proofs.YtalhbbabijlngaaGreatDoor
open Go.RowKit
def bytL (x : Nat) : List Nat := if x = 0 then [] else [x]
def bytT (x : Nat) : Tm := .mk 1 0 false (bytL x) ⟨#[]⟩ [] []
def bytV (x g : Nat) : Value := if x = 0 then .slice none 0 0 else .slice (some ⟨g, 0, none⟩) 1 2
def bytC (x g : Nat) : List Value := [.int .u8 1, .bool false, bytV x g, .string ⟨#[]⟩, .int .i64 0, .slice none 0 0, .slice none 0 0]
def byN (s : ByteArray) (j : Nat) : Nat := (s.data.getD j 0).toNat
def ofT (s : ByteArray) : Tm := .mk 7 0 false [] ⟨#[]⟩ ((List.range s.size).map fun j => bytT (byN s j)) []
structure OfI (s : ByteArray) (w : World) (k : Nat) (G : Nat → Nat) (ov : Value) (wr : World) : Prop where
 row : RowG wr 7 ov k
 has : Hs wr 7 ov k (fun j => bytC (byN s j) (G j))
 new : ∀ g, ov.ownBlock = some g → w.heap.size ≤ g
 lo : ∀ j, j < k → w.heap.size ≤ G j
 hi : ∀ j, j < k → G j < wr.heap.size
 off : ∀ j, j < k → ov.ownBlock ≠ some (G j)
 blk : ∀ j, j < k → byN s j ≠ 0 → Blk wr (G j) [byN s j, 0]
 up : ∀ i j, i < j → j < k → G i < G j
 upd : Upd [] w wr
theorem OfI.step {s : ByteArray} {w wr w1 w3 : World} {k g' cap' : Nat} {G : Nat → Nat} {ov : Value} (h : OfI s w k G ov wr) (hU1 : Upd [] wr w1) (hs1 : wr.heap.size + 2 ≤ w1.heap.size) (hB : byN s k ≠ 0 → Blk w1 (wr.heap.size + 1) [byN s k, 0]) (T : TypeId)
  (hR3 : RowG w3 7 (.slice (some ⟨g', 0, none⟩) (k + 1) cap') (k + 1)) (hG : Grew 7 (w1.alloc (.cells (bytC (byN s k) (wr.heap.size + 1)).toArray T)) w3 ov k g') (hN : ∀ j, j < 1 * 7 → w3.cell? ⟨g', k * 7 + j, none⟩ = (bytC (byN s k) (wr.heap.size + 1))[j]?) :
  ∃ G', OfI s w (k + 1) G' (.slice (some ⟨g', 0, none⟩) (k + 1) cap') w3 := by
 have hUa : Upd [] w1 (w1.alloc (.cells (bytC (byN s k) (wr.heap.size + 1)).toArray T)) := (Upd.refl [] w1).alloc _
 have hsa : (w1.alloc (.cells (bytC (byN s k) (wr.heap.size + 1)).toArray T)).heap.size = w1.heap.size + 1 := by simp
 have hs0 := h.upd.size
 have hs3 := hG.upd.size
 obtain ⟨G', hG'⟩ : ∃ G' : Nat → Nat, G' = fun j => if j = k then wr.heap.size + 1 else G j := ⟨_, rfl⟩
 have hk : G' k = wr.heap.size + 1 := by rw [hG']; simp
 have hj : ∀ j, j < k → G' j = G j := fun j hj => by rw [hG']; simp; omega
 have hgb : w.heap.size ≤ g' := by
  rcases hG.at' with e | e
  ·exact h.new g' e
  ·omega
 have hgk : g' ≠ wr.heap.size + 1 := by
  rcases hG.at' with e | e
  ·have := h.row.lt _ e; omega
  ·omega
 have hgj : ∀ j, j < k → g' ≠ G j := fun j hj e => by
  rcases hG.at' with e2 | e2
  ·rw [e] at e2; exact h.off j hj e2
  ·have := h.hi j hj; omega
 have hRa : RowG (w1.alloc (.cells (bytC (byN s k) (wr.heap.size + 1)).toArray T)) 7 ov k := (h.row.upd hU1 (by simp)).upd hUa (by simp)
 have hHa : Hs (w1.alloc (.cells (bytC (byN s k) (wr.heap.size + 1)).toArray T)) 7 ov k (fun j => bytC (byN s j) (G' j)) := fun g l c e i j hi hj2 => by
  simp only [hj i hi]
  exact ((h.has.upd h.row hU1 (by simp)).upd (h.row.upd hU1 (by simp)) hUa (by simp)) g l c e i j hi hj2
 refine ⟨G', ⟨hR3, hG.has1 hHa hRa (fun j hj2 => by rw [hk]; exact hN j (by omega)), fun g hg => by cases hg; exact hgb, fun j hj2 => ?_, fun j hj2 => ?_, fun j hj2 e => ?_, fun j hj2 hx => ?_, fun i j hij hj2 => ?_, (h.upd.trans (hU1.trans hUa)).then hG.upd (by simp; exact hgb)⟩⟩
 ·by_cases e : j = k
  ·subst e; omega
  ·rw [hj j (by omega)]; exact h.lo j (by omega)
 ·by_cases e : j = k
  ·subst e; omega
  ·have := h.hi j (by omega); rw [hj j (by omega)]; omega
 ·have e2 : g' = G' j := by simpa [Value.ownBlock] using e
  by_cases e3 : j = k
  ·subst e3; omega
  ·rw [hj j (by omega)] at e2; exact hgj j (by omega) e2
 ·by_cases e : j = k
  ·subst e
   rw [hk]
   have hb := (hUa.block _ (by omega) (by simp)).trans (hB hx)
   exact (hG.upd.block _ (by omega) (by simp; omega)).trans hb
  ·rw [hj j (by omega)]
   have hl := h.hi j (by omega)
   have hb := ((hU1.trans hUa).block _ hl (by simp)).trans (h.blk j (by omega) hx)
   exact (hG.upd.block _ (by omega) (by simp; exact fun e => hgj j (by omega) e.symm)).trans hb
 ·by_cases e : j = k
  ·subst e
   rw [hj i hij, hk]
   have := h.hi i hij; omega
  ·rw [hj i (by omega), hj j (by omega)]
   exact h.up i j hij (by omega)
theorem byt_BT {s : ByteArray} {w wr : World} {k : Nat} {G : Nat → Nat} {ov : Value} (h : OfI s w k G ov wr) (d j : Nat) (hj : j < k) : BT 0 wr (d + 1) (bytC (byN s j) (G j)) (bytT (byN s j)) (bytV (byN s j) (G j) :: ([] ++ [])) ([.slice none 0 0] ++ [.slice none 0 0]) := by
 refine ⟨bytV (byN s j) (G j), .slice none 0 0, .slice none 0 0, [], [], [.slice none 0 0], [.slice none 0 0], rfl, ?_, nilR wr d, nilR wr d, rfl, rfl⟩
 unfold bytV bytL
 by_cases hx : byN s j = 0
 ·rw [if_pos hx, if_pos hx]; exact nilQ wr 1
 ·rw [if_neg hx, if_neg hx]
  refine ⟨Or.inr ⟨G j, 2, rfl, h.hi j hj, by simp, by unfold maxLen; omega, fun i hi => ?_⟩, Or.inl rfl⟩
  have hb := h.blk j hj hx
  unfold Blk at hb
  refine ⟨?_, frozen_of_row _ _ _ _ _ hb⟩
  rw [cell_of_row _ _ _ _ _ _ hb]
  have : i = 0 ∨ i = 1 := by omega
  rcases this with rfl | rfl <;> rfl
theorem byt_own (x g y : Nat) (h : (bytV x g).ownBlock = some y) : y = g ∧ x ≠ 0 := by
 unfold bytV at h
 split at h
 ·cases h
 ·rename_i hx
  simp [Value.ownBlock] at h
  exact ⟨h.symm, hx⟩
theorem byt_K {x g y : Nat} (h : y ∈ KB (bytV x g :: ([] ++ [])) ([.slice none 0 0] ++ [.slice none 0 0])) : y = g := by
 rcases KB_two.1 h with h | h | h
 ·exact (byt_own _ _ _ h).1
 ·exact (nilK y h).elim
 ·exact (nilK y h).elim
theorem OfI.sep {s : ByteArray} {w wr : World} {G : Nat → Nat} {ov : Value} (h : OfI s w s.size G ov wr) (d : Nat) : SepR w.heap.size wr.heap.size wr (d + 1) ov ((List.range s.size).map fun j => bytT (byN s j)) := by
 have hl : ((List.range s.size).map fun j => bytT (byN s j)).length = s.size := by simp
 refine SepR.mk' (lo := w.heap.size) (LB := (List.range ((List.range s.size).map fun j => bytT (byN s j)).length).flatMap fun j => bytV (byN s j) (G j) :: ([] ++ [])) (RB := ov :: (List.range ((List.range s.size).map fun j => bytT (byN s j)).length).flatMap fun _ => [.slice none 0 0] ++ [.slice none 0 0]) ⟨_, _, rfl, rfl, ⟨by rw [hl]; exact h.row, Or.inl rfl⟩, fun i hi => ?_⟩ ?_ (Nat.le_refl _) ?_
 ·rw [hl] at hi
  refine ⟨bytC (byN s i) (G i), rfl, fun g l c e j hj => h.has g l c e i j hi hj, ?_⟩
  rw [List.getElem_map, List.getElem_range]
  exact byt_BT h d i hi
 ·rw [hl]
  refine Apt.of_row (fun i hi => ?_) (fun i j x hi hj hij hx hx2 => ?_) (fun i x hi hv hx => ?_)
  ·exact Apt.of_two nilA nilA (fun x hx => (nilK x hx).elim) (fun x _ => ⟨nilK x, nilK x⟩)
  ·have e1 := byt_K hx
   have e2 := byt_K hx2
   rcases Nat.lt_or_gt_of_ne hij with h3 | h3
   ·have := h.up i j h3 hj; omega
   ·have := h.up j i h3 hi; omega
  ·have e1 := byt_K hx
   rw [e1] at hv
   exact h.off i hi hv
 ·intro x hx
  rw [hl] at hx
  rcases KB_row.1 hx with hx | ⟨i, hi, hx⟩
  ·exact h.new x hx
  ·have := byt_K hx
   have := h.lo i hi
   omega
end Go.Proofs.YtalhbbabijlngaaGreatDoor
