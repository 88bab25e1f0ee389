/- TermLists, walked. -/
import Derived.Test.YtalhbbabijlngaaGreatDoorJBJ
namespace Go.Proofs.YtalhbbabijlngaaGreatDoor
open Go.RowKit
def SmR (d : Nat) (s : ByteArray) (ok : Bool) (tc to : Tm) (Cv Qv Pv Av Ev Bv Fv Ov : Array Value) : Nat → Value → World → Prop
 | 0, v, _ => v = .agg Cv
 | 1, v, _ => v = .agg Qv
 | 2, v, _ => v = .agg Pv
 | 3, v, w' => ∃ cs : List Value, v = .agg cs.toArray ∧ In w' d cs tc
 | 4, v, _ => v = .bool true
 | 5, v, _ => v = .bool true
 | 6, v, _ => v = .agg Av
 | 7, v, _ => v = .agg Ev
 | 8, v, _ => v = .bool true
 | 9, v, _ => v = .bool true
 | 10, v, _ => v = .bool true
 | 11, v, _ => v = .agg Bv
 | 12, v, _ => v = .agg Fv
 | 13, v, _ => v = .bool true
 | 14, v, _ => v = .bool true
 | 15, v, _ => v = .bool true
 | 16, v, _ => v = .bool ok
 | 17, v, _ => v = .bool ok
 | 18, v, _ => v = .bool true
 | 19, v, _ => v = .bool true
 | 20, v, _ => v = .bool true
 | 21, v, _ => v = .agg Ov
 | 22, v, _ => v = .string s
 | 23, v, w' => ∃ cs : List Value, v = .agg cs.toArray ∧ In w' d cs to
 | 24, v, _ => v = .bool true
 | 25, v, _ => v = .bool true
 | 26, v, _ => v = .bool true
 | _, _, _ => True
theorem SmR.stab {d : Nat} {s : ByteArray} {ok : Bool} {tc to : Tm} {Cv Qv Pv Av Ev Bv Fv Ov : Array Value} (j : Nat) (v : Value) (w w' : World) (h : SmR d s ok tc to Cv Qv Pv Av Ev Bv Fv Ov j v w) (hu : Upd [] w w') : SmR d s ok tc to Cv Qv Pv Av Ev Bv Fv Ov j v w' := by
 match j, h with
 | 0, h => exact h
 | 1, h => exact h
 | 2, h => exact h
 | 3, ⟨cs, e, h⟩ => exact ⟨cs, e, In.mono hu _ _ _ h⟩
 | 4, h => exact h
 | 5, h => exact h
 | 6, h => exact h
 | 7, h => exact h
 | 8, h => exact h
 | 9, h => exact h
 | 10, h => exact h
 | 11, h => exact h
 | 12, h => exact h
 | 13, h => exact h
 | 14, h => exact h
 | 15, h => exact h
 | 16, h => exact h
 | 17, h => exact h
 | 18, h => exact h
 | 19, h => exact h
 | 20, h => exact h
 | 21, h => exact h
 | 22, h => exact h
 | 23, ⟨cs, e, h⟩ => exact ⟨cs, e, In.mono hu _ _ _ h⟩
 | 24, h => exact h
 | 25, h => exact h
 | 26, h => exact h
 | _ + 27, _ => trivial
theorem sam_ret {d : Nat} {w : World} {cs cs' : List Value} {t : Tm} (h : In w d cs t) (h' : In w d cs' t) (hz : tsz t ≤ 1353245080330) : Calls Tryz.prog 18 #[.agg cs.toArray, .agg cs'.toArray] w fun e w' => ∃ u, e = .returned u ∧ Upd [] w w' ∧ u = .bool true :=
 (sam_call h h' hz).mono fun _ _ ⟨he, hu⟩ => ⟨_, he, hu, rfl⟩
set_option maxHeartbeats 16000000 in
set_option maxRecDepth 100000 in
theorem Lists_walk (W : World) (d : Nat) (t0 t1 : Tm) (s : ByteArray) (n0 n1 c0 c1 : Nat) (a0 a1 : Option Addr) (q0 q1 q3 q4 q5 q6 p0 p1 p3 p4 p5 p6 : Value) (hG : Glb W) (iA : In W (d + 1) [q0, q1, .slice a0 n0 c0, q3, q4, q5, q6] t0) (iB : In W (d + 1) [p0, p1, .slice a1 n1 c1, p3, p4, p5, p6] t1) (cB : CapC [p0, p1, .slice a1 n1 c1, p3, p4, p5, p6]) (z0 : tsz t0 ≤ 1353245080330) (z1 : tsz t1 ≤ 1353245080330) (y0 : xsz t0 ≤ 140737488355328) (y1 : xsz t1 ≤ 140737488355328) :
  Calls Tryz.prog 5 #[.agg #[q0, q1, .slice a0 n0 c0, q3, q4, q5, q6], .agg #[p0, p1, .slice a1 n1 c1, p3, p4, p5, p6], .string s] W fun e w' => e = .returned (.bool true) ∧ Upd [] W w' := by
 have GR : Hid (∀ V g, Upd [] W V → Tb V g #[q0, q1, .slice a0 n0 c0, q3, q4, q5, q6, p0, p1, .slice a1 n1 c1, p3, p4, p5, p6] → Calls Tryz.prog 6 #[.slice (some ⟨g, 0, none⟩) 2 2] V fun e w' => GreatP [t0, t1] e ∧ Upd [] V w') := fun V g hu hT => greatX (d + 1) V _ 2 [t0, t1] (row_two hT (In.mono hu _ _ _ iA) (In.mono hu _ _ _ iB)) (tszs_le _ _ (by simp) (fun i hi => by
  have : i = 0 ∨ i = 1 := by simp at hi; omega
  rcases this with rfl | rfl
  ·exact z0
  ·exact z1)) (xszs_le _ _ (fun i hi => by
  have : i = 0 ∨ i = 1 := by simp at hi; omega
  rcases this with rfl | rfl
  ·exact y0
  ·exact y1))
 have HI0 : Hid (In W (d + 1) [q0, q1, .slice a0 n0 c0, q3, q4, q5, q6] t0) := iA
 have HI1 : Hid (In W (d + 1) [p0, p1, .slice a1 n1 c1, p3, p4, p5, p6] t1) := iB
 have HCP : Hid (CapC [p0, p1, .slice a1 n1 c1, p3, p4, p5, p6]) := cB
 have HZ0 : Hid (tsz t0 ≤ 1353245080330) := z0
 have HZ1 : Hid (tsz t1 ≤ 1353245080330) := z1
 have HG : Hid (Glb W) := hG
 have TA : Hid (Tb ((W.alloc (.cells #[q0, q1, .slice a0 n0 c0, q3, q4, q5, q6] 26)).alloc (.cells #[p0, p1, .slice a1 n1 c1, p3, p4, p5, p6] 26)) W.heap.size #[q0, q1, .slice a0 n0 c0, q3, q4, q5, q6]) := (Tb.new _ _ _ rfl).old _
 have TB : Hid (Tb ((W.alloc (.cells #[q0, q1, .slice a0 n0 c0, q3, q4, q5, q6] 26)).alloc (.cells #[p0, p1, .slice a1 n1 c1, p3, p4, p5, p6] 26)) (W.heap.size + 1) #[p0, p1, .slice a1 n1 c1, p3, p4, p5, p6]) := Tb.new _ _ _ (by simp)
 have HU0 : Hid (Upd [] W ((W.alloc (.cells #[q0, q1, .slice a0 n0 c0, q3, q4, q5, q6] 26)).alloc (.cells #[p0, p1, .slice a1 n1 c1, p3, p4, p5, p6] 26))) := ((Upd.refl [] W).alloc _).alloc _
 clear iA iB cB z0 z1 y0 y1 hG
 have A1 := TA.out
 have B1 := TB.out
 go_enter Tryz.func5, Tryz.ntmps5
 go_wp2_with (first | (refine load_G _ _ rfl _ _ rfl A1 rfl rfl ?_) | (refine load_G _ _ rfl _ _ rfl B1 rfl rfl ?_) | fail)
 refine Calls.mono (GR.out _ _ (HU0.out.alloc _) (Tb.new _ _ _ (by simp))) ?_
 rintro e w2 ⟨⟨gb, rfl, hcnt⟩, h2⟩
 have hv : Upd [] ((W.alloc (.cells #[q0, q1, .slice a0 n0 c0, q3, q4, q5, q6] 26)).alloc (.cells #[p0, p1, .slice a1 n1 c1, p3, p4, p5, p6] 26)) w2 := Upd.trans ((Upd.refl [] _).alloc _) h2
 have ta2 := A1.mono hv (by simp)
 have tb2 := B1.mono hv (by simp)
 have U2 : Hid (Upd [] W w2) := HU0.out.trans hv
 have HCT : Hid (gb = false → ∀ i (hi : i < [t0, t1].length), cntT [t0, t1][i] ≤ 6000) := hcnt
 have HL2 : Hid (W.heap.size + 1 < w2.heap.size) := tb2.lt
 clear hv h2 hcnt A1 B1 TA TB HU0 GR
 cases gb with
 | true =>
  go_wp2_with fail
  refine Calls.mono (awake_any _ (HG.out.mono U2.out)) ?_
  rintro e w3 ⟨rfl, h3⟩
  go_wp2
  go_ret
  exact ⟨rfl, U2.out.trans h3⟩
 | false =>
  have HC0 : Hid (cntT t0 ≤ 6000) := HCT.out rfl 0 (by simp)
  have HC1 : Hid (cntT t1 ≤ 6000) := HCT.out rfl 1 (by simp)
  clear HCT
  by_cases hs : s.size ≤ 10000
  rotate_left
  ·have hs' : (10000 : Int) < (s.size : Int) := by omega
   go_wp2_with fail
   refine Calls.mono (awake_any _ (HG.out.mono U2.out)) ?_
   rintro e w3 ⟨rfl, h3⟩
   go_wp2
   go_ret
   exact ⟨rfl, U2.out.trans h3⟩
  have hs' : ¬ (10000 : Int) < (s.size : Int) := by omega
  go_wp2_with fail
  refine two_regionS (by kernel_rfl) (by decide) rfl W.heap.size (W.heap.size + 1) #[q0, q1, .slice a0 n0 c0, q3, q4, q5, q6] #[p0, p1, .slice a1 n1 c1, p3, p4, p5, p6] rfl rfl ta2 tb2 rfl rfl Tryz.call8 Tryz.call8 (LentS w2.heap.size (d + 1) t0) (LentS w2.heap.size (d + 1) t1) LentS.stay LentS.stay (LentS.call (In.mono U2.out _ _ _ HI0.out) HZ0.out) (LentS.call (In.mono U2.out _ _ _ HI1.out) HZ1.out) ?_
  rintro gx gy X Y PX PY w4 hgh hg hh hX7 hY7 tx4 ty4 ⟨csx, Lx, Rx, rfl, kx, bx, ax, rx⟩ ⟨csy, Ly, Ry, rfl, ky, by', ay, ry⟩ hu24 hdis
  simp only [Act.put, List.setIfInBounds_toArray, List.set_cons_succ, List.set_cons_zero]
  obtain ⟨x0, x1, x2, x3, x4, x5, x6, rfl⟩ := list7 (cs := csx) (by simpa using hX7)
  obtain ⟨y0, y1, y2, y3, y4, y5, y6, rfl⟩ := list7 (cs := csy) (by simpa using hY7)
  have HX4 : Hid (KIn PX w4 (d + 1) [x0, x1, x2, x3, x4, x5, x6] t0 ∧ BT 12 w4 (d + 1) [x0, x1, x2, x3, x4, x5, x6] t0 Lx Rx) := ⟨kx, bx⟩
  have HY4 : Hid (KIn PY w4 (d + 1) [y0, y1, y2, y3, y4, y5, y6] t1 ∧ BT 12 w4 (d + 1) [y0, y1, y2, y3, y4, y5, y6] t1 Ly Ry) := ⟨ky, by'⟩
  have HAX : Hid (Apt Lx Rx ∧ Apt Ly Ry ∧ (∀ z, z ∈ KB Lx Rx → w2.heap.size ≤ z ∧ z < w4.heap.size) ∧ (∀ z, z ∈ KB Ly Ry → w2.heap.size ≤ z ∧ z < w4.heap.size) ∧ (∀ z, z ∈ KB Lx Rx → z ∉ KB Ly Ry) ∧ gy ∉ KB Lx Rx ∧ gx ∉ KB Ly Ry) := ⟨ax, ay, fun z hz => ⟨(rx z hz).2, BT.lt _ _ _ _ _ bx z hz⟩, fun z hz => ⟨(ry z hz).2, BT.lt _ _ _ _ _ by' z hz⟩, fun z hz hz2 => hdis z (rx z hz).1 (ry z hz2).1, bx.box ty4 rfl, by'.box tx4 rfl⟩
  have HGX : Hid (gx < w4.heap.size ∧ gy < w4.heap.size ∧ w2.heap.size ≤ gx ∧ w2.heap.size ≤ gy) := ⟨tx4.lt, ty4.lt, hg, hh⟩
  have ta4 := ta2.mono hu24 (by simp)
  have tb4 := tb2.mono hu24 (by simp)
  have U4 : Hid (Upd [] W w4) := U2.out.trans hu24
  have HL4 : Hid (w2.heap.size ≤ w4.heap.size) := hu24.size
  have inx4 := KIn.plain _ _ _ kx
  have iny4 := KIn.plain _ _ _ ky
  have HCY : Hid (CapC [y0, y1, y2, y3, y4, y5, y6]) := ky.cap
  clear hu24 ta2 tb2 kx bx ax rx ky by' ay ry hdis hgh hg hh hX7 hY7 hs'
  go_wp2_with fail
  refine pair_region (by kernel_rfl) rfl gx gy #[x0, x1, x2, x3, x4, x5, x6] #[y0, y1, y2, y3, y4, y5, y6] rfl rfl tx4 ty4 rfl rfl (CopR w4.heap.size (d + 2) (consS t0 t1)) CopR.stay (consS_call inx4 iny4 HZ0.out HZ1.out) ?_
  rintro vv0 vu0 vv2 vu2 vx8 vx9 gc gd XC XD PC PD w5 hgcd hgc hgd hC7 hD7 tc5 td5 ⟨csc, Lc, Rc, rfl, ic, bc, ac, rc⟩ ⟨csd, Ld, Rd, rfl, id', bd, ad, rd⟩ hu45 hdis
  obtain ⟨c0', c1', c2', c3', c4', c5', c6', rfl⟩ := list7 (cs := csc) (by simpa using hC7)
  obtain ⟨d0, d1, d2, d3, d4, d5, d6, rfl⟩ := list7 (cs := csd) (by simpa using hD7)
  have OC5 : Hid (OwT w4.heap.size w5.heap.size w5 (d + 2) [c0', c1', c2', c3', c4', c5', c6'] (consS t0 t1) Lc Rc) := ⟨ic, bc, ac, fun z hz => ⟨(rc z hz).2, BT.lt _ _ _ _ _ bc z hz⟩⟩
  have OD5 : Hid (OwT w4.heap.size w5.heap.size w5 (d + 2) [d0, d1, d2, d3, d4, d5, d6] (consS t0 t1) Ld Rd) := ⟨id', bd, ad, fun z hz => ⟨(rd z hz).2, BT.lt _ _ _ _ _ bd z hz⟩⟩
  have HCD : Hid (∀ z, z ∈ KB Lc Rc → z ∉ KB Ld Rd) := fun z hz hz2 => hdis z (rc z hz).1 (rd z hz2).1
  have HGC : Hid (w4.heap.size ≤ gc ∧ w4.heap.size ≤ gd ∧ gc < w5.heap.size ∧ gd < w5.heap.size) := ⟨hgc, hgd, tc5.lt, td5.lt⟩
  have HX5 : Hid (KIn PX w5 (d + 1) [x0, x1, x2, x3, x4, x5, x6] t0 ∧ BT 12 w5 (d + 1) [x0, x1, x2, x3, x4, x5, x6] t0 Lx Rx) := ⟨KIn.keep hu45 (by simp) (fun _ h => h) _ _ _ HX4.out.1, BT.upd hu45 _ _ _ _ _ (by simp) HX4.out.2⟩
  have HY5 : Hid (KIn PY w5 (d + 1) [y0, y1, y2, y3, y4, y5, y6] t1 ∧ BT 12 w5 (d + 1) [y0, y1, y2, y3, y4, y5, y6] t1 Ly Ry) := ⟨KIn.keep hu45 (by simp) (fun _ h => h) _ _ _ HY4.out.1, BT.upd hu45 _ _ _ _ _ (by simp) HY4.out.2⟩
  have ta5 := ta4.mono hu45 (by simp)
  have tb5 := tb4.mono hu45 (by simp)
  have tx5 := tx4.mono hu45 (by simp)
  have ty5 := ty4.mono hu45 (by simp)
  have U5 : Hid (Upd [] W w5) := U4.out.trans hu45
  have HL5 : Hid (w4.heap.size ≤ w5.heap.size) := hu45.size
  have iny5 := KIn.plain _ _ _ HY5.out.1
  clear hu45 ta4 tb4 tx4 ty4 ic bc ac rc id' bd ad rd hdis hgcd hgc hgd hC7 hD7 inx4 iny4 HX4 HY4
  simp only [putAll, Act.put, List.setIfInBounds_toArray, List.set_cons_succ, List.set_cons_zero]
  go_wp2_with (first | (refine load_T _ rfl _ rfl _ _ rfl ty5 rfl ?_) | fail)
  refine Calls.mono (Split_sep d w5 [y0, y1, y2, y3, y4, y5, y6] t1 (In.more _ _ _ iny5) HCY.out HZ1.out) ?_
  rintro e w6 ⟨csa, csb, ha7, hb7, rfl, ina, inb, hu56, mid, hi, hle, sa, sb⟩
  obtain ⟨va0, va1, va2, va3, va4, va5, va6, rfl⟩ := list7 ha7
  obtain ⟨vb0, vb1, vb2, vb3, vb4, vb5, vb6, rfl⟩ := list7 hb7
  have honea : (#[va0, va1, va2, va3, va4, va5, va6] : Array Value).all (·.oneCell') = true := ina.one
  have honeb : (#[vb0, vb1, vb2, vb3, vb4, vb5, vb6] : Array Value).all (·.oneCell') = true := inb.one
  obtain ⟨La, Ra, oa⟩ := OwT.of sa ina
  obtain ⟨Lb, Rb, ob⟩ := OwT.of sb inb
  obtain ⟨tma, htma⟩ : ∃ t, t = pickT (splits t1 && okS t1) (headT t1) := ⟨_, rfl⟩
  obtain ⟨tmb, htmb⟩ : ∃ t, t = pickT (splits t1 && okS t1) (restT t1) := ⟨_, rfl⟩
  obtain ⟨okb, hokb⟩ : ∃ b, b = (splits t1 && okS t1) := ⟨_, rfl⟩
  rw [← htma] at oa
  rw [← htmb] at ob
  rw [← hokb]
  have HTMA : Hid (tma = pickT (splits t1 && okS t1) (headT t1) ∧ tmb = pickT (splits t1 && okS t1) (restT t1) ∧ okb = (splits t1 && okS t1)) := ⟨htma, htmb, hokb⟩
  have hs56 := hu56.size
  have OA6 : Hid (OwT w5.heap.size mid w6 (d + 2) [va0, va1, va2, va3, va4, va5, va6] tma La Ra) := oa
  have OB6 : Hid (OwT mid w6.heap.size w6 (d + 2) [vb0, vb1, vb2, vb3, vb4, vb5, vb6] tmb Lb Rb) := ob.tight
  have HMID : Hid (w5.heap.size ≤ mid) := hle
  have HAL : Hid (∀ z, z ∈ KB La Ra → z < w6.heap.size) := fun z hz => BT.lt _ _ _ _ _ oa.bt z hz
  clear oa ob sa sb ina inb htma htmb hokb ha7 hb7 hle
  have tza : Tb ((w6.alloc (.cells #[.int .u8 0, .bool false, .slice none 0 0, .string ⟨#[]⟩, .int .i64 0, .slice none 0 0, .slice none 0 0] 26)).alloc (.cells #[.int .u8 0, .bool false, .slice none 0 0, .string ⟨#[]⟩, .int .i64 0, .slice none 0 0, .slice none 0 0] 26)) w6.heap.size #[.int .u8 0, .bool false, .slice none 0 0, .string ⟨#[]⟩, .int .i64 0, .slice none 0 0, .slice none 0 0] := (Tb.new _ _ _ rfl).old _
  have tzb : Tb ((w6.alloc (.cells #[.int .u8 0, .bool false, .slice none 0 0, .string ⟨#[]⟩, .int .i64 0, .slice none 0 0, .slice none 0 0] 26)).alloc (.cells #[.int .u8 0, .bool false, .slice none 0 0, .string ⟨#[]⟩, .int .i64 0, .slice none 0 0, .slice none 0 0] 26)) (w6.heap.size + 1) #[.int .u8 0, .bool false, .slice none 0 0, .string ⟨#[]⟩, .int .i64 0, .slice none 0 0, .slice none 0 0] := Tb.new _ _ _ (by simp)
  have uz : Upd [] w6 ((w6.alloc (.cells #[.int .u8 0, .bool false, .slice none 0 0, .string ⟨#[]⟩, .int .i64 0, .slice none 0 0, .slice none 0 0] 26)).alloc (.cells #[.int .u8 0, .bool false, .slice none 0 0, .string ⟨#[]⟩, .int .i64 0, .slice none 0 0, .slice none 0 0] 26)) := ((Upd.refl [] w6).alloc _).alloc _
  go_wp2_with (first | (refine store_T _ rfl _ _ rfl w6.heap.size #[va0, va1, va2, va3, va4, va5, va6] _ rfl rfl tza rfl rfl honea ?_; intro w7 ha7 hu7; have tzb7 := tzb.mono hu7 (by simp)) | (refine store_T _ rfl _ _ rfl (w6.heap.size + 1) #[vb0, vb1, vb2, vb3, vb4, vb5, vb6] _ rfl rfl tzb7 rfl rfl honeb ?_; intro w8 hb8 hu8) | fail)
  have t_a8 := ha7.mono hu8 (by simp)
  have t_b8 := hb8
  have u68 : Upd [] w6 w8 := (uz.then hu7 (by simp)).then hu8 (by simp)
  have u58 : Upd [] w5 w8 := hu56.trans u68
  have OA8 : Hid (OwT w5.heap.size mid w8 (d + 2) [va0, va1, va2, va3, va4, va5, va6] tma La Ra) := OA6.out.upd u68 (by simp)
  have OB8 : Hid (OwT mid w6.heap.size w8 (d + 2) [vb0, vb1, vb2, vb3, vb4, vb5, vb6] tmb Lb Rb) := OB6.out.upd u68 (by simp)
  have OC8 : Hid (OwT w4.heap.size w5.heap.size w8 (d + 2) [c0', c1', c2', c3', c4', c5', c6'] (consS t0 t1) Lc Rc) := OC5.out.upd u58 (by simp)
  have OD8 : Hid (OwT w4.heap.size w5.heap.size w8 (d + 2) [d0, d1, d2, d3, d4, d5, d6] (consS t0 t1) Ld Rd) := OD5.out.upd u58 (by simp)
  have HL8 : Hid (w5.heap.size ≤ w6.heap.size ∧ w6.heap.size + 1 < w8.heap.size) := ⟨hs56, hb8.lt⟩
  have U8 : Hid (Upd [] W w8) := U5.out.trans u58
  have ta8 := ta5.mono u58 (by simp)
  have tb8 := tb5.mono u58 (by simp)
  have tx8 := tx5.mono u58 (by simp)
  have ty8 := ty5.mono u58 (by simp)
  have tc8 := tc5.mono u58 (by simp)
  have td8 := td5.mono u58 (by simp)
  have HX8 : Hid (KIn PX w8 (d + 1) [x0, x1, x2, x3, x4, x5, x6] t0 ∧ BT 12 w8 (d + 1) [x0, x1, x2, x3, x4, x5, x6] t0 Lx Rx) := ⟨KIn.keep u58 (by simp) (fun _ h => h) _ _ _ HX5.out.1, BT.upd u58 _ _ _ _ _ (by simp) HX5.out.2⟩
  have HY8 : Hid (KIn PY w8 (d + 1) [y0, y1, y2, y3, y4, y5, y6] t1 ∧ BT 12 w8 (d + 1) [y0, y1, y2, y3, y4, y5, y6] t1 Ly Ry) := ⟨KIn.keep u58 (by simp) (fun _ h => h) _ _ _ HY5.out.1, BT.upd u58 _ _ _ _ _ (by simp) HY5.out.2⟩
  clear tza tzb uz tzb7 ha7 hb8 hu7 hu8 u68 u58 hu56 hs56 OA6 OB6 OC5 OD5 HX5 HY5 iny5 honea honeb
  clear ta5 tb5 tx5 ty5 tc5 td5
  have hof := TOf_sep s w8 d hs
  rw [ofT_pick] at hof
  refine Calls.mono hof ?_
  clear hof
  rintro e w9 ⟨cso, h7o, rfl, ino, _, hu9, spo⟩
  obtain ⟨vo0, vo1, vo2, vo3, vo4, vo5, vo6, rfl⟩ := list7 h7o
  have honeo : (#[vo0, vo1, vo2, vo3, vo4, vo5, vo6] : Array Value).all (·.oneCell') = true := ino.one
  obtain ⟨Lo, Ro, oo⟩ := OwT.of (SepTB.of spo (Nat.le_refl _)) ino
  have OO9 : Hid (OwT w8.heap.size w9.heap.size w9 (d + 2) [vo0, vo1, vo2, vo3, vo4, vo5, vo6] (pickT (okS (ofT s)) (ofT s)) Lo Ro) := oo
  have HU9 : Hid (Upd [] w8 w9) := hu9
  clear oo spo ino h7o hu9
  go_wp2_with fail
  have hof := TOf_sep s w9 d hs
  rw [ofT_pick] at hof
  refine Calls.mono hof ?_
  clear hof
  rintro e w10 ⟨csp, h7p, rfl, inp, _, hu10, spp⟩
  obtain ⟨vp0, vp1, vp2, vp3, vp4, vp5, vp6, rfl⟩ := list7 h7p
  have honep : (#[vp0, vp1, vp2, vp3, vp4, vp5, vp6] : Array Value).all (·.oneCell') = true := inp.one
  obtain ⟨Lp, Rp, op⟩ := OwT.of (SepTB.of spp (Nat.le_refl _)) inp
  have OP10 : Hid (OwT w9.heap.size w10.heap.size w10 (d + 2) [vp0, vp1, vp2, vp3, vp4, vp5, vp6] (pickT (okS (ofT s)) (ofT s)) Lp Rp) := op
  have HU10 : Hid (Upd [] w9 w10) := hu10
  have hs810 := (HU9.out.trans hu10).size
  clear op spp inp h7p hu10
  have tzo : Tb ((w10.alloc (.cells #[.int .u8 0, .bool false, .slice none 0 0, .string ⟨#[]⟩, .int .i64 0, .slice none 0 0, .slice none 0 0] 26)).alloc (.cells #[.int .u8 0, .bool false, .slice none 0 0, .string ⟨#[]⟩, .int .i64 0, .slice none 0 0, .slice none 0 0] 26)) w10.heap.size #[.int .u8 0, .bool false, .slice none 0 0, .string ⟨#[]⟩, .int .i64 0, .slice none 0 0, .slice none 0 0] := (Tb.new _ _ _ rfl).old _
  have tzp : Tb ((w10.alloc (.cells #[.int .u8 0, .bool false, .slice none 0 0, .string ⟨#[]⟩, .int .i64 0, .slice none 0 0, .slice none 0 0] 26)).alloc (.cells #[.int .u8 0, .bool false, .slice none 0 0, .string ⟨#[]⟩, .int .i64 0, .slice none 0 0, .slice none 0 0] 26)) (w10.heap.size + 1) #[.int .u8 0, .bool false, .slice none 0 0, .string ⟨#[]⟩, .int .i64 0, .slice none 0 0, .slice none 0 0] := Tb.new _ _ _ (by simp)
  have uz : Hid (Upd [] w10 ((w10.alloc (.cells #[.int .u8 0, .bool false, .slice none 0 0, .string ⟨#[]⟩, .int .i64 0, .slice none 0 0, .slice none 0 0] 26)).alloc (.cells #[.int .u8 0, .bool false, .slice none 0 0, .string ⟨#[]⟩, .int .i64 0, .slice none 0 0, .slice none 0 0] 26))) := ((Upd.refl [] w10).alloc _).alloc _
  go_wp2_with (first | (refine store_T _ rfl _ _ rfl w10.heap.size #[vo0, vo1, vo2, vo3, vo4, vo5, vo6] _ rfl rfl tzo rfl rfl honeo ?_; intro w11 ho11 hu11; have tzp11 := tzp.mono hu11 (by simp)) | (refine store_T _ rfl _ _ rfl (w10.heap.size + 1) #[vp0, vp1, vp2, vp3, vp4, vp5, vp6] _ rfl rfl tzp11 rfl rfl honep ?_; intro w12 hp12 hu12; have u1012 : Upd [] w10 w12 := (uz.out.then hu11 (by simp)).then hu12 (by simp); have u812 : Upd [] w8 w12 := (HU9.out.trans HU10.out).trans u1012; have ta12 := ta8.mono u812 (by simp); have tx12 := tx8.mono u812 (by simp); have tb12 := tb8.mono u812 (by simp); have ty12 := ty8.mono u812 (by simp)) | (refine load_G _ _ rfl _ _ rfl tx12 rfl rfl ?_) | (refine load_G _ _ rfl _ _ rfl ta12 rfl rfl ?_) | fail)
  have t_o12 := ho11.mono hu12 (by simp)
  have t_p12 := hp12
  have OO12 : Hid (OwT w8.heap.size w9.heap.size w12 (d + 2) [vo0, vo1, vo2, vo3, vo4, vo5, vo6] (pickT (okS (ofT s)) (ofT s)) Lo Ro) := (OO9.out.upd HU10.out (by simp)).upd u1012 (by simp)
  have OP12 : Hid (OwT w9.heap.size w10.heap.size w12 (d + 2) [vp0, vp1, vp2, vp3, vp4, vp5, vp6] (pickT (okS (ofT s)) (ofT s)) Lp Rp) := OP10.out.upd u1012 (by simp)
  have HL12 : Hid (w8.heap.size ≤ w9.heap.size ∧ w9.heap.size ≤ w10.heap.size ∧ w10.heap.size + 1 < w12.heap.size) := ⟨HU9.out.size, HU10.out.size, hp12.lt⟩
  have U12 : Hid (Upd [] W w12) := U8.out.trans u812
  have tc12 := tc8.mono u812 (by simp)
  have td12 := td8.mono u812 (by simp)
  have t_a12 := t_a8.mono u812 (by simp)
  have t_b12 := t_b8.mono u812 (by simp)
  have HX12 : Hid (KIn PX w12 (d + 1) [x0, x1, x2, x3, x4, x5, x6] t0 ∧ BT 12 w12 (d + 1) [x0, x1, x2, x3, x4, x5, x6] t0 Lx Rx) := ⟨KIn.keep u812 (by simp) (fun _ h => h) _ _ _ HX8.out.1, BT.upd u812 _ _ _ _ _ (by simp) HX8.out.2⟩
  have HY12 : Hid (KIn PY w12 (d + 1) [y0, y1, y2, y3, y4, y5, y6] t1 ∧ BT 12 w12 (d + 1) [y0, y1, y2, y3, y4, y5, y6] t1 Ly Ry) := ⟨KIn.keep u812 (by simp) (fun _ h => h) _ _ _ HY8.out.1, BT.upd u812 _ _ _ _ _ (by simp) HY8.out.2⟩
  have OA12 : Hid (OwT w5.heap.size mid w12 (d + 2) [va0, va1, va2, va3, va4, va5, va6] tma La Ra) := OA8.out.upd u812 (by simp)
  have OB12 : Hid (OwT mid w6.heap.size w12 (d + 2) [vb0, vb1, vb2, vb3, vb4, vb5, vb6] tmb Lb Rb) := OB8.out.upd u812 (by simp)
  have OC12 : Hid (OwT w4.heap.size w5.heap.size w12 (d + 2) [c0', c1', c2', c3', c4', c5', c6'] (consS t0 t1) Lc Rc) := OC8.out.upd u812 (by simp)
  have OD12 : Hid (OwT w4.heap.size w5.heap.size w12 (d + 2) [d0, d1, d2, d3, d4, d5, d6] (consS t0 t1) Ld Rd) := OD8.out.upd u812 (by simp)
  clear tzo tzp uz tzp11 ho11 hp12 hu11 hu12 u1012 u812 HU9 HU10 hs810 OO9 OP10 OA8 OB8 OC8 OD8 HX8 HY8 honeo honep
  clear ta8 tb8 tx8 ty8 tc8 td8 t_a8 t_b8
  refine Calls.mono (KeptTerm_in (d + 1) w12 [x0, x1, x2, x3, x4, x5, x6] [q0, q1, .slice a0 n0 c0, q3, q4, q5, q6] t0 PX HX12.out.1 (In.mono U12.out _ _ _ HI0.out) HZ0.out) ?_
  rintro e w13 ⟨rfl, hu13⟩
  have HU13 : Hid (Upd [] w12 w13) := hu13
  have tb13 := tb12.mono hu13 (by simp)
  have ty13 := ty12.mono hu13 (by simp)
  clear hu13
  go_wp2_with (first | (refine load_G _ _ rfl _ _ rfl ty13 rfl rfl ?_) | (refine load_G _ _ rfl _ _ rfl tb13 rfl rfl ?_) | fail)
  refine Calls.mono (KeptTerm_in (d + 1) w13 [y0, y1, y2, y3, y4, y5, y6] [p0, p1, .slice a1 n1 c1, p3, p4, p5, p6] t1 PY (KIn.keep HU13.out (by simp) (fun _ h => h) _ _ _ HY12.out.1) (In.mono (U12.out.trans HU13.out) _ _ _ HI1.out) HZ1.out) ?_
  rintro e w14 ⟨rfl, hu14⟩
  have u14 : Upd [] w12 w14 := HU13.out.trans hu14
  have tx14 := tx12.mono u14 (by simp)
  have HU14 : Hid (Upd [] w12 w14) := u14
  clear hu14 u14 tb13 ty13
  go_wp2_with (first | (refine load_T _ rfl _ rfl _ _ rfl tx14 rfl ?_) | fail)
  refine Calls.mono (OverTerm_in (d + 1) w14 [x0, x1, x2, x3, x4, x5, x6] t0 Lx Rx (BT.upd HU14.out _ _ _ _ _ (by simp) HX12.out.2) HAX.out.1) ?_
  rintro e w15 ⟨rfl, hu15⟩
  have HU15 : Hid (Upd (KB Lx Rx) w14 w15) := hu15
  have ty15 := (ty12.mono HU14.out (by simp)).mono hu15 HAX.out.2.2.2.2.2.1
  clear hu15
  go_wp2_with (first | (refine load_T _ rfl _ rfl _ _ rfl ty15 rfl ?_) | fail)
  refine Calls.mono (OverTerm_in (d + 1) w15 [y0, y1, y2, y3, y4, y5, y6] t1 Ly Ry (BT.upd HU15.out _ _ _ _ _ (fun z hz hm => HAX.out.2.2.2.2.1 z hm hz) (BT.upd HU14.out _ _ _ _ _ (by simp) HY12.out.2)) HAX.out.2.1) ?_
  rintro e w16 ⟨rfl, hu16⟩
  have u16 : Upd (KB Lx Rx ++ KB Ly Ry) w12 w16 := ((HU14.out.wide (by simp)).trans (HU15.out.wide (by simp; intro x hx; exact Or.inl hx))).trans (hu16.wide (by simp; intro x hx; exact Or.inr hx))
  have hlow : ∀ z, z ∈ KB Lx Rx ++ KB Ly Ry → w2.heap.size ≤ z ∧ z < w4.heap.size := fun z hz => by
   rcases List.mem_append.1 hz with h | h
   ·exact HAX.out.2.2.1 z h
   ·exact HAX.out.2.2.2.1 z h
  have U16 : Hid (Upd [] W w16) := U12.out.then u16 (fun z hz => Or.inl (by have := hlow z hz; have := HL2.out; omega))
  have HGM : ∀ g, (g < w2.heap.size ∨ w4.heap.size ≤ g) → g ∉ KB Lx Rx ++ KB Ly Ry := fun g hg hm => by have := hlow g hm; omega
  have l2 := HL2.out
  have lc := HGC.out
  have l5 := HL5.out
  have l8 := HL8.out
  have l12 := HL12.out
  have ta16 := ta12.mono u16 (HGM _ (Or.inl (by omega)))
  have tb16 := tb12.mono u16 (HGM _ (Or.inl (by omega)))
  have tc16 := tc12.mono u16 (HGM _ (Or.inr (by omega)))
  have td16 := td12.mono u16 (HGM _ (Or.inr (by omega)))
  have t_a16 := t_a12.mono u16 (HGM _ (Or.inr (by omega)))
  have t_b16 := t_b12.mono u16 (HGM _ (Or.inr (by omega)))
  have t_o16 := t_o12.mono u16 (HGM _ (Or.inr (by omega)))
  have t_p16 := t_p12.mono u16 (HGM _ (Or.inr (by omega)))
  have hml := HMID.out
  have OA16 : Hid (OwT w5.heap.size mid w16 (d + 2) [va0, va1, va2, va3, va4, va5, va6] tma La Ra) := OA12.out.upd u16 (fun z hz => Or.inl (by have := hlow z hz; omega))
  have OB16 : Hid (OwT mid w6.heap.size w16 (d + 2) [vb0, vb1, vb2, vb3, vb4, vb5, vb6] tmb Lb Rb) := OB12.out.upd u16 (fun z hz => Or.inl (by have := hlow z hz; omega))
  have OC16 : Hid (OwT w4.heap.size w5.heap.size w16 (d + 2) [c0', c1', c2', c3', c4', c5', c6'] (consS t0 t1) Lc Rc) := OC12.out.upd u16 (fun z hz => Or.inl (by have := hlow z hz; omega))
  have OD16 : Hid (OwT w4.heap.size w5.heap.size w16 (d + 2) [d0, d1, d2, d3, d4, d5, d6] (consS t0 t1) Ld Rd) := OD12.out.upd u16 (fun z hz => Or.inl (by have := hlow z hz; omega))
  have OO16 : Hid (OwT w8.heap.size w9.heap.size w16 (d + 2) [vo0, vo1, vo2, vo3, vo4, vo5, vo6] (pickT (okS (ofT s)) (ofT s)) Lo Ro) := OO12.out.upd u16 (fun z hz => Or.inl (by have := hlow z hz; omega))
  have OP16 : Hid (OwT w9.heap.size w10.heap.size w16 (d + 2) [vp0, vp1, vp2, vp3, vp4, vp5, vp6] (pickT (okS (ofT s)) (ofT s)) Lp Rp) := OP12.out.upd u16 (fun z hz => Or.inl (by have := hlow z hz; omega))
  have HL16 : Hid (w12.heap.size ≤ w16.heap.size) := u16.size
  clear hu16 u16 hlow HGM HU13 HU14 HU15 ty15 tx14 HX12 HY12 OA12 OB12 OC12 OD12 OO12 OP12 hml l2 lc l5 l8 l12
  clear ta12 tb12 tx12 ty12 tc12 td12 t_a12 t_b12 t_o12 t_p12
  go_wp2_with (first | (refine load_T _ rfl _ rfl _ _ rfl tb16 rfl ?_) | fail)
  refine Calls.mono (RSplit_in d w16 [p0, p1, .slice a1 n1 c1, p3, p4, p5, p6] t1 (In.mono U16.out _ _ _ HI1.out) HCP.out HZ1.out HC1.out) ?_
  rintro e w17 ⟨cse, csf, he7, hf7, rfl, ine, inf, hu17⟩
  obtain ⟨ve0, ve1, ve2, ve3, ve4, ve5, ve6, rfl⟩ := list7 he7
  obtain ⟨vf0, vf1, vf2, vf3, vf4, vf5, vf6, rfl⟩ := list7 hf7
  have honee : (#[ve0, ve1, ve2, ve3, ve4, ve5, ve6] : Array Value).all (·.oneCell') = true := ine.one
  have honef : (#[vf0, vf1, vf2, vf3, vf4, vf5, vf6] : Array Value).all (·.oneCell') = true := inf.one
  rw [← HTMA.out.2.2] at ine inf ⊢
  have HE17 : Hid (In w17 (d + 2) [ve0, ve1, ve2, ve3, ve4, ve5, ve6] tma ∧ In w17 (d + 2) [vf0, vf1, vf2, vf3, vf4, vf5, vf6] tmb) := by
   refine ⟨In.more _ _ _ ?_, In.more _ _ _ ?_⟩
   ·rw [HTMA.out.1, ← HTMA.out.2.2]; exact ine
   ·rw [HTMA.out.2.1, ← HTMA.out.2.2]; exact inf
  have HU17 : Hid (Upd [] w16 w17) := hu17
  clear ine inf he7 hf7 hu17
  have tze : Tb ((w17.alloc (.cells #[.int .u8 0, .bool false, .slice none 0 0, .string ⟨#[]⟩, .int .i64 0, .slice none 0 0, .slice none 0 0] 26)).alloc (.cells #[.int .u8 0, .bool false, .slice none 0 0, .string ⟨#[]⟩, .int .i64 0, .slice none 0 0, .slice none 0 0] 26)) w17.heap.size #[.int .u8 0, .bool false, .slice none 0 0, .string ⟨#[]⟩, .int .i64 0, .slice none 0 0, .slice none 0 0] := (Tb.new _ _ _ rfl).old _
  have tzf : Tb ((w17.alloc (.cells #[.int .u8 0, .bool false, .slice none 0 0, .string ⟨#[]⟩, .int .i64 0, .slice none 0 0, .slice none 0 0] 26)).alloc (.cells #[.int .u8 0, .bool false, .slice none 0 0, .string ⟨#[]⟩, .int .i64 0, .slice none 0 0, .slice none 0 0] 26)) (w17.heap.size + 1) #[.int .u8 0, .bool false, .slice none 0 0, .string ⟨#[]⟩, .int .i64 0, .slice none 0 0, .slice none 0 0] := Tb.new _ _ _ (by simp)
  have uz : Hid (Upd [] w17 ((w17.alloc (.cells #[.int .u8 0, .bool false, .slice none 0 0, .string ⟨#[]⟩, .int .i64 0, .slice none 0 0, .slice none 0 0] 26)).alloc (.cells #[.int .u8 0, .bool false, .slice none 0 0, .string ⟨#[]⟩, .int .i64 0, .slice none 0 0, .slice none 0 0] 26))) := ((Upd.refl [] w17).alloc _).alloc _
  go_wp2_with (first | (refine store_T _ rfl _ _ rfl w17.heap.size #[ve0, ve1, ve2, ve3, ve4, ve5, ve6] _ rfl rfl tze rfl rfl honee ?_; intro w18 he18 hu18; have tzf18 := tzf.mono hu18 (by simp)) | (refine store_T _ rfl _ _ rfl (w17.heap.size + 1) #[vf0, vf1, vf2, vf3, vf4, vf5, vf6] _ rfl rfl tzf18 rfl rfl honef ?_; intro w19 hf19 hu19) | fail)
  have t_e19 := he18.mono hu19 (by simp)
  have t_f19 := hf19
  have u1719 : Upd [] w17 w19 := (uz.out.then hu18 (by simp)).then hu19 (by simp)
  have u19 : Upd [] w16 w19 := HU17.out.trans u1719
  have HE19 : Hid (In w19 (d + 2) [ve0, ve1, ve2, ve3, ve4, ve5, ve6] tma ∧ In w19 (d + 2) [vf0, vf1, vf2, vf3, vf4, vf5, vf6] tmb) := ⟨In.mono u1719 _ _ _ HE17.out.1, In.mono u1719 _ _ _ HE17.out.2⟩
  have HL19 : Hid (w16.heap.size ≤ w19.heap.size) := u19.size
  have U19 : Hid (Upd [] W w19) := U16.out.trans u19
  have ta19 := ta16.mono u19 (by simp)
  have tb19 := tb16.mono u19 (by simp)
  have tc19 := tc16.mono u19 (by simp)
  have td19 := td16.mono u19 (by simp)
  have t_a19 := t_a16.mono u19 (by simp)
  have t_b19 := t_b16.mono u19 (by simp)
  have t_o19 := t_o16.mono u19 (by simp)
  have t_p19 := t_p16.mono u19 (by simp)
  have OA19 : Hid (OwT w5.heap.size mid w19 (d + 2) [va0, va1, va2, va3, va4, va5, va6] tma La Ra) := OA16.out.upd u19 (by simp)
  have OB19 : Hid (OwT mid w6.heap.size w19 (d + 2) [vb0, vb1, vb2, vb3, vb4, vb5, vb6] tmb Lb Rb) := OB16.out.upd u19 (by simp)
  have OC19 : Hid (OwT w4.heap.size w5.heap.size w19 (d + 2) [c0', c1', c2', c3', c4', c5', c6'] (consS t0 t1) Lc Rc) := OC16.out.upd u19 (by simp)
  have OD19 : Hid (OwT w4.heap.size w5.heap.size w19 (d + 2) [d0, d1, d2, d3, d4, d5, d6] (consS t0 t1) Ld Rd) := OD16.out.upd u19 (by simp)
  have OO19 : Hid (OwT w8.heap.size w9.heap.size w19 (d + 2) [vo0, vo1, vo2, vo3, vo4, vo5, vo6] (pickT (okS (ofT s)) (ofT s)) Lo Ro) := OO16.out.upd u19 (by simp)
  have OP19 : Hid (OwT w9.heap.size w10.heap.size w19 (d + 2) [vp0, vp1, vp2, vp3, vp4, vp5, vp6] (pickT (okS (ofT s)) (ofT s)) Lp Rp) := OP16.out.upd u19 (by simp)
  clear tze tzf uz tzf18 he18 hf19 hu18 hu19 u1719 u19 HU17 HE17 OA16 OB16 OC16 OD16 OO16 OP16 honee honef
  clear ta16 tb16 tc16 td16 t_a16 t_b16 t_o16 t_p16
  have HFC : Hid (∀ V, Upd [] w19 V → Calls Tryz.prog 28 #[.agg #[q0, q1, .slice a0 n0 c0, q3, q4, q5, q6], .agg #[p0, p1, .slice a1 n1 c1, p3, p4, p5, p6]] V fun e w' => ∃ u, e = .returned u ∧ Upd [] V w' ∧ ∃ cs : List Value, u = .agg cs.toArray ∧ In w' (d + 2) cs (consS t0 t1)) := fun V hu => by
   refine (RCons_in d V [q0, q1, .slice a0 n0 c0, q3, q4, q5, q6] [p0, p1, .slice a1 n1 c1, p3, p4, p5, p6] t0 t1 (In.mono (U19.out.trans hu) _ _ _ HI0.out) (In.mono (U19.out.trans hu) _ _ _ HI1.out) HZ0.out HZ1.out HC0.out HC1.out).mono ?_
   rintro e w' ⟨cs, _, rfl, hi, hu'⟩
   exact ⟨_, rfl, hu', cs, rfl, hi⟩
  have HFO : Hid (∀ V, Upd [] w19 V → Calls Tryz.prog 29 #[.string s] V fun e w' => ∃ u, e = .returned u ∧ Upd [] V w' ∧ ∃ cs : List Value, u = .agg cs.toArray ∧ In w' (d + 2) cs (pickT (okS (ofT s)) (ofT s))) := fun V hu => by
   refine (ROf_in s V d hs).mono ?_
   rintro e w' ⟨cs, _, rfl, hi, hu'⟩
   exact ⟨_, rfl, hu', cs, rfl, hi⟩
  have HSM : Hid (tsz tma ≤ 1353245080330 ∧ tsz tmb ≤ 1353245080330) := by
   refine ⟨?_, ?_⟩
   ·rw [HTMA.out.1]; exact (sml_head t1).tsz
   ·rw [HTMA.out.2.1]; exact (sml_rest t1).tsz
  obtain ⟨fs, hdesc⟩ := term_desc
  refine region_res (by kernel_rfl) 27 rfl [some 70, some 71, some 72, some 73, some 74, some 75, some 76, some 77, some 78, some 79, some 80, some 81, some 82, some 83, some 84, some 85, some 86, some 87, some 88, some 89, some 90, some 91, some 92, some 93, some 94, some 95, some 19] rfl (by decide) rfl (by kernel_rfl) (fun _ => []) (fun w' => Upd [] w19 w') (SmR (d + 2) s okb (consS t0 t1) (pickT (okS (ofT s)) (ofT s)) #[c0', c1', c2', c3', c4', c5', c6'] #[q0, q1, .slice a0 n0 c0, q3, q4, q5, q6] #[p0, p1, .slice a1 n1 c1, p3, p4, p5, p6] #[va0, va1, va2, va3, va4, va5, va6] #[ve0, ve1, ve2, ve3, ve4, ve5, ve6] #[vb0, vb1, vb2, vb3, vb4, vb5, vb6] #[vf0, vf1, vf2, vf3, vf4, vf5, vf6] #[vo0, vo1, vo2, vo3, vo4, vo5, vo6]) ((Upd.refl [] w19).drew) (fun i j v w5 w6 _ _ h hu => SmR.stab j v w5 w6 h hu) ?_ ?_
  ·intro D vs a' w5 i o' hA hB hR hS hi ho haf
   have hc : i = 0 ∨ i = 1 ∨ i = 2 ∨ i = 3 ∨ i = 4 ∨ i = 5 ∨ i = 6 ∨ i = 7 ∨ i = 8 ∨ i = 9 ∨ i = 10 ∨ i = 11 ∨ i = 12 ∨ i = 13 ∨ i = 14 ∨ i = 15 ∨ i = 16 ∨ i = 17 ∨ i = 18 ∨ i = 19 ∨ i = 20 ∨ i = 21 ∨ i = 22 ∨ i = 23 ∨ i = 24 ∨ i = 25 ∨ i = 26 := by omega
   rcases hc with rfl | rfl | rfl | rfl | rfl | rfl | rfl | rfl | rfl | rfl | rfl | rfl | rfl | rfl | rfl | rfl | rfl | rfl | rfl | rfl | rfl | rfl | rfl | rfl | rfl | rfl | rfl <;> cases ho
   ·refine ops_wp rfl rfl (wp_load_row 26 (.tmp 9) rfl gc (hA.ev 9 (by decide)) 26 _ (0, 0) _ (tc19.mono hB (by simp)) hdesc rfl (by rw [info_term]; rfl) ⟨_, rfl, hB, rfl, Upd.refl _ _⟩)
   ·refine ops_wp rfl rfl (wp_load_row 26 (.tmp 3) rfl W.heap.size (hA.ev 3 (by decide)) 26 _ (0, 0) _ (ta19.mono hB (by simp)) hdesc rfl (by rw [info_term]; rfl) ⟨_, rfl, hB, rfl, Upd.refl _ _⟩)
   ·refine ops_wp rfl rfl (wp_load_row 26 (.tmp 4) rfl (W.heap.size + 1) (hA.ev 4 (by decide)) 26 _ (0, 0) _ (tb19.mono hB (by simp)) hdesc rfl (by rw [info_term]; rfl) ⟨_, rfl, hB, rfl, Upd.refl _ _⟩)
   ·have D1 := haf ⟨1, .data⟩ (by simp) rfl
    have D2 := haf ⟨2, .data⟩ (by simp) rfl
    refine ops_wp rfl rfl (wp_call2 rfl Tryz.call28 ((hS 1 71 rfl D1).trans (hR 1 D1)) ((hS 2 72 rfl D2).trans (hR 2 D2)) (HFC.out w5 hB) ?_)
    rintro u w6 ⟨hu, hr⟩
    exact ⟨_, rfl, hB.trans hu, hr, hu⟩
   ·have D0 := haf ⟨0, .data⟩ (by simp) rfl
    have D3 := haf ⟨3, .data⟩ (by simp) rfl
    obtain ⟨cs3, e3, i3⟩ := hR 3 D3
    refine ops_wp rfl rfl (wp_call2 rfl Tryz.call18 ((hS 0 70 rfl D0).trans (hR 0 D0)) ((hS 3 73 rfl D3).trans e3) (sam_ret (In.mono hB _ _ _ OC19.out.in) i3 (sml_cons t0 t1).tsz) ?_)
    rintro u w6 ⟨hu, rfl⟩
    exact ⟨_, rfl, hB.trans hu, rfl, hu⟩
   ·have D4 := haf ⟨4, .data⟩ (by simp) rfl
    refine ops_wp rfl rfl (wp_move (.tmp 74) rfl _ ((hS 4 74 rfl D4).trans (hR 4 D4)) ⟨_, rfl, hB, rfl, Upd.refl _ _⟩)
   ·have D5 := haf ⟨5, .guard⟩ (by simp) rfl
    refine ops_wpG rfl rfl rfl rfl ((hS 5 75 rfl D5).trans (hR 5 D5)) (wp_load_row 26 (.tmp 11) rfl w6.heap.size (hA.ev 11 (by decide)) 26 _ (0, 0) _ (t_a19.mono hB (by simp)) hdesc rfl (by rw [info_term]; rfl) ⟨_, rfl, hB, rfl, Upd.refl _ _⟩)
   ·have D5 := haf ⟨5, .guard⟩ (by simp) rfl
    refine ops_wpG rfl rfl rfl rfl ((hS 5 75 rfl D5).trans (hR 5 D5)) (wp_load_row 26 (.tmp 16) rfl w17.heap.size (hA.ev 16 (by decide)) 26 _ (0, 0) _ (t_e19.mono hB (by simp)) hdesc rfl (by rw [info_term]; rfl) ⟨_, rfl, hB, rfl, Upd.refl _ _⟩)
   ·have D6 := haf ⟨6, .data⟩ (by simp) rfl
    have D7 := haf ⟨7, .data⟩ (by simp) rfl
    have D5 := haf ⟨5, .guard⟩ (by simp) rfl
    refine ops_wpG rfl rfl rfl rfl ((hS 5 75 rfl D5).trans (hR 5 D5)) (wp_call2 rfl Tryz.call18 ((hS 6 76 rfl D6).trans (hR 6 D6)) ((hS 7 77 rfl D7).trans (hR 7 D7)) (sam_ret (In.mono hB _ _ _ OA19.out.in) (In.mono hB _ _ _ HE19.out.1) HSM.out.1) ?_)
    rintro u w6 ⟨hu, rfl⟩
    exact ⟨_, rfl, hB.trans hu, rfl, hu⟩
   ·have D5 := haf ⟨5, .data⟩ (by simp) rfl
    have D8 := haf ⟨8, .data⟩ (by simp) rfl
    refine ops_wp rfl rfl (wp_pick (.tmp 75) (.tmp 78) _ rfl ((hS 5 75 rfl D5).trans (hR 5 D5)) _ ((hS 8 78 rfl D8).trans (hR 8 D8)) ⟨_, rfl, hB, rfl, Upd.refl _ _⟩)
   ·have D9 := haf ⟨9, .data⟩ (by simp) rfl
    refine ops_wp rfl rfl (wp_move (.tmp 79) rfl _ ((hS 9 79 rfl D9).trans (hR 9 D9)) ⟨_, rfl, hB, rfl, Upd.refl _ _⟩)
   ·have D10 := haf ⟨10, .guard⟩ (by simp) rfl
    refine ops_wpG rfl rfl rfl rfl ((hS 10 80 rfl D10).trans (hR 10 D10)) (wp_load_row 26 (.tmp 12) rfl (w6.heap.size + 1) (hA.ev 12 (by decide)) 26 _ (0, 0) _ (t_b19.mono hB (by simp)) hdesc rfl (by rw [info_term]; rfl) ⟨_, rfl, hB, rfl, Upd.refl _ _⟩)
   ·have D10 := haf ⟨10, .guard⟩ (by simp) rfl
    refine ops_wpG rfl rfl rfl rfl ((hS 10 80 rfl D10).trans (hR 10 D10)) (wp_load_row 26 (.tmp 17) rfl (w17.heap.size + 1) (hA.ev 17 (by decide)) 26 _ (0, 0) _ (t_f19.mono hB (by simp)) hdesc rfl (by rw [info_term]; rfl) ⟨_, rfl, hB, rfl, Upd.refl _ _⟩)
   ·have D11 := haf ⟨11, .data⟩ (by simp) rfl
    have D12 := haf ⟨12, .data⟩ (by simp) rfl
    have D10 := haf ⟨10, .guard⟩ (by simp) rfl
    refine ops_wpG rfl rfl rfl rfl ((hS 10 80 rfl D10).trans (hR 10 D10)) (wp_call2 rfl Tryz.call18 ((hS 11 81 rfl D11).trans (hR 11 D11)) ((hS 12 82 rfl D12).trans (hR 12 D12)) (sam_ret (In.mono hB _ _ _ OB19.out.in) (In.mono hB _ _ _ HE19.out.2) HSM.out.2) ?_)
    rintro u w6 ⟨hu, rfl⟩
    exact ⟨_, rfl, hB.trans hu, rfl, hu⟩
   ·have D10 := haf ⟨10, .data⟩ (by simp) rfl
    have D13 := haf ⟨13, .data⟩ (by simp) rfl
    refine ops_wp rfl rfl (wp_pick (.tmp 80) (.tmp 83) _ rfl ((hS 10 80 rfl D10).trans (hR 10 D10)) _ ((hS 13 83 rfl D13).trans (hR 13 D13)) ⟨_, rfl, hB, rfl, Upd.refl _ _⟩)
   ·have D14 := haf ⟨14, .data⟩ (by simp) rfl
    refine ops_wp rfl rfl (wp_move (.tmp 84) rfl _ ((hS 14 84 rfl D14).trans (hR 14 D14)) ⟨_, rfl, hB, rfl, Upd.refl _ _⟩)
   ·have D15 := haf ⟨15, .guard⟩ (by simp) rfl
    refine ops_wpG rfl rfl rfl rfl ((hS 15 85 rfl D15).trans (hR 15 D15)) (wp_move (.tmp 13) rfl _ (hA.ev 13 (by decide)) ⟨_, rfl, hB, rfl, Upd.refl _ _⟩)
   ·have D15 := haf ⟨15, .guard⟩ (by simp) rfl
    refine ops_wpG rfl rfl rfl rfl ((hS 15 85 rfl D15).trans (hR 15 D15)) (wp_move (.tmp 18) rfl _ (hA.ev 18 (by decide)) ⟨_, rfl, hB, rfl, Upd.refl _ _⟩)
   ·have D16 := haf ⟨16, .data⟩ (by simp) rfl
    have D17 := haf ⟨17, .data⟩ (by simp) rfl
    have D15 := haf ⟨15, .guard⟩ (by simp) rfl
    refine ops_wpG rfl rfl rfl rfl ((hS 15 85 rfl D15).trans (hR 15 D15)) (wp_eqlB (.tmp 86) (.tmp 87) rfl okb ((hS 16 86 rfl D16).trans (hR 16 D16)) ((hS 17 87 rfl D17).trans (hR 17 D17)) ⟨_, rfl, hB, rfl, Upd.refl _ _⟩)
   ·have D15 := haf ⟨15, .data⟩ (by simp) rfl
    have D18 := haf ⟨18, .data⟩ (by simp) rfl
    refine ops_wp rfl rfl (wp_pick (.tmp 85) (.tmp 88) _ rfl ((hS 15 85 rfl D15).trans (hR 15 D15)) _ ((hS 18 88 rfl D18).trans (hR 18 D18)) ⟨_, rfl, hB, rfl, Upd.refl _ _⟩)
   ·have D19 := haf ⟨19, .data⟩ (by simp) rfl
    refine ops_wp rfl rfl (wp_move (.tmp 89) rfl _ ((hS 19 89 rfl D19).trans (hR 19 D19)) ⟨_, rfl, hB, rfl, Upd.refl _ _⟩)
   ·have D20 := haf ⟨20, .guard⟩ (by simp) rfl
    refine ops_wpG rfl rfl rfl rfl ((hS 20 90 rfl D20).trans (hR 20 D20)) (wp_load_row 26 (.tmp 14) rfl w10.heap.size (hA.ev 14 (by decide)) 26 _ (0, 0) _ (t_o19.mono hB (by simp)) hdesc rfl (by rw [info_term]; rfl) ⟨_, rfl, hB, rfl, Upd.refl _ _⟩)
   ·have D20 := haf ⟨20, .guard⟩ (by simp) rfl
    refine ops_wpG rfl rfl rfl rfl ((hS 20 90 rfl D20).trans (hR 20 D20)) (wp_move (.tmp 2) rfl _ (hA.ev 2 (by decide)) ⟨_, rfl, hB, rfl, Upd.refl _ _⟩)
   ·have D22 := haf ⟨22, .data⟩ (by simp) rfl
    have D20 := haf ⟨20, .guard⟩ (by simp) rfl
    refine ops_wpG rfl rfl rfl rfl ((hS 20 90 rfl D20).trans (hR 20 D20)) (wp_call' rfl Tryz.call29 ((hS 22 92 rfl D22).trans (hR 22 D22)) (HFO.out w5 hB) ?_)
    rintro u w6 ⟨hu, hr⟩
    exact ⟨_, rfl, hB.trans hu, hr, hu⟩
   ·have D21 := haf ⟨21, .data⟩ (by simp) rfl
    have D23 := haf ⟨23, .data⟩ (by simp) rfl
    obtain ⟨cs3, e3, i3⟩ := hR 23 D23
    have D20 := haf ⟨20, .guard⟩ (by simp) rfl
    refine ops_wpG rfl rfl rfl rfl ((hS 20 90 rfl D20).trans (hR 20 D20)) (wp_call2 rfl Tryz.call18 ((hS 21 91 rfl D21).trans (hR 21 D21)) ((hS 23 93 rfl D23).trans e3) (sam_ret (In.mono hB _ _ _ OO19.out.in) i3 (sml_of s).tsz) ?_)
    rintro u w6 ⟨hu, rfl⟩
    exact ⟨_, rfl, hB.trans hu, rfl, hu⟩
   ·have D20 := haf ⟨20, .data⟩ (by simp) rfl
    have D24 := haf ⟨24, .data⟩ (by simp) rfl
    refine ops_wp rfl rfl (wp_pick (.tmp 90) (.tmp 94) _ rfl ((hS 20 90 rfl D20).trans (hR 20 D20)) _ ((hS 24 94 rfl D24).trans (hR 24 D24)) ⟨_, rfl, hB, rfl, Upd.refl _ _⟩)
   ·have D25 := haf ⟨25, .data⟩ (by simp) rfl
    refine ops_wp rfl rfl (wp_assign (.tmp 95) rfl _ ((hS 25 95 rfl D25).trans (hR 25 D25)) ⟨_, rfl, hB, rfl, Upd.refl _ _⟩)
  ·intro vs w20 hv hB hR
   obtain ⟨v0, r0, rfl, hv0⟩ := list_cons hv
   obtain ⟨v1, r1, rfl, hv1⟩ := list_cons hv0
   obtain ⟨v2, r2, rfl, hv2⟩ := list_cons hv1
   obtain ⟨v3, r3, rfl, hv3⟩ := list_cons hv2
   obtain ⟨v4, r4, rfl, hv4⟩ := list_cons hv3
   obtain ⟨v5, r5, rfl, hv5⟩ := list_cons hv4
   obtain ⟨v6, r6, rfl, hv6⟩ := list_cons hv5
   obtain ⟨v7, r7, rfl, hv7⟩ := list_cons hv6
   obtain ⟨v8, r8, rfl, hv8⟩ := list_cons hv7
   obtain ⟨v9, r9, rfl, hv9⟩ := list_cons hv8
   obtain ⟨v10, r10, rfl, hv10⟩ := list_cons hv9
   obtain ⟨v11, r11, rfl, hv11⟩ := list_cons hv10
   obtain ⟨v12, r12, rfl, hv12⟩ := list_cons hv11
   obtain ⟨v13, r13, rfl, hv13⟩ := list_cons hv12
   obtain ⟨v14, r14, rfl, hv14⟩ := list_cons hv13
   obtain ⟨v15, r15, rfl, hv15⟩ := list_cons hv14
   obtain ⟨v16, r16, rfl, hv16⟩ := list_cons hv15
   obtain ⟨v17, r17, rfl, hv17⟩ := list_cons hv16
   obtain ⟨v18, r18, rfl, hv18⟩ := list_cons hv17
   obtain ⟨v19, r19, rfl, hv19⟩ := list_cons hv18
   obtain ⟨v20, r20, rfl, hv20⟩ := list_cons hv19
   obtain ⟨v21, r21, rfl, hv21⟩ := list_cons hv20
   obtain ⟨v22, r22, rfl, hv22⟩ := list_cons hv21
   obtain ⟨v23, r23, rfl, hv23⟩ := list_cons hv22
   obtain ⟨v24, r24, rfl, hv24⟩ := list_cons hv23
   obtain ⟨v25, r25, rfl, hv25⟩ := list_cons hv24
   obtain ⟨v26, r26, rfl, hv26⟩ := list_cons hv25
   have hv26 : v26 = .bool true := hR 26 (by omega)
   subst hv26
   clear hR HFC HFO
   simp only [putAll, Act.put, List.setIfInBounds_toArray, List.set_cons_succ, List.set_cons_zero]
   have HB20 : Hid (Upd [] w19 w20) := hB
   have tc20 := tc19.mono hB (by simp)
   have td20 := td19.mono hB (by simp)
   have t_a20 := t_a19.mono hB (by simp)
   have t_b20 := t_b19.mono hB (by simp)
   have t_o20 := t_o19.mono hB (by simp)
   have t_p20 := t_p19.mono hB (by simp)
   have ld0 : Tb w20 gc #[c0', c1', c2', c3', c4', c5', c6'] := tc20
   have ld1 : Tb (w20.alloc (.cells #[c0', c1', c2', c3', c4', c5', c6'] 26)) gd #[d0, d1, d2, d3, d4, d5, d6] := (td20).old _
   have ld2 : Tb ((w20.alloc (.cells #[c0', c1', c2', c3', c4', c5', c6'] 26)).alloc (.cells #[d0, d1, d2, d3, d4, d5, d6] 26)) w6.heap.size #[va0, va1, va2, va3, va4, va5, va6] := ((t_a20).old _).old _
   have ld3 : Tb (((w20.alloc (.cells #[c0', c1', c2', c3', c4', c5', c6'] 26)).alloc (.cells #[d0, d1, d2, d3, d4, d5, d6] 26)).alloc (.cells #[va0, va1, va2, va3, va4, va5, va6] 26)) (w6.heap.size + 1) #[vb0, vb1, vb2, vb3, vb4, vb5, vb6] := (((t_b20).old _).old _).old _
   have ld4 : Tb ((((w20.alloc (.cells #[c0', c1', c2', c3', c4', c5', c6'] 26)).alloc (.cells #[d0, d1, d2, d3, d4, d5, d6] 26)).alloc (.cells #[va0, va1, va2, va3, va4, va5, va6] 26)).alloc (.cells #[vb0, vb1, vb2, vb3, vb4, vb5, vb6] 26)) w10.heap.size #[vo0, vo1, vo2, vo3, vo4, vo5, vo6] := ((((t_o20).old _).old _).old _).old _
   have ld5 : Tb (((((w20.alloc (.cells #[c0', c1', c2', c3', c4', c5', c6'] 26)).alloc (.cells #[d0, d1, d2, d3, d4, d5, d6] 26)).alloc (.cells #[va0, va1, va2, va3, va4, va5, va6] 26)).alloc (.cells #[vb0, vb1, vb2, vb3, vb4, vb5, vb6] 26)).alloc (.cells #[vo0, vo1, vo2, vo3, vo4, vo5, vo6] 26)) (w10.heap.size + 1) #[vp0, vp1, vp2, vp3, vp4, vp5, vp6] := (((((t_p20).old _).old _).old _).old _).old _
   have TN0 : Hid (Tb (((((((w20.alloc (.cells #[c0', c1', c2', c3', c4', c5', c6'] 26)).alloc (.cells #[d0, d1, d2, d3, d4, d5, d6] 26)).alloc (.cells #[va0, va1, va2, va3, va4, va5, va6] 26)).alloc (.cells #[vb0, vb1, vb2, vb3, vb4, vb5, vb6] 26)).alloc (.cells #[vo0, vo1, vo2, vo3, vo4, vo5, vo6] 26)).alloc (.cells #[vp0, vp1, vp2, vp3, vp4, vp5, vp6] 26)).alloc (.cells #[.slice (some ⟨w20.heap.size, 0, none⟩) 1 1, .slice (some ⟨w20.heap.size + 1, 0, none⟩) 1 1, .slice (some ⟨w20.heap.size + 1 + 1, 0, none⟩) 1 1, .slice (some ⟨w20.heap.size + 1 + 1 + 1, 0, none⟩) 1 1, .slice (some ⟨w20.heap.size + 1 + 1 + 1 + 1, 0, none⟩) 1 1, .slice (some ⟨w20.heap.size + 1 + 1 + 1 + 1 + 1, 0, none⟩) 1 1] 24)) (w20.heap.size) #[c0', c1', c2', c3', c4', c5', c6']) := ((((((Tb.new _ _ _ rfl).old _).old _).old _).old _).old _).old _
   have TN1 : Hid (Tb (((((((w20.alloc (.cells #[c0', c1', c2', c3', c4', c5', c6'] 26)).alloc (.cells #[d0, d1, d2, d3, d4, d5, d6] 26)).alloc (.cells #[va0, va1, va2, va3, va4, va5, va6] 26)).alloc (.cells #[vb0, vb1, vb2, vb3, vb4, vb5, vb6] 26)).alloc (.cells #[vo0, vo1, vo2, vo3, vo4, vo5, vo6] 26)).alloc (.cells #[vp0, vp1, vp2, vp3, vp4, vp5, vp6] 26)).alloc (.cells #[.slice (some ⟨w20.heap.size, 0, none⟩) 1 1, .slice (some ⟨w20.heap.size + 1, 0, none⟩) 1 1, .slice (some ⟨w20.heap.size + 1 + 1, 0, none⟩) 1 1, .slice (some ⟨w20.heap.size + 1 + 1 + 1, 0, none⟩) 1 1, .slice (some ⟨w20.heap.size + 1 + 1 + 1 + 1, 0, none⟩) 1 1, .slice (some ⟨w20.heap.size + 1 + 1 + 1 + 1 + 1, 0, none⟩) 1 1] 24)) (w20.heap.size + 1) #[d0, d1, d2, d3, d4, d5, d6]) := (((((Tb.new _ _ _ (by simp)).old _).old _).old _).old _).old _
   have TN2 : Hid (Tb (((((((w20.alloc (.cells #[c0', c1', c2', c3', c4', c5', c6'] 26)).alloc (.cells #[d0, d1, d2, d3, d4, d5, d6] 26)).alloc (.cells #[va0, va1, va2, va3, va4, va5, va6] 26)).alloc (.cells #[vb0, vb1, vb2, vb3, vb4, vb5, vb6] 26)).alloc (.cells #[vo0, vo1, vo2, vo3, vo4, vo5, vo6] 26)).alloc (.cells #[vp0, vp1, vp2, vp3, vp4, vp5, vp6] 26)).alloc (.cells #[.slice (some ⟨w20.heap.size, 0, none⟩) 1 1, .slice (some ⟨w20.heap.size + 1, 0, none⟩) 1 1, .slice (some ⟨w20.heap.size + 1 + 1, 0, none⟩) 1 1, .slice (some ⟨w20.heap.size + 1 + 1 + 1, 0, none⟩) 1 1, .slice (some ⟨w20.heap.size + 1 + 1 + 1 + 1, 0, none⟩) 1 1, .slice (some ⟨w20.heap.size + 1 + 1 + 1 + 1 + 1, 0, none⟩) 1 1] 24)) (w20.heap.size + 1 + 1) #[va0, va1, va2, va3, va4, va5, va6]) := ((((Tb.new _ _ _ (by simp)).old _).old _).old _).old _
   have TN3 : Hid (Tb (((((((w20.alloc (.cells #[c0', c1', c2', c3', c4', c5', c6'] 26)).alloc (.cells #[d0, d1, d2, d3, d4, d5, d6] 26)).alloc (.cells #[va0, va1, va2, va3, va4, va5, va6] 26)).alloc (.cells #[vb0, vb1, vb2, vb3, vb4, vb5, vb6] 26)).alloc (.cells #[vo0, vo1, vo2, vo3, vo4, vo5, vo6] 26)).alloc (.cells #[vp0, vp1, vp2, vp3, vp4, vp5, vp6] 26)).alloc (.cells #[.slice (some ⟨w20.heap.size, 0, none⟩) 1 1, .slice (some ⟨w20.heap.size + 1, 0, none⟩) 1 1, .slice (some ⟨w20.heap.size + 1 + 1, 0, none⟩) 1 1, .slice (some ⟨w20.heap.size + 1 + 1 + 1, 0, none⟩) 1 1, .slice (some ⟨w20.heap.size + 1 + 1 + 1 + 1, 0, none⟩) 1 1, .slice (some ⟨w20.heap.size + 1 + 1 + 1 + 1 + 1, 0, none⟩) 1 1] 24)) (w20.heap.size + 1 + 1 + 1) #[vb0, vb1, vb2, vb3, vb4, vb5, vb6]) := (((Tb.new _ _ _ (by simp)).old _).old _).old _
   have TN4 : Hid (Tb (((((((w20.alloc (.cells #[c0', c1', c2', c3', c4', c5', c6'] 26)).alloc (.cells #[d0, d1, d2, d3, d4, d5, d6] 26)).alloc (.cells #[va0, va1, va2, va3, va4, va5, va6] 26)).alloc (.cells #[vb0, vb1, vb2, vb3, vb4, vb5, vb6] 26)).alloc (.cells #[vo0, vo1, vo2, vo3, vo4, vo5, vo6] 26)).alloc (.cells #[vp0, vp1, vp2, vp3, vp4, vp5, vp6] 26)).alloc (.cells #[.slice (some ⟨w20.heap.size, 0, none⟩) 1 1, .slice (some ⟨w20.heap.size + 1, 0, none⟩) 1 1, .slice (some ⟨w20.heap.size + 1 + 1, 0, none⟩) 1 1, .slice (some ⟨w20.heap.size + 1 + 1 + 1, 0, none⟩) 1 1, .slice (some ⟨w20.heap.size + 1 + 1 + 1 + 1, 0, none⟩) 1 1, .slice (some ⟨w20.heap.size + 1 + 1 + 1 + 1 + 1, 0, none⟩) 1 1] 24)) (w20.heap.size + 1 + 1 + 1 + 1) #[vo0, vo1, vo2, vo3, vo4, vo5, vo6]) := ((Tb.new _ _ _ (by simp)).old _).old _
   have TN5 : Hid (Tb (((((((w20.alloc (.cells #[c0', c1', c2', c3', c4', c5', c6'] 26)).alloc (.cells #[d0, d1, d2, d3, d4, d5, d6] 26)).alloc (.cells #[va0, va1, va2, va3, va4, va5, va6] 26)).alloc (.cells #[vb0, vb1, vb2, vb3, vb4, vb5, vb6] 26)).alloc (.cells #[vo0, vo1, vo2, vo3, vo4, vo5, vo6] 26)).alloc (.cells #[vp0, vp1, vp2, vp3, vp4, vp5, vp6] 26)).alloc (.cells #[.slice (some ⟨w20.heap.size, 0, none⟩) 1 1, .slice (some ⟨w20.heap.size + 1, 0, none⟩) 1 1, .slice (some ⟨w20.heap.size + 1 + 1, 0, none⟩) 1 1, .slice (some ⟨w20.heap.size + 1 + 1 + 1, 0, none⟩) 1 1, .slice (some ⟨w20.heap.size + 1 + 1 + 1 + 1, 0, none⟩) 1 1, .slice (some ⟨w20.heap.size + 1 + 1 + 1 + 1 + 1, 0, none⟩) 1 1] 24)) (w20.heap.size + 1 + 1 + 1 + 1 + 1) #[vp0, vp1, vp2, vp3, vp4, vp5, vp6]) := (Tb.new _ _ _ (by simp)).old _
   have TNO : Hid (Bk (((((((w20.alloc (.cells #[c0', c1', c2', c3', c4', c5', c6'] 26)).alloc (.cells #[d0, d1, d2, d3, d4, d5, d6] 26)).alloc (.cells #[va0, va1, va2, va3, va4, va5, va6] 26)).alloc (.cells #[vb0, vb1, vb2, vb3, vb4, vb5, vb6] 26)).alloc (.cells #[vo0, vo1, vo2, vo3, vo4, vo5, vo6] 26)).alloc (.cells #[vp0, vp1, vp2, vp3, vp4, vp5, vp6] 26)).alloc (.cells #[.slice (some ⟨w20.heap.size, 0, none⟩) 1 1, .slice (some ⟨w20.heap.size + 1, 0, none⟩) 1 1, .slice (some ⟨w20.heap.size + 1 + 1, 0, none⟩) 1 1, .slice (some ⟨w20.heap.size + 1 + 1 + 1, 0, none⟩) 1 1, .slice (some ⟨w20.heap.size + 1 + 1 + 1 + 1, 0, none⟩) 1 1, .slice (some ⟨w20.heap.size + 1 + 1 + 1 + 1 + 1, 0, none⟩) 1 1] 24)) (w20.heap.size + 1 + 1 + 1 + 1 + 1 + 1) #[.slice (some ⟨w20.heap.size, 0, none⟩) 1 1, .slice (some ⟨w20.heap.size + 1, 0, none⟩) 1 1, .slice (some ⟨w20.heap.size + 1 + 1, 0, none⟩) 1 1, .slice (some ⟨w20.heap.size + 1 + 1 + 1, 0, none⟩) 1 1, .slice (some ⟨w20.heap.size + 1 + 1 + 1 + 1, 0, none⟩) 1 1, .slice (some ⟨w20.heap.size + 1 + 1 + 1 + 1 + 1, 0, none⟩) 1 1] 24) := by
    have := Bk.new ((((((w20.alloc (.cells #[c0', c1', c2', c3', c4', c5', c6'] 26)).alloc (.cells #[d0, d1, d2, d3, d4, d5, d6] 26)).alloc (.cells #[va0, va1, va2, va3, va4, va5, va6] 26)).alloc (.cells #[vb0, vb1, vb2, vb3, vb4, vb5, vb6] 26)).alloc (.cells #[vo0, vo1, vo2, vo3, vo4, vo5, vo6] 26)).alloc (.cells #[vp0, vp1, vp2, vp3, vp4, vp5, vp6] 26)) #[.slice (some ⟨w20.heap.size, 0, none⟩) 1 1, .slice (some ⟨w20.heap.size + 1, 0, none⟩) 1 1, .slice (some ⟨w20.heap.size + 1 + 1, 0, none⟩) 1 1, .slice (some ⟨w20.heap.size + 1 + 1 + 1, 0, none⟩) 1 1, .slice (some ⟨w20.heap.size + 1 + 1 + 1 + 1, 0, none⟩) 1 1, .slice (some ⟨w20.heap.size + 1 + 1 + 1 + 1 + 1, 0, none⟩) 1 1] 24
    show Bk _ _ _ _
    simpa using this
   have HUF : Hid (Upd [] w20 (((((((w20.alloc (.cells #[c0', c1', c2', c3', c4', c5', c6'] 26)).alloc (.cells #[d0, d1, d2, d3, d4, d5, d6] 26)).alloc (.cells #[va0, va1, va2, va3, va4, va5, va6] 26)).alloc (.cells #[vb0, vb1, vb2, vb3, vb4, vb5, vb6] 26)).alloc (.cells #[vo0, vo1, vo2, vo3, vo4, vo5, vo6] 26)).alloc (.cells #[vp0, vp1, vp2, vp3, vp4, vp5, vp6] 26)).alloc (.cells #[.slice (some ⟨w20.heap.size, 0, none⟩) 1 1, .slice (some ⟨w20.heap.size + 1, 0, none⟩) 1 1, .slice (some ⟨w20.heap.size + 1 + 1, 0, none⟩) 1 1, .slice (some ⟨w20.heap.size + 1 + 1 + 1, 0, none⟩) 1 1, .slice (some ⟨w20.heap.size + 1 + 1 + 1 + 1, 0, none⟩) 1 1, .slice (some ⟨w20.heap.size + 1 + 1 + 1 + 1 + 1, 0, none⟩) 1 1] 24))) := ((((((((Upd.refl [] w20).alloc _).alloc _).alloc _).alloc _).alloc _).alloc _).alloc _)
   clear hB
   go_wp2_with (first | (refine load_G _ _ rfl _ _ rfl ld0 rfl rfl ?_) | (refine load_G _ _ rfl _ _ rfl ld1 rfl rfl ?_) | (refine load_G _ _ rfl _ _ rfl ld2 rfl rfl ?_) | (refine load_G _ _ rfl _ _ rfl ld3 rfl rfl ?_) | (refine load_G _ _ rfl _ _ rfl ld4 rfl rfl ?_) | (refine load_G _ _ rfl _ _ rfl ld5 rfl rfl ?_) | fail)
   have six : ∀ k, k < 6 → k = 0 ∨ k = 1 ∨ k = 2 ∨ k = 3 ∨ k = 4 ∨ k = 5 := fun k hk => by omega
   have u20 : Upd [] w19 (((((((w20.alloc (.cells #[c0', c1', c2', c3', c4', c5', c6'] 26)).alloc (.cells #[d0, d1, d2, d3, d4, d5, d6] 26)).alloc (.cells #[va0, va1, va2, va3, va4, va5, va6] 26)).alloc (.cells #[vb0, vb1, vb2, vb3, vb4, vb5, vb6] 26)).alloc (.cells #[vo0, vo1, vo2, vo3, vo4, vo5, vo6] 26)).alloc (.cells #[vp0, vp1, vp2, vp3, vp4, vp5, vp6] 26)).alloc (.cells #[.slice (some ⟨w20.heap.size, 0, none⟩) 1 1, .slice (some ⟨w20.heap.size + 1, 0, none⟩) 1 1, .slice (some ⟨w20.heap.size + 1 + 1, 0, none⟩) 1 1, .slice (some ⟨w20.heap.size + 1 + 1 + 1, 0, none⟩) 1 1, .slice (some ⟨w20.heap.size + 1 + 1 + 1 + 1, 0, none⟩) 1 1, .slice (some ⟨w20.heap.size + 1 + 1 + 1 + 1 + 1, 0, none⟩) 1 1] 24)) := HB20.out.trans HUF.out
   have hs20 : w19.heap.size ≤ w20.heap.size := HB20.out.size
   have l2 := HL2.out
   have l4 := HL4.out
   have lc := HGC.out
   have l5 := HL5.out
   have l8 := HL8.out
   have l12 := HL12.out
   have l16 := HL16.out
   have l19 := HL19.out
   have hml := HMID.out
   have f0 := OC19.out.upd u20 (by simp)
   have f1 := OD19.out.upd u20 (by simp)
   have f2 := OA19.out.upd u20 (by simp)
   have f3 := OB19.out.upd u20 (by simp)
   have f4 := OO19.out.upd u20 (by simp)
   have f5 := OP19.out.upd u20 (by simp)
   have hcd := HCD.out
   have hrng : ∀ k, k < 6 → ∀ z, z ∈ KB ([Lc, Ld, La, Lb, Lo, Lp].getD k []) ([Rc, Rd, Ra, Rb, Ro, Rp].getD k []) → W.heap.size ≤ z ∧ z < w20.heap.size := fun k hk z hz => by
    rcases six k hk with rfl | rfl | rfl | rfl | rfl | rfl
    ·have := f0.rg z hz; omega
    ·have := f1.rg z hz; omega
    ·have h1 := f2.rg z hz; have h2 := BT.lt _ _ _ _ _ OA19.out.bt z hz; omega
    ·have := f3.rg z hz; omega
    ·have := f4.rg z hz; omega
    ·have := f5.rg z hz; omega
   have hlt : ∀ i j z, i < j → j < 6 → z ∈ KB ([Lc, Ld, La, Lb, Lo, Lp].getD i []) ([Rc, Rd, Ra, Rb, Ro, Rp].getD i []) → z ∉ KB ([Lc, Ld, La, Lb, Lo, Lp].getD j []) ([Rc, Rd, Ra, Rb, Ro, Rp].getD j []) := fun i j z hij hj h1 h2 => by
    rcases six i (by omega) with rfl | rfl | rfl | rfl | rfl | rfl <;> rcases six j hj with rfl | rfl | rfl | rfl | rfl | rfl
    ·omega
    ·exact hcd z h1 h2
    ·have e1 := f0.rg z h1; have e2 := f2.rg z h2; omega
    ·have e1 := f0.rg z h1; have e2 := f3.rg z h2; omega
    ·have e1 := f0.rg z h1; have e2 := f4.rg z h2; omega
    ·have e1 := f0.rg z h1; have e2 := f5.rg z h2; omega
    ·omega
    ·omega
    ·have e1 := f1.rg z h1; have e2 := f2.rg z h2; omega
    ·have e1 := f1.rg z h1; have e2 := f3.rg z h2; omega
    ·have e1 := f1.rg z h1; have e2 := f4.rg z h2; omega
    ·have e1 := f1.rg z h1; have e2 := f5.rg z h2; omega
    ·omega
    ·omega
    ·omega
    ·have e1 := f2.rg z h1; have e2 := f3.rg z h2; have e3 := HAL.out z h1; omega
    ·have e1 := f2.rg z h1; have e2 := f4.rg z h2; have e3 := HAL.out z h1; omega
    ·have e1 := f2.rg z h1; have e2 := f5.rg z h2; have e3 := HAL.out z h1; omega
    ·omega
    ·omega
    ·omega
    ·omega
    ·have e1 := f3.rg z h1; have e2 := f4.rg z h2; omega
    ·have e1 := f3.rg z h1; have e2 := f5.rg z h2; omega
    ·omega
    ·omega
    ·omega
    ·omega
    ·omega
    ·have e1 := f4.rg z h1; have e2 := f5.rg z h2; omega
    ·omega
    ·omega
    ·omega
    ·omega
    ·omega
    ·omega
   refine Calls.mono (apart_many (W := W) (w := (((((((w20.alloc (.cells #[c0', c1', c2', c3', c4', c5', c6'] 26)).alloc (.cells #[d0, d1, d2, d3, d4, d5, d6] 26)).alloc (.cells #[va0, va1, va2, va3, va4, va5, va6] 26)).alloc (.cells #[vb0, vb1, vb2, vb3, vb4, vb5, vb6] 26)).alloc (.cells #[vo0, vo1, vo2, vo3, vo4, vo5, vo6] 26)).alloc (.cells #[vp0, vp1, vp2, vp3, vp4, vp5, vp6] 26)).alloc (.cells #[.slice (some ⟨w20.heap.size, 0, none⟩) 1 1, .slice (some ⟨w20.heap.size + 1, 0, none⟩) 1 1, .slice (some ⟨w20.heap.size + 1 + 1, 0, none⟩) 1 1, .slice (some ⟨w20.heap.size + 1 + 1 + 1, 0, none⟩) 1 1, .slice (some ⟨w20.heap.size + 1 + 1 + 1 + 1, 0, none⟩) 1 1, .slice (some ⟨w20.heap.size + 1 + 1 + 1 + 1 + 1, 0, none⟩) 1 1] 24))) (d := d + 2) (A := w20.heap.size) (m := 6) (t := fun k => [(consS t0 t1), (consS t0 t1), tma, tmb, (pickT (okS (ofT s)) (ofT s)), (pickT (okS (ofT s)) (ofT s))].getD k zeroT) (c := fun k => [[c0', c1', c2', c3', c4', c5', c6'], [d0, d1, d2, d3, d4, d5, d6], [va0, va1, va2, va3, va4, va5, va6], [vb0, vb1, vb2, vb3, vb4, vb5, vb6], [vo0, vo1, vo2, vo3, vo4, vo5, vo6], [vp0, vp1, vp2, vp3, vp4, vp5, vp6]].getD k []) (L := fun k => [Lc, Ld, La, Lb, Lo, Lp].getD k []) (R := fun k => [Rc, Rd, Ra, Rb, Ro, Rp].getD k []) (by omega) (by omega)
    (fun k hk => by rcases six k hk with rfl | rfl | rfl | rfl | rfl | rfl <;> first | exact TN0.out | exact TN1.out | exact TN2.out | exact TN3.out | exact TN4.out | exact TN5.out)
    (fun k hk => by rcases six k hk with rfl | rfl | rfl | rfl | rfl | rfl <;> first | exact TNO.out.cell 0 | exact TNO.out.cell 1 | exact TNO.out.cell 2 | exact TNO.out.cell 3 | exact TNO.out.cell 4 | exact TNO.out.cell 5)
    TNO.out.lt
    (fun k hk => by rcases six k hk with rfl | rfl | rfl | rfl | rfl | rfl <;> rfl)
    (fun k hk => by rcases six k hk with rfl | rfl | rfl | rfl | rfl | rfl <;> first | exact f0.bt | exact f1.bt | exact f2.bt | exact f3.bt | exact f4.bt | exact f5.bt)
    (fun k hk => by rcases six k hk with rfl | rfl | rfl | rfl | rfl | rfl <;> first | exact f0.ap | exact f1.ap | exact f2.ap | exact f3.ap | exact f4.ap | exact f5.ap)
    hrng
    (fun i j z hi hj hij h1 h2 => by
     rcases Nat.lt_or_gt_of_ne hij with h | h
     ·exact hlt i j z h hj h1 h2
     ·exact hlt j i z h hi h2 h1)
    (fun k hk => by
     rcases six k hk with rfl | rfl | rfl | rfl | rfl | rfl
     ·exact (sml_cons t0 t1).tsz
     ·exact (sml_cons t0 t1).tsz
     ·exact HSM.out.1
     ·exact HSM.out.2
     ·exact (sml_of s).tsz
     ·exact (sml_of s).tsz)
    (fun k hk => by
     rcases six k hk with rfl | rfl | rfl | rfl | rfl | rfl
     ·exact (sml_cons t0 t1).bel
     ·exact (sml_cons t0 t1).bel
     ·show belT tma ≤ _; rw [HTMA.out.1]; exact (sml_head t1).bel
     ·show belT tmb ≤ _; rw [HTMA.out.2.1]; exact (sml_rest t1).bel
     ·exact (sml_of s).bel
     ·exact (sml_of s).bel)
    (by omega) (U19.out.trans u20)) ?_
   rintro e w21 ⟨rfl, h21⟩
   have HU21 : Hid (Upd [] W w21) := h21
   clear h21 u20 hs20 l2 l4 lc l5 l8 l12 l16 l19 hml f0 f1 f2 f3 f4 f5 hcd hrng hlt six
   go_wp2_with fail
   refine Calls.mono (awake_any _ (HG.out.mono HU21.out)) ?_
   rintro e w22 ⟨rfl, h22⟩
   go_wp2
   go_ret
   exact ⟨rfl, HU21.out.trans h22⟩
end Go.Proofs.YtalhbbabijlngaaGreatDoor
