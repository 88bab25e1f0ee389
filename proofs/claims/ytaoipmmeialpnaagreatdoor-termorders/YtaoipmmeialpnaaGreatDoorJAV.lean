/- TermOrders, walked. -/
import Derived.Test.YtaoipmmeialpnaaGreatDoorJAQ
import Derived.Test.YtaoipmmeialpnaaGreatDoorJAT
import Derived.Test.YtaoipmmeialpnaaGreatDoorAwkT
import Derived.Test.YtaoipmmeialpnaaGreatDoorJAB
import Derived.SizedLaws
import Derived.Test.YtaoipmmeialpnaaGreatDoorJAN

namespace Go.Proofs.YtaoipmmeialpnaaGreatDoor
open Go.RowKit

/-- The blocks of what is lent are there. -/
theorem KIn.within {P : Nat → Prop} {w : World} : ∀ (d : Nat) (cs : List Value) (t : Tm), KIn P w d cs t → KIn (fun x => P x ∧ x < w.heap.size) w d cs t := by
  intro d
  induction d with
  | zero => intro cs t h; exact h.elim
  | succ d ih =>
    intro cs t h
    cases t with
    | mk k num neg L s I T =>
      obtain ⟨g, gi, gt, c, ci, ct, rfl, h1, h2, h3, h4, h5, h6, h7⟩ := h
      have row : ∀ g c (I : List Tm), RowK P (KIn P w d) w g c I → RowK (fun x => P x ∧ x < w.heap.size) (KIn (fun x => P x ∧ x < w.heap.size) w d) w g c I := by
        intro g c I ⟨r1, r2, r3, r4, r5, r6⟩
        refine ⟨⟨r1, r2⟩, r2, r3, r4, fun i hi => ?_, r6⟩
        obtain ⟨cs, k1, k2, k3⟩ := r5 i hi
        exact ⟨cs, k1, k2, ih _ _ k3⟩
      refine ⟨g, gi, gt, c, ci, ct, rfl, ⟨h1, ?_⟩, h2, h3, h4, h5, row gi ci I h6, row gt ct T h7⟩
      rcases h2 with h2 | ⟨b, o, e, hlt, _⟩
      · have : (L ++ marks).length = 0 := by rw [h2]; rfl
        rw [List.length_append] at this
        have m12 : marks.length = 12 := rfl
        omega
      · cases e; exact hlt

/-- What LentTerm answers, as the drawn pair wants it. -/
def LentR (d : Nat) (t : Tm) (P : Nat → Prop) (X : Array Value) (w : World) : Prop := ∃ cs : List Value, X = cs.toArray ∧ KIn P w d cs t
theorem LentR.stay {d : Nat} {t : Tm} (PX : Nat → Prop) (X : Array Value) (w w' : World) (U : List Nat) (h : LentR d t PX X w) (hu : Upd U w w') (hP : ∀ z, PX z → z ∉ U) : LentR d t PX X w' := by
  obtain ⟨cs, e, hK⟩ := h
  exact ⟨cs, e, KIn.keep hu hP (fun _ hx => hx) d cs t hK⟩
theorem LentR.call {d : Nat} {t : Tm} {w0 : World} {cs : List Value} (h : In w0 d cs t) (hs : tsz t ≤ 1353245080330) (V : World) (hu : Upd [] w0 V) :
    Calls Tryz.prog 9 #[.agg cs.toArray] V fun e w' => ∃ u, e = .returned u ∧ Upd [] V w' ∧ ∃ X PX, u = .agg X ∧ X.size = 7 ∧ X.all (·.oneCell') = true ∧ LentR d t PX X w' ∧ ∀ z, PX z → V.heap.size ≤ z ∧ z < w'.heap.size := by
  refine (LentTerm_in d V cs t (In.mono hu d cs t h) hs).mono ?_
  rintro e w' ⟨hU, cs', h7, rfl, hK⟩
  refine ⟨_, rfl, hU, cs'.toArray, fun x => V.heap.size ≤ x ∧ x < w'.heap.size, rfl, by simpa using h7, ?_, ⟨cs', rfl, KIn.within d cs' t hK⟩, fun z hz => hz⟩
  obtain ⟨k, num, neg, s, a1, a2, a3, n1, n2, n3, c1, c2, c3, rfl⟩ := hK.shape
  simp [Value.oneCell']

set_option maxHeartbeats 16000000 in
set_option maxRecDepth 100000 in
theorem Orders_walk (W : World) (d : Nat) (t0 t1 : Tm) (n0 n1 c0 c1 : Nat) (a0 a1 : Option Addr) (q0 q1 q3 q4 q5 q6 p0 p1 p3 p4 p5 p6 : Value) (hG : Glb W) (iA : In W d [q0, q1, .slice a0 n0 c0, q3, q4, q5, q6] t0) (iB : In W d [p0, p1, .slice a1 n1 c1, p3, p4, p5, p6] t1) (z0 : tsz t0 ≤ 1353245080330) (z1 : tsz t1 ≤ 1353245080330) (y0 : xsz t0 ≤ 140737488355328) (y1 : xsz t1 ≤ 140737488355328) :
    Calls Tryz.prog 4 #[.agg #[q0, q1, .slice a0 n0 c0, q3, q4, q5, q6], .agg #[p0, p1, .slice a1 n1 c1, p3, p4, p5, p6]] W fun e w' => e = .returned (.bool true) ∧ Upd [] W w' := by
  have GR : Hid (∀ V g, Upd [] W V → Tb V g #[q0, q1, .slice a0 n0 c0, q3, q4, q5, q6, p0, p1, .slice a1 n1 c1, p3, p4, p5, p6] → Calls Tryz.prog 7 #[.slice (some ⟨g, 0, none⟩) 2 2] V fun e w' => GreatP [t0, t1] e ∧ Upd [] V w') := fun V g hu hT => greatX d V _ 2 [t0, t1] (row_two hT (In.mono hu _ _ _ iA) (In.mono hu _ _ _ iB)) (tszs_le _ _ (by simp) (fun i hi => by
    have : i = 0 ∨ i = 1 := by simp at hi; omega
    rcases this with rfl | rfl
    · exact z0
    · exact z1)) (xszs_le _ _ (fun i hi => by
    have : i = 0 ∨ i = 1 := by simp at hi; omega
    rcases this with rfl | rfl
    · exact y0
    · exact y1))
  have HI0 : Hid (In W d [q0, q1, .slice a0 n0 c0, q3, q4, q5, q6] t0) := iA
  have HI1 : Hid (In W d [p0, p1, .slice a1 n1 c1, p3, p4, p5, p6] t1) := iB
  have HZ0 : Hid (tsz t0 ≤ 1353245080330) := z0
  have HZ1 : Hid (tsz t1 ≤ 1353245080330) := z1
  have HG : Hid (Glb W) := hG
  obtain ⟨zc, hzc⟩ : ∃ z, cmpS t0 t1 = z := ⟨_, rfl⟩
  obtain ⟨sm, hsm⟩ : ∃ z, samS t0 t1 = z := ⟨_, rfl⟩
  have HZC : Hid (cmpS t0 t1 = zc) := hzc
  have HSM : Hid (samS t0 t1 = sm) := hsm
  have TA : Hid (Tb ((W.alloc (.cells #[q0, q1, .slice a0 n0 c0, q3, q4, q5, q6] 26)).alloc (.cells #[p0, p1, .slice a1 n1 c1, p3, p4, p5, p6] 26)) W.heap.size #[q0, q1, .slice a0 n0 c0, q3, q4, q5, q6]) := (Tb.new _ _ _ rfl).old _
  have TB : Hid (Tb ((W.alloc (.cells #[q0, q1, .slice a0 n0 c0, q3, q4, q5, q6] 26)).alloc (.cells #[p0, p1, .slice a1 n1 c1, p3, p4, p5, p6] 26)) (W.heap.size + 1) #[p0, p1, .slice a1 n1 c1, p3, p4, p5, p6]) := Tb.new _ _ _ (by simp)
  have HU0 : Hid (Upd [] W ((W.alloc (.cells #[q0, q1, .slice a0 n0 c0, q3, q4, q5, q6] 26)).alloc (.cells #[p0, p1, .slice a1 n1 c1, p3, p4, p5, p6] 26))) := ((Upd.refl [] W).alloc _).alloc _
  clear iA iB z0 z1 y0 y1 hG hzc hsm
  have A1 := TA.out
  have B1 := TB.out
  go_enter Tryz.func4, Tryz.ntmps4
  go_wp2_with (first | (refine load_G _ _ rfl _ _ rfl A1 rfl rfl ?_) | (refine load_G _ _ rfl _ _ rfl B1 rfl rfl ?_) | fail)
  refine Calls.mono (GR.out _ _ (HU0.out.alloc _) (Tb.new _ _ _ (by simp))) ?_
  rintro e w2 ⟨⟨gb, rfl, hcnt⟩, h2⟩
  have hv : Upd [] ((W.alloc (.cells #[q0, q1, .slice a0 n0 c0, q3, q4, q5, q6] 26)).alloc (.cells #[p0, p1, .slice a1 n1 c1, p3, p4, p5, p6] 26)) w2 := Upd.trans ((Upd.refl [] _).alloc _) h2
  have ta2 := A1.mono hv (by simp)
  have tb2 := B1.mono hv (by simp)
  have U2 : Hid (Upd [] W w2) := HU0.out.trans hv
  have HCT : Hid (gb = false → ∀ i (hi : i < [t0, t1].length), cntT [t0, t1][i] ≤ 6000) := hcnt
  clear hv h2 hcnt A1 B1 TA TB HU0 GR
  cases gb with
  | true =>
    go_wp2_with fail
    refine Calls.mono (awake_any _ (HG.out.mono U2.out)) ?_
    rintro e w3 ⟨rfl, h3⟩
    go_wp2
    go_ret
    exact ⟨rfl, U2.out.trans h3⟩
  | false =>
    have HC0 : Hid (cntT t0 ≤ 6000) := HCT.out rfl 0 (by simp)
    have HC1 : Hid (cntT t1 ≤ 6000) := HCT.out rfl 1 (by simp)
    clear HCT
    go_wp2_with fail
    refine two_region (by kernel_rfl) (by decide) rfl W.heap.size (W.heap.size + 1) #[q0, q1, .slice a0 n0 c0, q3, q4, q5, q6] #[p0, p1, .slice a1 n1 c1, p3, p4, p5, p6] rfl rfl ta2 tb2 rfl rfl Tryz.call9 Tryz.call9 (LentR d t0) (LentR d t1) LentR.stay LentR.stay (LentR.call (In.mono U2.out _ _ _ HI0.out) HZ0.out) (LentR.call (In.mono U2.out _ _ _ HI1.out) HZ1.out) ?_
    rintro g h X Y PX PY w4 hgh hg hh hX7 hY7 tx3 ty3 ⟨csx, rfl, kx⟩ ⟨csy, rfl, ky⟩ hw3
    simp only [Act.put, List.setIfInBounds_toArray, List.set_cons_succ, List.set_cons_zero]
    obtain ⟨x0, x1, x2, x3, x4, x5, x6, rfl⟩ := list7 (cs := csx) (by simpa using hX7)
    obtain ⟨y0, y1, y2, y3, y4, y5, y6, rfl⟩ := list7 (cs := csy) (by simpa using hY7)
    have HKx : Hid (KIn PX w4 d [x0, x1, x2, x3, x4, x5, x6] t0) := kx
    have HKy : Hid (KIn PY w4 d [y0, y1, y2, y3, y4, y5, y6] t1) := ky
    have ta4 := Tb.mono ta2 hw3 (by simp)
    have tb4 := Tb.mono tb2 hw3 (by simp)
    have U4 : Hid (Upd [] W w4) := Upd.trans (Hid.out U2) hw3
    clear ta2 tb2 U2 hw3 kx ky hX7 hY7 hgh hg hh
    have hne : Nonempty (Ext w4) := ⟨⟨w4, Upd.refl [] w4⟩⟩
    have cca0 : ∀ n : Ext w4, n.W.cell? ⟨W.heap.size, 0, none⟩ = some (q0) := fun n => n.cell (ta4.cell 0)
    have cca1 : ∀ n : Ext w4, n.W.cell? ⟨W.heap.size, 1, none⟩ = some (q1) := fun n => n.cell (ta4.cell 1)
    have cca2 : ∀ n : Ext w4, n.W.cell? ⟨W.heap.size, 2, none⟩ = some (.slice a0 n0 c0) := fun n => n.cell (ta4.cell 2)
    have cca3 : ∀ n : Ext w4, n.W.cell? ⟨W.heap.size, 3, none⟩ = some (q3) := fun n => n.cell (ta4.cell 3)
    have cca4 : ∀ n : Ext w4, n.W.cell? ⟨W.heap.size, 4, none⟩ = some (q4) := fun n => n.cell (ta4.cell 4)
    have cca5 : ∀ n : Ext w4, n.W.cell? ⟨W.heap.size, 5, none⟩ = some (q5) := fun n => n.cell (ta4.cell 5)
    have cca6 : ∀ n : Ext w4, n.W.cell? ⟨W.heap.size, 6, none⟩ = some (q6) := fun n => n.cell (ta4.cell 6)
    have ccb0 : ∀ n : Ext w4, n.W.cell? ⟨W.heap.size + 1, 0, none⟩ = some (p0) := fun n => n.cell (tb4.cell 0)
    have ccb1 : ∀ n : Ext w4, n.W.cell? ⟨W.heap.size + 1, 1, none⟩ = some (p1) := fun n => n.cell (tb4.cell 1)
    have ccb2 : ∀ n : Ext w4, n.W.cell? ⟨W.heap.size + 1, 2, none⟩ = some (.slice a1 n1 c1) := fun n => n.cell (tb4.cell 2)
    have ccb3 : ∀ n : Ext w4, n.W.cell? ⟨W.heap.size + 1, 3, none⟩ = some (p3) := fun n => n.cell (tb4.cell 3)
    have ccb4 : ∀ n : Ext w4, n.W.cell? ⟨W.heap.size + 1, 4, none⟩ = some (p4) := fun n => n.cell (tb4.cell 4)
    have ccb5 : ∀ n : Ext w4, n.W.cell? ⟨W.heap.size + 1, 5, none⟩ = some (p5) := fun n => n.cell (tb4.cell 5)
    have ccb6 : ∀ n : Ext w4, n.W.cell? ⟨W.heap.size + 1, 6, none⟩ = some (p6) := fun n => n.cell (tb4.cell 6)
    have ccx0 : ∀ n : Ext w4, n.W.cell? ⟨g, 0, none⟩ = some (x0) := fun n => n.cell (tx3.cell 0)
    have ccx1 : ∀ n : Ext w4, n.W.cell? ⟨g, 1, none⟩ = some (x1) := fun n => n.cell (tx3.cell 1)
    have ccx2 : ∀ n : Ext w4, n.W.cell? ⟨g, 2, none⟩ = some (x2) := fun n => n.cell (tx3.cell 2)
    have ccx3 : ∀ n : Ext w4, n.W.cell? ⟨g, 3, none⟩ = some (x3) := fun n => n.cell (tx3.cell 3)
    have ccx4 : ∀ n : Ext w4, n.W.cell? ⟨g, 4, none⟩ = some (x4) := fun n => n.cell (tx3.cell 4)
    have ccx5 : ∀ n : Ext w4, n.W.cell? ⟨g, 5, none⟩ = some (x5) := fun n => n.cell (tx3.cell 5)
    have ccx6 : ∀ n : Ext w4, n.W.cell? ⟨g, 6, none⟩ = some (x6) := fun n => n.cell (tx3.cell 6)
    have ccy0 : ∀ n : Ext w4, n.W.cell? ⟨h, 0, none⟩ = some (y0) := fun n => n.cell (ty3.cell 0)
    have ccy1 : ∀ n : Ext w4, n.W.cell? ⟨h, 1, none⟩ = some (y1) := fun n => n.cell (ty3.cell 1)
    have ccy2 : ∀ n : Ext w4, n.W.cell? ⟨h, 2, none⟩ = some (y2) := fun n => n.cell (ty3.cell 2)
    have ccy3 : ∀ n : Ext w4, n.W.cell? ⟨h, 3, none⟩ = some (y3) := fun n => n.cell (ty3.cell 3)
    have ccy4 : ∀ n : Ext w4, n.W.cell? ⟨h, 4, none⟩ = some (y4) := fun n => n.cell (ty3.cell 4)
    have ccy5 : ∀ n : Ext w4, n.W.cell? ⟨h, 5, none⟩ = some (y5) := fun n => n.cell (ty3.cell 5)
    have ccy6 : ∀ n : Ext w4, n.W.cell? ⟨h, 6, none⟩ = some (y6) := fun n => n.cell (ty3.cell 6)
    have KX : Hid (∀ n : Ext w4, In n.W d [x0, x1, x2, x3, x4, x5, x6] t0) := fun n => KIn.plain _ _ _ (KIn.keep n.h (fun x _ => by simp) (fun x hx => hx) _ _ _ HKx.out)
    have KY : Hid (∀ n : Ext w4, In n.W d [y0, y1, y2, y3, y4, y5, y6] t1) := fun n => KIn.plain _ _ _ (KIn.keep n.h (fun x _ => by simp) (fun x hx => hx) _ _ _ HKy.out)
    have H1 : Hid (∀ n : Ext w4, Calls Tryz.prog 21 #[.agg #[x0, x1, x2, x3, x4, x5, x6], .agg #[y0, y1, y2, y3, y4, y5, y6]] n.W fun e w' => e = .returned (.int .i64 zc) ∧ Upd [] n.W w') := fun n => by rw [← HZC.out]; exact TCompare_in d n.W _ _ t0 t1 (KX.out n) (KY.out n) HZ0.out HZ1.out
    have H2 : Hid (∀ n : Ext w4, Calls Tryz.prog 22 #[.agg #[q0, q1, .slice a0 n0 c0, q3, q4, q5, q6], .agg #[p0, p1, .slice a1 n1 c1, p3, p4, p5, p6]] n.W fun e w' => e = .returned (.int .i64 zc) ∧ Upd [] n.W w') := fun n => by rw [← HZC.out]; exact Compare2_in d n.W _ _ t0 t1 (In.mono (U4.out.trans n.h) _ _ _ HI0.out) (In.mono (U4.out.trans n.h) _ _ _ HI1.out) HZ0.out HZ1.out HC0.out HC1.out
    have H3 : Hid (∀ n : Ext w4, Calls Tryz.prog 23 #[.agg #[x0, x1, x2, x3, x4, x5, x6], .agg #[y0, y1, y2, y3, y4, y5, y6]] n.W fun e w' => e = .returned (.bool sm) ∧ Upd [] n.W w') := fun n => by rw [← HSM.out]; exact TSame_in d n.W _ _ t0 t1 (KX.out n) (KY.out n) HZ0.out HZ1.out
    have H4 : Hid (∀ n : Ext w4, Calls Tryz.prog 24 #[.agg #[q0, q1, .slice a0 n0 c0, q3, q4, q5, q6], .agg #[p0, p1, .slice a1 n1 c1, p3, p4, p5, p6]] n.W fun e w' => e = .returned (.bool sm) ∧ Upd [] n.W w') := fun n => by rw [← HSM.out]; exact Same2_in d n.W _ _ t0 t1 (In.mono (U4.out.trans n.h) _ _ _ HI0.out) (In.mono (U4.out.trans n.h) _ _ _ HI1.out) HZ0.out HZ1.out HC0.out HC1.out
    have H5 : Hid (∀ n : Ext w4, Calls Tryz.prog 14 #[.agg #[x0, x1, x2, x3, x4, x5, x6], .agg #[q0, q1, .slice a0 n0 c0, q3, q4, q5, q6]] n.W fun e w' => e = .returned (.bool true) ∧ Upd [] n.W w') := fun n => KeptTerm_in d n.W _ _ t0 PX (KIn.keep n.h (fun x _ => by simp) (fun x hx => hx) _ _ _ HKx.out) (In.mono (U4.out.trans n.h) _ _ _ HI0.out) HZ0.out
    have H6 : Hid (∀ n : Ext w4, Calls Tryz.prog 14 #[.agg #[y0, y1, y2, y3, y4, y5, y6], .agg #[p0, p1, .slice a1 n1 c1, p3, p4, p5, p6]] n.W fun e w' => e = .returned (.bool true) ∧ Upd [] n.W w') := fun n => KeptTerm_in d n.W _ _ t1 PY (KIn.keep n.h (fun x _ => by simp) (fun x hx => hx) _ _ _ HKy.out) (In.mono (U4.out.trans n.h) _ _ _ HI1.out) HZ1.out
    have H7 : Hid (∀ n : Ext w4, Calls Tryz.prog 8 #[] n.W fun e w' => e = .returned (.bool true) ∧ Upd [] n.W w') := fun n => awake_any _ (HG.out.mono (U4.out.trans n.h))
    clear ta4 tb4 tx3 ty3 KX KY
    go_wp2_with fail
    refine wp_region_ext (by kernel_rfl) (by kernel_rfl) ?_
    repeat (go_big_quiet_step (first | (go_at_call 21; exact Ext.call (H1.out _)) | (go_at_call 22; exact Ext.call (H2.out _)) | (go_at_call 23; exact Ext.call (H3.out _)) | (go_at_call 24; exact Ext.call (H4.out _)) | (go_at_call_of 14 (Value.slice a0 n0 c0); exact Ext.call (H5.out _)) | (go_at_call_of 14 (Value.slice a1 n1 c1); exact Ext.call (H6.out _)) | (go_at_call 8; exact Ext.call (H7.out _))))
    refine wpQuiet_nil ?_
    intro _ hw'
    obtain ⟨nx, hw''⟩ := hw'
    subst hw''
    go_wp2
    go_ret
    exact ⟨rfl, U4.out.trans nx.h⟩

end Go.Proofs.YtaoipmmeialpnaaGreatDoor

/- A term that came in, opened to its depth. -/
namespace Go.Proofs.YtaoipmmeialpnaaGreatDoor
open Go.ChangeShapes Go.WideShapes Go.ChangeAt Go.RowKit Go.Joins

theorem exists_list {P : Nat → Tm → Prop} : ∀ n, (∀ i, i < n → ∃ t, P i t) → ∃ I : List Tm, I.length = n ∧ ∀ i (hi : i < I.length), P i I[i] := by
  intro n
  induction n with
  | zero => intro _; exact ⟨[], rfl, fun i hi => by simp at hi⟩
  | succ n ih =>
    intro h
    obtain ⟨I, h1, h2⟩ := ih (fun i hi => h i (by omega))
    obtain ⟨t, ht⟩ := h n (by omega)
    refine ⟨I ++ [t], by simp [h1], fun i hi => ?_⟩
    by_cases hin : i < I.length
    · rw [List.getElem_append_left hin]; exact h2 i hin
    · have e : i = n := by simp at hi; omega
      subst e
      rw [List.getElem_append_right (by omega)]
      simp [h1]
      exact ht
theorem weights_all {H : Type} {P : Program} {e : TypeId} {l : List (DataW H)} {i : Nat} (hi : i < l.length) : ∀ n ∈ DataW.weights P e l[i], n ∈ DataW.weightsAll P e l := by
  induction l generalizing i with
  | nil => simp at hi
  | cons x r ih =>
    intro n hn
    simp only [DataW.weightsAll, List.mem_append]
    cases i with
    | zero => exact Or.inl hn
    | succ i => exact Or.inr (ih (by simpa using hi) n hn)
theorem bytes_u32 : Tryz.prog.bytesOf 48 = 4 := by kernel_rfl
theorem bytes_term : Tryz.prog.bytesOf 26 = 104 := by kernel_rfl

/-- The limbs that came in. -/
theorem limbs_open {H : Type} {enc : TypeId × Value → H} {W : World} {n : Nat} {v : Value} {y : DataW H × List MemPlace} (h : DataW.trod enc Tryz.prog W 0 (fun _ => true) true n 23 [v] = some y) (hw : ∀ n ∈ DataW.weights Tryz.prog 23 y.1, n ≤ reachBytes) :
    ∃ (a : Option Addr) (L : List Nat) (c : Nat), v = .slice a L.length c ∧ At W a L ∧ Dig L ∧ L.length / 26 ≤ 1353245080330 := by
  have hb : ∀ a len cap, v = .slice (some a) len cap → len ≤ 35184372087808 := by
    intro a len cap hv
    rcases DataW.trod_slice Tryz.underlying23 h with ⟨hcs, _⟩ | ⟨a', len', cap', elems, rest, m, _, hcs, rfl, _, _, _, he, _⟩
    · rw [hv] at hcs; simp at hcs
    · rw [hv] at hcs
      simp only [List.cons.injEq, Value.slice.injEq, and_true] at hcs
      have := hw ((elems.length + rest.length) * 4) (by simp [DataW.weights, Tryz.underlying23, bytes_u32])
      unfold reachBytes at this
      omega
  rcases open_ints Tryz.underlying23 Tryz.underlying48 cells_u32 h with ⟨hcs, _⟩ | ⟨a, len, cap, zs, hcs, _, hl, hm, hz, hx2, hcell, hwz⟩
  · simp only [List.cons.injEq, and_true] at hcs
    subst hcs
    exact ⟨none, [], 0, rfl, At.nil _ _, Dig.nil, by simp⟩
  · simp only [List.cons.injEq, and_true] at hcs
    have hbl := hb a len cap hcs
    subst hcs
    simp only [if_true] at hz
    have hwf : ∀ z ∈ zs, 0 ≤ z ∧ z < 4294967296 := fun z hz => by
      have := bounds_u32 (hwz z hz); omega
    have hlen2 : ((zs.take len).map Int.toNat).length = len := by simp; omega
    refine ⟨some a, (zs.take len).map Int.toNat, cap, by rw [hlen2], ?_, ?_, by rw [hlen2]; omega⟩
    · by_cases h0 : len = 0
      · exact Or.inl (by subst h0; simp)
      · obtain ⟨b, off, spot⟩ := a
        have hspot : spot = none := by simpa [Addr.add] using World.cell?_spot (hcell 0 (by omega))
        subst hspot
        refine Or.inr ⟨b, off, rfl, ?_, fun i hi => ?_⟩
        · have := World.block_lt_of_cell? _ _ (hcell 0 (by omega))
          simpa [Addr.add] using this
        · rw [hlen2] at hi
          have h1 := hcell i (by omega)
          rw [Addr.add_lit] at h1
          rw [h1]
          have h2 : i < zs.length := by omega
          have h3 := hwf zs[i] (List.getElem_mem h2)
          simp [List.getD, hi, h2]
          omega
    · intro z hz2
      obtain ⟨y, hy, rfl⟩ := List.mem_map.1 hz2
      have := hwf y (List.mem_of_mem_take hy)
      omega

/-- A row of terms that came in, if each of them is opened. -/
theorem row_open {H : Type} {enc : TypeId × Value → H} {W : World} {n : Nat} {v : Value} {y : DataW H × List MemPlace}
    (ih : ∀ m, m < n → ∀ cs x, DataW.trod enc Tryz.prog W 0 (fun _ => true) true m 26 cs = some x → (∀ n ∈ DataW.weights Tryz.prog 26 x.1, n ≤ reachBytes) → ∃ t, In W m cs t ∧ tsz t ≤ 1353245080330)
    (h : DataW.trod enc Tryz.prog W 0 (fun _ => true) true n 24 [v] = some y) (hw : ∀ n ∈ DataW.weights Tryz.prog 24 y.1, n ≤ reachBytes) :
    ∃ (a : Option Addr) (I : List Tm) (c : Nat), v = .slice a I.length c ∧ RowAt (In W n) W a I ∧ tszs I ≤ 1353245080330 := by
  rcases DataW.trod_slice Tryz.underlying24 h with ⟨hcs, _⟩ | ⟨a, len, cap, elems, rest, m, hm, hcs, rfl, hb, hl, hmx, hlen, hel, _, _⟩
  · simp only [List.cons.injEq, and_true] at hcs
    subst hcs
    exact ⟨none, [], 0, rfl, Or.inl rfl, by simp [tszs]⟩
  · simp only [List.cons.injEq, and_true] at hcs
    subst hcs
    rw [cells_term] at hel
    have hw0 := hw ((elems.length + rest.length) * 104) (by simp [DataW.weights, Tryz.underlying24, bytes_term])
    unfold reachBytes at hw0
    have hex : ∀ i, i < len → ∃ t, ∃ cs : List Value, cs.length = 7 ∧ (∀ j, j < 7 → W.cell? ((a.add (i * 7)).add j) = cs[j]?) ∧ In W m cs t ∧ tsz t ≤ 1353245080330 := by
      intro i hi
      have h1 := hel i hi
      have hie : i < elems.length := by omega
      rw [List.getElem?_eq_getElem hie] at h1
      obtain ⟨cs, h2, h3⟩ := Option.bind_eq_some_iff.1 h1
      obtain ⟨_, h4, h5⟩ := World.cells?_some h2
      have hwi : ∀ n ∈ DataW.weights Tryz.prog 26 ((elems.map (·.1))[i]'(by simpa using hie)), n ≤ reachBytes := fun n hn => hw n (by
        have := weights_all (P := Tryz.prog) (e := 26) (l := elems.map (·.1)) (i := i) (by simpa using hie) n hn
        simp [DataW.weights, Tryz.underlying24, this])
      rw [List.getElem_map] at hwi
      obtain ⟨t, h6, h7⟩ := ih m (by omega) cs _ h3 hwi
      exact ⟨t, cs, h4, h5, h6, h7⟩
    obtain ⟨I, hI, hP⟩ := exists_list len hex
    refine ⟨some a, I, cap, by rw [hI], ?_, ?_⟩
    · by_cases h0 : len = 0
      · exact Or.inl (List.eq_nil_of_length_eq_zero (by omega))
      · obtain ⟨cs0, hc1, hc2, hc3, _⟩ := hP 0 (by omega)
        obtain ⟨b, off, spot⟩ := a
        have hsome : ∃ u, W.cell? (((⟨b, off, spot⟩ : Addr).add (0 * 7)).add 0) = some u := by
          rw [hc2 0 (by omega)]
          exact ⟨cs0[0], List.getElem?_eq_getElem (by omega)⟩
        obtain ⟨u, hu⟩ := hsome
        have hspot : spot = none := by simpa [Addr.add] using World.cell?_spot hu
        subst hspot
        have hlt := World.block_lt_of_cell? _ _ hu
        refine Or.inr ⟨b, off, rfl, by simpa [Addr.add] using hlt, fun i hi => ?_⟩
        obtain ⟨cs, h1, h2, h3, _⟩ := hP i hi
        refine ⟨cs, h1, fun j hj => ?_, ?_⟩
        · have := h2 j hj
          rw [Addr.add_lit, Addr.add_lit] at this
          rw [← this, Nat.add_assoc]
        · rw [hm]; exact In.more m cs _ h3
    · refine tszs_le _ I (by omega) (fun i hi => ?_)
      obtain ⟨cs, _, _, _, h4⟩ := hP i hi
      exact h4

set_option maxRecDepth 100000 in
/-- A term that came in, to its depth. -/
theorem in_open {H : Type} {enc : TypeId × Value → H} {W : World} : ∀ (fuel : Nat) (cs : List Value) (x : DataW H × List MemPlace), DataW.trod enc Tryz.prog W 0 (fun _ => true) true fuel 26 cs = some x → (∀ n ∈ DataW.weights Tryz.prog 26 x.1, n ≤ reachBytes) → ∃ t, In W fuel cs t ∧ tsz t ≤ 1353245080330 := by
  intro fuel
  induction fuel using Nat.strongRecOn with
  | ind fuel ih =>
    intro cs x h hw
    obtain ⟨xs, n, hn, hx, hcl, hlen, hfs⟩ := DataW.trod_struct Tryz.underlying26 h
    obtain ⟨c0, c1, c2, c3, c4, c5, c6, hcs⟩ := array7 (cs := cs.toArray) (by simpa using hcl.trans cells_term)
    have hcs2 : cs = [c0, c1, c2, c3, c4, c5, c6] := by have := congrArg Array.toList hcs; simpa using this
    subst hcs2
    have f0 : DataW.trod enc Tryz.prog W 0 (fun _ => true) true n 22 (List.take (Tryz.prog.cellsOf 22) (List.drop 0 [c0, c1, c2, c3, c4, c5, c6])) = xs[0]? := hfs 0 _ rfl
    have f1 : DataW.trod enc Tryz.prog W 0 (fun _ => true) true n 4 (List.take (Tryz.prog.cellsOf 4) (List.drop 1 [c0, c1, c2, c3, c4, c5, c6])) = xs[1]? := hfs 1 _ rfl
    have f2 : DataW.trod enc Tryz.prog W 0 (fun _ => true) true n 23 (List.take (Tryz.prog.cellsOf 23) (List.drop 2 [c0, c1, c2, c3, c4, c5, c6])) = xs[2]? := hfs 2 _ rfl
    have f3 : DataW.trod enc Tryz.prog W 0 (fun _ => true) true n 9 (List.take (Tryz.prog.cellsOf 9) (List.drop 3 [c0, c1, c2, c3, c4, c5, c6])) = xs[3]? := hfs 3 _ rfl
    have f4 : DataW.trod enc Tryz.prog W 0 (fun _ => true) true n 3 (List.take (Tryz.prog.cellsOf 3) (List.drop 4 [c0, c1, c2, c3, c4, c5, c6])) = xs[4]? := hfs 4 _ rfl
    have f5 : DataW.trod enc Tryz.prog W 0 (fun _ => true) true n 24 (List.take (Tryz.prog.cellsOf 24) (List.drop 5 [c0, c1, c2, c3, c4, c5, c6])) = xs[5]? := hfs 5 _ rfl
    have f6 : DataW.trod enc Tryz.prog W 0 (fun _ => true) true n 24 (List.take (Tryz.prog.cellsOf 24) (List.drop 6 [c0, c1, c2, c3, c4, c5, c6])) = xs[6]? := hfs 6 _ rfl
    have hl7 : xs.length = 7 := hlen
    simp only [cells_kind, cells_bool, cells_u32s, cells_str, cells_int, cells_terms, List.drop_succ_cons, List.drop_zero, List.take_succ_cons, List.take_zero] at f0 f1 f2 f3 f4 f5 f6
    match xs, hl7 with
    | [x0, x1, x2, x3, x4, x5, x6], _ =>
      simp only [List.getElem?_cons_zero, List.getElem?_cons_succ] at f0 f1 f2 f3 f4 f5 f6
      have hw2 : ∀ (j : Nat) (t : TypeId) (d : DataW H), [22, 4, 23, 9, 3, 24, 24][j]? = some t → ([x0, x1, x2, x3, x4, x5, x6].map (·.1))[j]? = some d → ∀ n ∈ DataW.weights Tryz.prog t d, n ≤ reachBytes := fun j t d ht hd n hn => hw n (by
        rw [hx]
        have := DataW.weights_mem_each (P := Tryz.prog) ht hd n hn
        simpa [DataW.weights, Tryz.underlying26] using this)
      obtain ⟨k, e0, _, _⟩ := DataW.trod_int Tryz.underlying22 f0
      obtain ⟨neg, e1, _⟩ := DataW.trod_bool Tryz.underlying4 f1
      obtain ⟨s, e3, _, _⟩ := DataW.trod_string Tryz.underlying9 f3
      obtain ⟨num, e4, _, _⟩ := DataW.trod_int Tryz.underlying3 f4
      obtain ⟨a, L, c, e2, hA, hD, hL⟩ := limbs_open f2 (hw2 2 _ _ rfl rfl)
      obtain ⟨ai, I, ci, e5, hI, hIs⟩ := row_open (fun m hm cs x hx => ih m (by omega) cs x hx) f5 (hw2 5 _ _ rfl rfl)
      obtain ⟨at', T, ct, e6, hT, hTs⟩ := row_open (fun m hm cs x hx => ih m (by omega) cs x hx) f6 (hw2 6 _ _ rfl rfl)
      simp only [List.cons.injEq, and_true] at e0 e1 e3 e4
      subst e0 e1 e2 e3 e4 e5 e6 hn
      refine ⟨.mk k num neg L s I T, ⟨a, ai, at', c, ci, ct, rfl, hA, hD, hI, hT⟩, ?_⟩
      simp only [tsz]
      omega

end Go.Proofs.YtaoipmmeialpnaaGreatDoor

/- A term that came in, to its depth: its texts too. -/
namespace Go.Proofs.YtaoipmmeialpnaaGreatDoor
open Go.ChangeShapes Go.WideShapes Go.ChangeAt Go.RowKit Go.Joins

/-- A row of terms that came in, if each of them is opened. -/
theorem row_openX {H : Type} {enc : TypeId × Value → H} {W : World} {n : Nat} {v : Value} {y : DataW H × List MemPlace}
    (ih : ∀ m, m < n → ∀ cs x, DataW.trod enc Tryz.prog W 0 (fun _ => true) true m 26 cs = some x → (∀ n ∈ DataW.weights Tryz.prog 26 x.1, n ≤ reachBytes) → ∃ t, In W m cs t ∧ tsz t ≤ 1353245080330 ∧ xsz t ≤ 140737488355328)
    (h : DataW.trod enc Tryz.prog W 0 (fun _ => true) true n 24 [v] = some y) (hw : ∀ n ∈ DataW.weights Tryz.prog 24 y.1, n ≤ reachBytes) :
    ∃ (a : Option Addr) (I : List Tm) (c : Nat), v = .slice a I.length c ∧ RowAt (In W n) W a I ∧ tszs I ≤ 1353245080330 ∧ xszs I ≤ 140737488355328 := by
  rcases DataW.trod_slice Tryz.underlying24 h with ⟨hcs, _⟩ | ⟨a, len, cap, elems, rest, m, hm, hcs, rfl, hb, hl, hmx, hlen, hel, _, _⟩
  · simp only [List.cons.injEq, and_true] at hcs
    subst hcs
    exact ⟨none, [], 0, rfl, Or.inl rfl, by simp [tszs], by simp [xszs]⟩
  · simp only [List.cons.injEq, and_true] at hcs
    subst hcs
    rw [cells_term] at hel
    have hw0 := hw ((elems.length + rest.length) * 104) (by simp [DataW.weights, Tryz.underlying24, bytes_term])
    unfold reachBytes at hw0
    have hex : ∀ i, i < len → ∃ t, ∃ cs : List Value, cs.length = 7 ∧ (∀ j, j < 7 → W.cell? ((a.add (i * 7)).add j) = cs[j]?) ∧ In W m cs t ∧ tsz t ≤ 1353245080330 ∧ xsz t ≤ 140737488355328 := by
      intro i hi
      have h1 := hel i hi
      have hie : i < elems.length := by omega
      rw [List.getElem?_eq_getElem hie] at h1
      obtain ⟨cs, h2, h3⟩ := Option.bind_eq_some_iff.1 h1
      obtain ⟨_, h4, h5⟩ := World.cells?_some h2
      have hwi : ∀ n ∈ DataW.weights Tryz.prog 26 ((elems.map (·.1))[i]'(by simpa using hie)), n ≤ reachBytes := fun n hn => hw n (by
        have := weights_all (P := Tryz.prog) (e := 26) (l := elems.map (·.1)) (i := i) (by simpa using hie) n hn
        simp [DataW.weights, Tryz.underlying24, this])
      rw [List.getElem_map] at hwi
      obtain ⟨t, h6, h7⟩ := ih m (by omega) cs _ h3 hwi
      exact ⟨t, cs, h4, h5, h6, h7⟩
    obtain ⟨I, hI, hP⟩ := exists_list len hex
    refine ⟨some a, I, cap, by rw [hI], ?_, ?_, ?_⟩
    · by_cases h0 : len = 0
      · exact Or.inl (List.eq_nil_of_length_eq_zero (by omega))
      · obtain ⟨cs0, hc1, hc2, hc3, _⟩ := hP 0 (by omega)
        obtain ⟨b, off, spot⟩ := a
        have hsome : ∃ u, W.cell? (((⟨b, off, spot⟩ : Addr).add (0 * 7)).add 0) = some u := by
          rw [hc2 0 (by omega)]
          exact ⟨cs0[0], List.getElem?_eq_getElem (by omega)⟩
        obtain ⟨u, hu⟩ := hsome
        have hspot : spot = none := by simpa [Addr.add] using World.cell?_spot hu
        subst hspot
        have hlt := World.block_lt_of_cell? _ _ hu
        refine Or.inr ⟨b, off, rfl, by simpa [Addr.add] using hlt, fun i hi => ?_⟩
        obtain ⟨cs, h1, h2, h3, _⟩ := hP i hi
        refine ⟨cs, h1, fun j hj => ?_, ?_⟩
        · have := h2 j hj
          rw [Addr.add_lit, Addr.add_lit] at this
          rw [← this, Nat.add_assoc]
        · rw [hm]; exact In.more m cs _ h3
    · refine tszs_le _ I (by omega) (fun i hi => ?_)
      obtain ⟨cs, _, _, _, h4, _⟩ := hP i hi
      exact h4
    · refine xszs_le _ I (fun i hi => ?_)
      obtain ⟨cs, _, _, _, _, h4⟩ := hP i hi
      exact h4

set_option maxRecDepth 100000 in
/-- A term that came in, to its depth. -/
theorem in_openX {H : Type} {enc : TypeId × Value → H} {W : World} : ∀ (fuel : Nat) (cs : List Value) (x : DataW H × List MemPlace), DataW.trod enc Tryz.prog W 0 (fun _ => true) true fuel 26 cs = some x → (∀ n ∈ DataW.weights Tryz.prog 26 x.1, n ≤ reachBytes) → ∃ t, In W fuel cs t ∧ tsz t ≤ 1353245080330 ∧ xsz t ≤ 140737488355328 := by
  intro fuel
  induction fuel using Nat.strongRecOn with
  | ind fuel ih =>
    intro cs x h hw
    obtain ⟨xs, n, hn, hx, hcl, hlen, hfs⟩ := DataW.trod_struct Tryz.underlying26 h
    obtain ⟨c0, c1, c2, c3, c4, c5, c6, hcs⟩ := array7 (cs := cs.toArray) (by simpa using hcl.trans cells_term)
    have hcs2 : cs = [c0, c1, c2, c3, c4, c5, c6] := by have := congrArg Array.toList hcs; simpa using this
    subst hcs2
    have f0 : DataW.trod enc Tryz.prog W 0 (fun _ => true) true n 22 (List.take (Tryz.prog.cellsOf 22) (List.drop 0 [c0, c1, c2, c3, c4, c5, c6])) = xs[0]? := hfs 0 _ rfl
    have f1 : DataW.trod enc Tryz.prog W 0 (fun _ => true) true n 4 (List.take (Tryz.prog.cellsOf 4) (List.drop 1 [c0, c1, c2, c3, c4, c5, c6])) = xs[1]? := hfs 1 _ rfl
    have f2 : DataW.trod enc Tryz.prog W 0 (fun _ => true) true n 23 (List.take (Tryz.prog.cellsOf 23) (List.drop 2 [c0, c1, c2, c3, c4, c5, c6])) = xs[2]? := hfs 2 _ rfl
    have f3 : DataW.trod enc Tryz.prog W 0 (fun _ => true) true n 9 (List.take (Tryz.prog.cellsOf 9) (List.drop 3 [c0, c1, c2, c3, c4, c5, c6])) = xs[3]? := hfs 3 _ rfl
    have f4 : DataW.trod enc Tryz.prog W 0 (fun _ => true) true n 3 (List.take (Tryz.prog.cellsOf 3) (List.drop 4 [c0, c1, c2, c3, c4, c5, c6])) = xs[4]? := hfs 4 _ rfl
    have f5 : DataW.trod enc Tryz.prog W 0 (fun _ => true) true n 24 (List.take (Tryz.prog.cellsOf 24) (List.drop 5 [c0, c1, c2, c3, c4, c5, c6])) = xs[5]? := hfs 5 _ rfl
    have f6 : DataW.trod enc Tryz.prog W 0 (fun _ => true) true n 24 (List.take (Tryz.prog.cellsOf 24) (List.drop 6 [c0, c1, c2, c3, c4, c5, c6])) = xs[6]? := hfs 6 _ rfl
    have hl7 : xs.length = 7 := hlen
    simp only [cells_kind, cells_bool, cells_u32s, cells_str, cells_int, cells_terms, List.drop_succ_cons, List.drop_zero, List.take_succ_cons, List.take_zero] at f0 f1 f2 f3 f4 f5 f6
    match xs, hl7 with
    | [x0, x1, x2, x3, x4, x5, x6], _ =>
      simp only [List.getElem?_cons_zero, List.getElem?_cons_succ] at f0 f1 f2 f3 f4 f5 f6
      have hw2 : ∀ (j : Nat) (t : TypeId) (d : DataW H), [22, 4, 23, 9, 3, 24, 24][j]? = some t → ([x0, x1, x2, x3, x4, x5, x6].map (·.1))[j]? = some d → ∀ n ∈ DataW.weights Tryz.prog t d, n ≤ reachBytes := fun j t d ht hd n hn => hw n (by
        rw [hx]
        have := DataW.weights_mem_each (P := Tryz.prog) ht hd n hn
        simpa [DataW.weights, Tryz.underlying26] using this)
      obtain ⟨k, e0, _, _⟩ := DataW.trod_int Tryz.underlying22 f0
      obtain ⟨neg, e1, _⟩ := DataW.trod_bool Tryz.underlying4 f1
      obtain ⟨s, e3, e3', _⟩ := DataW.trod_string Tryz.underlying9 f3
      have hss : s.size ≤ 140737488355328 := by
        have := hw2 3 _ _ rfl rfl s.size (by rw [e3']; simp [DataW.weights])
        unfold reachBytes at this
        omega
      obtain ⟨num, e4, _, _⟩ := DataW.trod_int Tryz.underlying3 f4
      obtain ⟨a, L, c, e2, hA, hD, hL⟩ := limbs_open f2 (hw2 2 _ _ rfl rfl)
      obtain ⟨ai, I, ci, e5, hI, hIs, hIx⟩ := row_openX (fun m hm cs x hx => ih m (by omega) cs x hx) f5 (hw2 5 _ _ rfl rfl)
      obtain ⟨at', T, ct, e6, hT, hTs, hTx⟩ := row_openX (fun m hm cs x hx => ih m (by omega) cs x hx) f6 (hw2 6 _ _ rfl rfl)
      simp only [List.cons.injEq, and_true] at e0 e1 e3 e4
      subst e0 e1 e2 e3 e4 e5 e6 hn
      refine ⟨.mk k num neg L s I T, ⟨a, ai, at', c, ci, ct, rfl, hA, hD, hI, hT⟩, ?_, ?_⟩
      · simp only [tsz]
        omega
      · simp only [xsz]
        omega

end Go.Proofs.YtaoipmmeialpnaaGreatDoor
