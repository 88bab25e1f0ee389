/- NodeSames, walked. -/
import Derived.Test.YtejcppnleckmfaaDoorNsQ
import Derived.Test.YtejcppnleckmfaaDoorReg2S
namespace Go.Proofs.YtejcppnleckmfaaDoor
open Go.RowKit

mutual
theorem nsz_cnt : ∀ n : Nd, nsz n ≤ cntN n
  | .mk _ s _ _ K => by rw [nsz, cntN]; have := nsz_cntL K; omega
theorem nsz_cntL : ∀ K : List Nd, nszs K ≤ cntL K
  | [] => by simp [nszs, cntL]
  | n :: r => by
    rw [nszs, cntL]
    have h1 := nsz_cnt n
    have h2 := nsz_cntL r
    have h3 := man_pos n
    have h4 := man_cnt n
    have h5 : r.length ≤ cntL r := Nat.le_trans (nszs_len r) h2
    omega
end
/-- What is lent. -/
def LentR (d : Nat) (t : Nd) (PX : Nat → Prop) (X : Array Value) (w : World) : Prop := ∃ cs : List Value, X = cs.toArray ∧ NL w d cs t PX ∧ ∀ z, PX z → z < w.heap.size
theorem LentR.stay {d : Nat} {t : Nd} : ∀ PX X w w' U, LentR d t PX X w → Upd U w w' → (∀ z, PX z → z ∉ U) → LentR d t PX X w' := by
  rintro PX X w w' U ⟨cs, rfl, h1, h2⟩ hu hn
  exact ⟨cs, rfl, NL.upd hu _ _ _ _ hn h1, fun z hz => Nat.lt_of_lt_of_le (h2 z hz) hu.size⟩
theorem LentR.call {d : Nat} {t : Nd} {w0 : World} {cs : List Value} (h : NIn w0 d cs t) (hs : nsz t ≤ 20000) : ∀ V, Upd [] w0 V → Calls Tryd.prog 6 #[.agg cs.toArray] V fun e w' => ∃ u, e = .returned u ∧ Upd [] V w' ∧ ∃ X PX, u = .agg X ∧ X.size = 5 ∧ X.all (·.oneCell') = true ∧ LentR d t PX X w' ∧ ∀ z, PX z → V.heap.size ≤ z ∧ z < w'.heap.size := by
  intro V hu
  refine Calls.mono (LentNode_in d V cs t (NIn.mono hu _ _ _ h) hs) ?_
  rintro e w' ⟨hU, cs', h5, rfl, hN⟩
  exact ⟨_, rfl, hU, cs'.toArray, _, rfl, by simpa using h5, (NL.plain _ _ _ _ hN).one, ⟨cs', rfl, hN, fun z hz => hz.2⟩, fun z hz => hz⟩

set_option maxHeartbeats 4000000 in
set_option maxRecDepth 100000 in
theorem Sames_walk (A : Nat → Option Addr) (C : Nat → Nat) (d : Nat) (w : World) (cs0 : List Value) (t0 : Nd) (cs1 : List Value) (t1 : Nd) (h0 : NIn w d cs0 t0) (y0 : nsz t0 ≤ 2199023255488) (x0 : nxz t0 ≤ 140737488355328) (h1 : NIn w d cs1 t1) (y1 : nsz t1 ≤ 2199023255488) (x1 : nxz t1 ≤ 140737488355328) (hF : Frm A C w) (hO : Ops w) :
    Calls Tryd.prog 3 #[.agg cs0.toArray, .agg cs1.toArray] w fun e w' => e = .returned (.bool true) ∧ Upd [] w w' := by
  obtain ⟨q0, q1, q2, q3, q4, rfl⟩ := list5 h0.len
  obtain ⟨p0, p1, p2, p3, p4, rfl⟩ := list5 h1.len
  have HG0 : Hid (∀ W, Upd [] w W → Calls Tryd.prog 4 #[.agg #[q0, q1, q2, q3, q4]] W fun e w' => GreatP t0 e ∧ Upd [] W w') := fun W hu => great_in d W _ t0 (NIn.mono hu _ _ _ h0) y0 x0
  have HG1 : Hid (∀ W, Upd [] w W → Calls Tryd.prog 4 #[.agg #[p0, p1, p2, p3, p4]] W fun e w' => GreatP t1 e ∧ Upd [] W w') := fun W hu => great_in d W _ t1 (NIn.mono hu _ _ _ h1) y1 x1
  have HI0 : Hid (NIn w d [q0, q1, q2, q3, q4] t0) := h0
  have HI1 : Hid (NIn w d [p0, p1, p2, p3, p4] t1) := h1
  have HAW : Hid (∀ W, Upd [] w W → Calls Tryd.prog 5 #[] W fun e w' => e = .returned (.bool true) ∧ Upd [] W w') := fun W hu => awake_any A C W (hF.mono hu) (hO.mono hu)
  have u0 : Upd [] w ((w.alloc (.cells #[q0, q1, q2, q3, q4] 25)).alloc (.cells #[p0, p1, p2, p3, p4] 25)) := ((Upd.refl [] w).alloc _).alloc _
  have ta := (Tb.new w #[q0, q1, q2, q3, q4] _ rfl).old (.cells #[p0, p1, p2, p3, p4] 25)
  have tb := Tb.new (w.alloc (.cells #[q0, q1, q2, q3, q4] 25)) #[p0, p1, p2, p3, p4] (w.heap.size + 1) (by simp)
  clear h0 h1 y0 x0 y1 x1 hF hO
  go_enter Tryd.func3, Tryd.ntmps3
  go_wp2_with (first | (refine load_T _ rfl _ rfl _ _ rfl ta rfl ?_) | fail)
  refine Calls.mono (HG0.out _ u0) ?_
  rintro e w1 ⟨⟨b0, rfl, hb0⟩, hU1⟩
  have U1 : Hid (Upd [] w w1) := u0.trans hU1
  have ta1 := ta.mono hU1 (by simp)
  have tb1 := tb.mono hU1 (by simp)
  have HB0 : Hid (b0 = false → cntN t0 ≤ 20000) := hb0
  clear ta tb hU1 hb0 u0 HG0
  cases b0 with
  | true =>
    go_wp2_with fail
    refine Calls.mono (HAW.out _ U1.out) ?_
    rintro e w2 ⟨rfl, hU2⟩
    have U2 : Hid (Upd [] w w2) := U1.out.trans hU2
    clear hU2 ta1 tb1
    go_wp2
    go_ret
    exact ⟨rfl, U2.out⟩
  | false =>
  have hc0 := HB0.out rfl
  go_wp2_with (first | (refine load_G _ _ rfl _ _ rfl tb1 rfl rfl ?_) | fail)
  refine Calls.mono (HG1.out _ U1.out) ?_
  rintro e w2 ⟨⟨b1, rfl, hb1⟩, hU2⟩
  have U2 : Hid (Upd [] w w2) := U1.out.trans hU2
  have ta2 := ta1.mono hU2 (by simp)
  have tb2 := tb1.mono hU2 (by simp)
  have HB1 : Hid (b1 = false → cntN t1 ≤ 20000) := hb1
  clear ta1 tb1 hU2 hb1 U1 HG1
  cases b1 with
  | true =>
    go_wp2_with fail
    refine Calls.mono (HAW.out _ U2.out) ?_
    rintro e w3 ⟨rfl, hU3⟩
    have U3 : Hid (Upd [] w w3) := U2.out.trans hU3
    clear hU3 ta2 tb2
    go_wp2
    go_ret
    exact ⟨rfl, U3.out⟩
  | false =>
    have hc1 := HB1.out rfl
    have z0 : nsz t0 ≤ 20000 := Nat.le_trans (nsz_cnt t0) hc0
    have z1 : nsz t1 ≤ 20000 := Nat.le_trans (nsz_cnt t1) hc1
    have m0 : manN t0 ≤ 20000 := Nat.le_trans (man_cnt t0) hc0
    clear hc0 hc1 HB0 HB1
    go_wp2_with fail
    refine two_regionS (by kernel_rfl) (by decide) rfl w.heap.size (w.heap.size + 1) #[q0, q1, q2, q3, q4] #[p0, p1, p2, p3, p4] rfl rfl ta2 tb2 rfl rfl Tryd.call6 Tryd.call6 (LentR d t0) (LentR d t1) LentR.stay LentR.stay (LentR.call (NIn.mono U2.out _ _ _ HI0.out) z0) (LentR.call (NIn.mono U2.out _ _ _ HI1.out) z1) ?_
    rintro g h X Y PX PY w4 hgh hg hh hX5 hY5 tx ty ⟨csx, rfl, kx, lx⟩ ⟨csy, rfl, ky, ly⟩ hw3 hdis
    simp only [Act.put, List.setIfInBounds_toArray, List.set_cons_succ, List.set_cons_zero]
    obtain ⟨a0, a1, a2, a3, a4, rfl⟩ := list5 (cs := csx) (by simpa using hX5)
    obtain ⟨c0, c1, c2, c3, c4, rfl⟩ := list5 (cs := csy) (by simpa using hY5)
    have ta4 := Tb.mono ta2 hw3 (by simp)
    have tb4 := Tb.mono tb2 hw3 (by simp)
    have U4 : Upd [] w w4 := Upd.trans (Hid.out U2) hw3
    have HSM : Hid (∀ W, Upd [] w4 W → Calls Tryd.prog 7 #[.agg #[a0, a1, a2, a3, a4], .agg #[c0, c1, c2, c3, c4]] W fun e w' => e = .returned (.bool (samN t0 t1)) ∧ Upd [] W w') := fun W hu => Same_in d W [a0, a1, a2, a3, a4] [c0, c1, c2, c3, c4] t0 t1 PX PY (NL.upd hu _ _ _ _ (fun x _ => by simp) kx) (NL.upd hu _ _ _ _ (fun x _ => by simp) ky) (fun x hx => Nat.lt_of_lt_of_le (lx x hx) hu.size) (fun x hx => Nat.lt_of_lt_of_le (ly x hx) hu.size) hdis z0 z1 m0
    have HRS : Hid (∀ W, Upd [] w4 W → Calls Tryd.prog 8 #[.agg #[q0, q1, q2, q3, q4], .agg #[p0, p1, p2, p3, p4]] W fun e w' => e = .returned (.bool (samN t0 t1)) ∧ Upd [] W w') := fun W hu => RSam_all d W [q0, q1, q2, q3, q4] [p0, p1, p2, p3, p4] t0 t1 (NIn.mono (U4.trans hu) _ _ _ HI0.out) (NIn.mono (U4.trans hu) _ _ _ HI1.out) z0 z1
    have HKx : Hid (∀ W, Upd [] w4 W → Calls Tryd.prog 9 #[.agg #[a0, a1, a2, a3, a4], .agg #[q0, q1, q2, q3, q4]] W fun e w' => e = .returned (.bool true) ∧ Upd [] W w') := fun W hu => KeptNode_in d W [a0, a1, a2, a3, a4] [q0, q1, q2, q3, q4] t0 PX (NL.upd hu _ _ _ _ (fun x _ => by simp) kx) (NIn.mono (U4.trans hu) _ _ _ HI0.out) z0
    have HKy : Hid (∀ W, Upd [] w4 W → Calls Tryd.prog 9 #[.agg #[c0, c1, c2, c3, c4], .agg #[p0, p1, p2, p3, p4]] W fun e w' => e = .returned (.bool true) ∧ Upd [] W w') := fun W hu => KeptNode_in d W [c0, c1, c2, c3, c4] [p0, p1, p2, p3, p4] t1 PY (NL.upd hu _ _ _ _ (fun x _ => by simp) ky) (NIn.mono (U4.trans hu) _ _ _ HI1.out) z1
    have HU4 : Hid (Upd [] w w4) := U4
    obtain ⟨zz, hzz⟩ : ∃ z, z = samN t0 t1 := ⟨_, rfl⟩
    rw [← hzz] at HSM HRS
    clear hzz ta2 tb2 U2 hw3 kx ky lx ly hX5 hY5 hgh hg hh hdis U4 z0 z1 m0 HI0 HI1
    go_wp2_with fail
    refine wp_region_held_drew (S := fun W => Upd [] w4 W) (by kernel_rfl) (Upd.refl [] w4).drew (fun hS => ?_)
    refine wpAnyH_take (i := 0) (v := .agg #[a0, a1, a2, a3, a4]) rfl (by kernel_rfl) (by kernel_rfl) (by kernel_rfl) (fun _ _ _ h => h) (Or.inl ⟨by rfl, ?_⟩) hS ?_
    · intro W hW; have t := Tb.mono tx hW (by simp); have e0 : W.cell? ⟨g, 0, none⟩ = some a0 := t.cell 0; have e1 : W.cell? ⟨g, 1, none⟩ = some a1 := t.cell 1; have e2 : W.cell? ⟨g, 2, none⟩ = some a2 := t.cell 2; have e3 : W.cell? ⟨g, 3, none⟩ = some a3 := t.cell 3; have e4 : W.cell? ⟨g, 4, none⟩ = some a4 := t.cell 4; go_simp
    refine wpAnyH_take (i := 1) (v := .agg #[c0, c1, c2, c3, c4]) rfl (by kernel_rfl) (by kernel_rfl) (by kernel_rfl) (fun _ _ _ h => h) (Or.inl ⟨by rfl, ?_⟩) hS ?_
    · intro W hW; have t := Tb.mono ty hW (by simp); have e0 : W.cell? ⟨h, 0, none⟩ = some c0 := t.cell 0; have e1 : W.cell? ⟨h, 1, none⟩ = some c1 := t.cell 1; have e2 : W.cell? ⟨h, 2, none⟩ = some c2 := t.cell 2; have e3 : W.cell? ⟨h, 3, none⟩ = some c3 := t.cell 3; have e4 : W.cell? ⟨h, 4, none⟩ = some c4 := t.cell 4; go_simp
    refine wpAnyH_take (i := 3) (v := .agg #[q0, q1, q2, q3, q4]) rfl (by kernel_rfl) (by kernel_rfl) (by kernel_rfl) (fun _ _ _ h => h) (Or.inl ⟨by rfl, ?_⟩) hS ?_
    · intro W hW; have t := Tb.mono ta4 hW (by simp); have e0 : W.cell? ⟨w.heap.size, 0, none⟩ = some q0 := t.cell 0; have e1 : W.cell? ⟨w.heap.size, 1, none⟩ = some q1 := t.cell 1; have e2 : W.cell? ⟨w.heap.size, 2, none⟩ = some q2 := t.cell 2; have e3 : W.cell? ⟨w.heap.size, 3, none⟩ = some q3 := t.cell 3; have e4 : W.cell? ⟨w.heap.size, 4, none⟩ = some q4 := t.cell 4; go_simp
    refine wpAnyH_take (i := 4) (v := .agg #[p0, p1, p2, p3, p4]) rfl (by kernel_rfl) (by kernel_rfl) (by kernel_rfl) (fun _ _ _ h => h) (Or.inl ⟨by rfl, ?_⟩) hS ?_
    · intro W hW; have t := Tb.mono tb4 hW (by simp); have e0 : W.cell? ⟨(w.heap.size + 1), 0, none⟩ = some p0 := t.cell 0; have e1 : W.cell? ⟨(w.heap.size + 1), 1, none⟩ = some p1 := t.cell 1; have e2 : W.cell? ⟨(w.heap.size + 1), 2, none⟩ = some p2 := t.cell 2; have e3 : W.cell? ⟨(w.heap.size + 1), 3, none⟩ = some p3 := t.cell 3; have e4 : W.cell? ⟨(w.heap.size + 1), 4, none⟩ = some p4 := t.cell 4; go_simp
    simp only [Act.put, List.getElem_toArray, List.getElem_cons_succ, List.getElem_cons_zero, List.setIfInBounds_toArray, List.set_cons_succ, List.set_cons_zero]
    refine wpAnyH_ready (rs := [2]) (by kernel_rfl) (by simp) (AllReadyH.cons rfl (fun K hK => ?_) AllReadyH.nil)
    go_simp
    refine Calls.mono (HSM.out _ hS) ?_
    rintro en w5 ⟨rfl, hU⟩
    have hS2 : Upd [] w4 w5 := hS.trans hU
    refine hK.out _ _ hS2 (fun _ => ?_)
    clear hK K hS hU
    have hS : Upd [] w4 w5 := hS2
    clear hS2
    refine wpAnyH_ready (rs := [5]) (by kernel_rfl) (by simp) (AllReadyH.cons rfl (fun K hK => ?_) AllReadyH.nil)
    go_simp
    refine Calls.mono (HRS.out _ hS) ?_
    rintro en w6 ⟨rfl, hU⟩
    have hS2 : Upd [] w4 w6 := hS.trans hU
    refine hK.out _ _ hS2 (fun _ => ?_)
    clear hK K hS hU
    have hS : Upd [] w4 w6 := hS2
    clear hS2
    have hzz : (zz == zz) = true := by simp
    refine wpAnyH_take (i := 6) (v := .bool true) rfl (by kernel_rfl) (by kernel_rfl) (by kernel_rfl) (fun _ _ _ h => h) (Or.inl ⟨by rfl, ?_⟩) hS ?_
    · intro W hW; go_simp
    refine wpAnyH_take (i := 7) (v := .bool true) rfl (by kernel_rfl) (by kernel_rfl) (by kernel_rfl) (fun _ _ _ h => h) (Or.inl ⟨by rfl, ?_⟩) hS ?_
    · intro W hW; go_simp
    refine wpAnyH_take (i := 8) (v := .agg #[a0, a1, a2, a3, a4]) rfl (by kernel_rfl) (by kernel_rfl) (by kernel_rfl) (fun _ _ _ h => h) (Or.inl ⟨by rfl, ?_⟩) hS ?_
    · intro W hW; have t := Tb.mono tx hW (by simp); have e0 : W.cell? ⟨g, 0, none⟩ = some a0 := t.cell 0; have e1 : W.cell? ⟨g, 1, none⟩ = some a1 := t.cell 1; have e2 : W.cell? ⟨g, 2, none⟩ = some a2 := t.cell 2; have e3 : W.cell? ⟨g, 3, none⟩ = some a3 := t.cell 3; have e4 : W.cell? ⟨g, 4, none⟩ = some a4 := t.cell 4; go_simp
    refine wpAnyH_take (i := 9) (v := .agg #[q0, q1, q2, q3, q4]) rfl (by kernel_rfl) (by kernel_rfl) (by kernel_rfl) (fun _ _ _ h => h) (Or.inl ⟨by rfl, ?_⟩) hS ?_
    · intro W hW; have t := Tb.mono ta4 hW (by simp); have e0 : W.cell? ⟨w.heap.size, 0, none⟩ = some q0 := t.cell 0; have e1 : W.cell? ⟨w.heap.size, 1, none⟩ = some q1 := t.cell 1; have e2 : W.cell? ⟨w.heap.size, 2, none⟩ = some q2 := t.cell 2; have e3 : W.cell? ⟨w.heap.size, 3, none⟩ = some q3 := t.cell 3; have e4 : W.cell? ⟨w.heap.size, 4, none⟩ = some q4 := t.cell 4; go_simp
    simp only [Act.put, List.getElem_toArray, List.getElem_cons_succ, List.getElem_cons_zero, List.setIfInBounds_toArray, List.set_cons_succ, List.set_cons_zero]
    refine wpAnyH_ready (rs := [10]) (by kernel_rfl) (by simp) (AllReadyH.cons rfl (fun K hK => ?_) AllReadyH.nil)
    go_simp
    refine Calls.mono (HKx.out _ hS) ?_
    rintro en w7 ⟨rfl, hU⟩
    have hS2 : Upd [] w4 w7 := hS.trans hU
    refine hK.out _ _ hS2 (fun _ => ?_)
    clear hK K hS hU
    have hS : Upd [] w4 w7 := hS2
    clear hS2
    refine wpAnyH_take (i := 11) (v := .bool true) rfl (by kernel_rfl) (by kernel_rfl) (by kernel_rfl) (fun _ _ _ h => h) (Or.inl ⟨by rfl, ?_⟩) hS ?_
    · intro W hW; go_simp
    refine wpAnyH_take (i := 12) (v := .bool true) rfl (by kernel_rfl) (by kernel_rfl) (by kernel_rfl) (fun _ _ _ h => h) (Or.inl ⟨by rfl, ?_⟩) hS ?_
    · intro W hW; go_simp
    refine wpAnyH_take (i := 13) (v := .agg #[c0, c1, c2, c3, c4]) rfl (by kernel_rfl) (by kernel_rfl) (by kernel_rfl) (fun _ _ _ h => h) (Or.inl ⟨by rfl, ?_⟩) hS ?_
    · intro W hW; have t := Tb.mono ty hW (by simp); have e0 : W.cell? ⟨h, 0, none⟩ = some c0 := t.cell 0; have e1 : W.cell? ⟨h, 1, none⟩ = some c1 := t.cell 1; have e2 : W.cell? ⟨h, 2, none⟩ = some c2 := t.cell 2; have e3 : W.cell? ⟨h, 3, none⟩ = some c3 := t.cell 3; have e4 : W.cell? ⟨h, 4, none⟩ = some c4 := t.cell 4; go_simp
    refine wpAnyH_take (i := 14) (v := .agg #[p0, p1, p2, p3, p4]) rfl (by kernel_rfl) (by kernel_rfl) (by kernel_rfl) (fun _ _ _ h => h) (Or.inl ⟨by rfl, ?_⟩) hS ?_
    · intro W hW; have t := Tb.mono tb4 hW (by simp); have e0 : W.cell? ⟨(w.heap.size + 1), 0, none⟩ = some p0 := t.cell 0; have e1 : W.cell? ⟨(w.heap.size + 1), 1, none⟩ = some p1 := t.cell 1; have e2 : W.cell? ⟨(w.heap.size + 1), 2, none⟩ = some p2 := t.cell 2; have e3 : W.cell? ⟨(w.heap.size + 1), 3, none⟩ = some p3 := t.cell 3; have e4 : W.cell? ⟨(w.heap.size + 1), 4, none⟩ = some p4 := t.cell 4; go_simp
    simp only [Act.put, List.getElem_toArray, List.getElem_cons_succ, List.getElem_cons_zero, List.setIfInBounds_toArray, List.set_cons_succ, List.set_cons_zero]
    refine wpAnyH_ready (rs := [15]) (by kernel_rfl) (by simp) (AllReadyH.cons rfl (fun K hK => ?_) AllReadyH.nil)
    go_simp
    refine Calls.mono (HKy.out _ hS) ?_
    rintro en w8 ⟨rfl, hU⟩
    have hS2 : Upd [] w4 w8 := hS.trans hU
    refine hK.out _ _ hS2 (fun _ => ?_)
    clear hK K hS hU
    have hS : Upd [] w4 w8 := hS2
    clear hS2
    refine wpAnyH_take (i := 16) (v := .bool true) rfl (by kernel_rfl) (by kernel_rfl) (by kernel_rfl) (fun _ _ _ h => h) (Or.inl ⟨by rfl, ?_⟩) hS ?_
    · intro W hW; go_simp
    refine wpAnyH_take (i := 17) (v := .bool true) rfl (by kernel_rfl) (by kernel_rfl) (by kernel_rfl) (fun _ _ _ h => h) (Or.inl ⟨by rfl, ?_⟩) hS ?_
    · intro W hW; go_simp
    simp only [Act.put, List.getElem_toArray, List.getElem_cons_succ, List.getElem_cons_zero, List.setIfInBounds_toArray, List.set_cons_succ, List.set_cons_zero]
    refine wpAnyH_ready (rs := [18]) (by kernel_rfl) (by simp) (AllReadyH.cons rfl (fun K hK => ?_) AllReadyH.nil)
    go_simp
    refine Calls.mono (HAW.out _ (HU4.out.trans hS)) ?_
    rintro en w9 ⟨rfl, hU⟩
    have hS2 : Upd [] w4 w9 := hS.trans hU
    refine hK.out _ _ hS2 (fun _ => ?_)
    clear hK K hS hU
    have hS : Upd [] w4 w9 := hS2
    clear hS2
    refine wpAnyH_take (i := 19) (v := .bool true) rfl (by kernel_rfl) (by kernel_rfl) (by kernel_rfl) (fun _ _ _ h => h) (Or.inl ⟨by rfl, ?_⟩) hS ?_
    · intro W hW; go_simp
    refine wpAnyH_take (i := 20) (v := .bool true) rfl (by kernel_rfl) (by kernel_rfl) (by kernel_rfl) (fun _ _ _ h => h) (Or.inl ⟨by rfl, ?_⟩) hS ?_
    · intro W hW; go_simp
    simp only [Act.put, List.getElem_toArray, List.getElem_cons_succ, List.getElem_cons_zero, List.setIfInBounds_toArray, List.set_cons_succ, List.set_cons_zero]
    refine wpAnyH_done (by kernel_rfl) ?_ _
    go_wp2
    go_ret
    exact ⟨rfl, HU4.out.trans hS⟩

end Go.Proofs.YtejcppnleckmfaaDoor
