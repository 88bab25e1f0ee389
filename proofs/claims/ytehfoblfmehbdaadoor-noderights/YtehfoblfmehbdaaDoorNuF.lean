/- NodeRights, walked. -/
import Derived.Test.YtehfoblfmehbdaaDoorNsQ
import Derived.Test.YtehfoblfmehbdaaDoorNuE
import Derived.Test.YtehfoblfmehbdaaDoorNrD
namespace Go.Proofs.YtehfoblfmehbdaaDoor
open Go.RowKit

mutual
theorem nsz_cnt : ∀ n : Nd, nsz n ≤ cntN n
  | .mk _ s _ _ K => by rw [nsz, cntN]; have := nsz_cntL K; omega
theorem nsz_cntL : ∀ K : List Nd, nszs K ≤ cntL K
  | [] => by simp [nszs, cntL]
  | n :: r => by
    rw [nszs, cntL]
    have h1 := nsz_cnt n
    have h2 := nsz_cntL r
    have h3 := man_pos n
    have h4 := man_cnt n
    have h5 : r.length ≤ cntL r := Nat.le_trans (nszs_len r) h2
    omega
end

set_option maxHeartbeats 4000000 in
set_option maxRecDepth 100000 in
theorem Rights_walk (A : Nat → Option Addr) (C : Nat → Nat) (d : Nat) (w : World) (cs0 : List Value) (t0 : Nd) (h0 : NIn w d cs0 t0) (y0 : nsz t0 ≤ 2199023255488) (x0 : nxz t0 ≤ 140737488355328) (hF : Frm A C w) (hO : Ops w) :
    Calls Tryd.prog 3 #[.agg cs0.toArray] w fun e w' => e = .returned (.bool true) ∧ Upd [] w w' := by
  obtain ⟨q0, q1, q2, q3, q4, rfl⟩ := list5 h0.len
  have HG0 : Hid (∀ W, Upd [] w W → Calls Tryd.prog 4 #[.agg #[q0, q1, q2, q3, q4]] W fun e w' => GreatP t0 e ∧ Upd [] W w') := fun W hu => great_in d W _ t0 (NIn.mono hu _ _ _ h0) y0 x0
  have HI0 : Hid (NIn w d [q0, q1, q2, q3, q4] t0) := h0
  have HT : Hid (Frm A C w ∧ Ops w) := ⟨hF, hO⟩
  have HAW : Hid (∀ W, Upd [] w W → Calls Tryd.prog 5 #[] W fun e w' => e = .returned (.bool true) ∧ Upd [] W w') := fun W hu => awake_any A C W (hF.mono hu) (hO.mono hu)
  have u0 : Upd [] w (w.alloc (.cells #[q0, q1, q2, q3, q4] 25)) := (Upd.refl [] w).alloc _
  have ta := Tb.new w #[q0, q1, q2, q3, q4] _ rfl
  clear h0 y0 x0 hF hO
  go_enter Tryd.func3, Tryd.ntmps3
  go_wp2_with (first | (refine load_T _ rfl _ rfl _ _ rfl ta rfl ?_) | fail)
  refine Calls.mono (HG0.out _ u0) ?_
  rintro e w1 ⟨⟨b0, rfl, hb0⟩, hU1⟩
  have U1 : Hid (Upd [] w w1) := u0.trans hU1
  have ta1 := ta.mono hU1 (by simp)
  have HB0 : Hid (b0 = false → cntN t0 ≤ 20000) := hb0
  clear ta hU1 hb0 u0 HG0
  cases b0 with
  | true =>
    go_wp2_with fail
    refine Calls.mono (HAW.out _ U1.out) ?_
    rintro e w2 ⟨rfl, hU2⟩
    have U2 : Hid (Upd [] w w2) := U1.out.trans hU2
    clear hU2 ta1
    go_wp2
    go_ret
    exact ⟨rfl, U2.out⟩
  | false =>
    have hc0 := HB0.out rfl
    have z0 : nsz t0 ≤ 20000 := Nat.le_trans (nsz_cnt t0) hc0
    have n0 : nxz t0 ≤ 1000000 := by have := nxz_cnt t0; omega
    have m0 : manN t0 ≤ 20000 := Nat.le_trans (man_cnt t0) hc0
    have HLN : Hid (∀ W, Upd [] w W → Calls Tryd.prog 6 #[.agg #[q0, q1, q2, q3, q4]] W fun e w' => Upd [] W w' ∧ ∃ cs', cs'.length = 5 ∧ e = .returned (.agg cs'.toArray) ∧ NL w' d cs' t0 (fun z => W.heap.size ≤ z ∧ z < w'.heap.size)) := fun W hu => LentNode_in d W _ t0 (NIn.mono hu _ _ _ HI0.out) z0
    clear hc0 HB0
    have ta1' := ta1
    go_wp2_with (first | (refine load_T _ rfl _ rfl _ _ rfl ta1 rfl ?_) | fail)
    refine Calls.mono (HLN.out _ U1.out) ?_
    rintro e w2 ⟨hU2, csx, h5, rfl, kx⟩
    obtain ⟨a0, a1, a2, a3, a4, rfl⟩ := list5 h5
    have U2 : Hid (Upd [] w w2) := U1.out.trans hU2
    have ta2 := Tb.mono ta1 hU2 (by simp)
    have HX : Hid (Tb (w2.alloc (.cells #[.int .u8 0, .string ⟨#[]⟩, .int .i64 0, .int .i64 0, .slice none 0 0] 25)) w2.heap.size #[.int .u8 0, .string ⟨#[]⟩, .int .i64 0, .int .i64 0, .slice none 0 0] ∧ Upd [] w2 (w2.alloc (.cells #[.int .u8 0, .string ⟨#[]⟩, .int .i64 0, .int .i64 0, .slice none 0 0] 25))) := ⟨Tb.new _ _ _ rfl, (Upd.refl [] _).alloc _⟩
    have hone : Hid (Array.all (#[a0, a1, a2, a3, a4] : Array Value) (fun v => v.oneCell') = true) := (NL.plain _ _ _ _ kx).one
    have KX : Hid (NL w2 d [a0, a1, a2, a3, a4] t0 (fun z => w1.heap.size ≤ z ∧ z < w2.heap.size)) := kx
    clear kx h5 hU2 ta1 ta1' HLN
    go_wp2_with (first | (refine store_T _ rfl _ _ rfl _ #[a0, a1, a2, a3, a4] _ rfl rfl HX.out.1 rfl rfl hone.out ?_; intro w3 hT3 hU3) | fail)
    obtain ⟨g, hg⟩ : ∃ g, g = w2.heap.size := ⟨_, rfl⟩
    have U23 : Upd [] w2 w3 := HX.out.2.then hU3 (fun y hy => Or.inl (by simp only [List.mem_singleton] at hy; omega))
    have ta4 := Tb.mono ta2 U23 (by simp)
    have U4 : Upd [] w w3 := U2.out.trans U23
    have KX3 : NL w3 d [a0, a1, a2, a3, a4] t0 (fun z => w1.heap.size ≤ z ∧ z < w2.heap.size) := NL.upd U23 _ _ _ _ (fun x _ => by simp) KX.out
    have hl3 : w2.heap.size ≤ w3.heap.size := U23.size
    rw [← hg] at hT3 ⊢
    have tx : Tb w3 g #[a0, a1, a2, a3, a4] := hT3
    have HNR : Hid (∀ W, Upd [] w3 W → Calls Tryd.prog 7 #[.agg #[a0, a1, a2, a3, a4]] W fun e w' => e = .returned (.bool (rgtB t0)) ∧ Upd [] W w') := fun W hu => Right_in A C d W _ t0 (NL.plain _ _ _ _ (NL.upd hu _ _ _ _ (fun x _ => by simp) KX3)) (by omega) (by omega) (HT.out.1.mono (U4.trans hu)) (HT.out.2.mono (U4.trans hu))
    have HRR : Hid (∀ W, Upd [] w3 W → Calls Tryd.prog 8 #[.agg #[q0, q1, q2, q3, q4]] W fun e w' => e = .returned (.bool (rgtB t0)) ∧ Upd [] W w') := fun W hu => rright d W _ t0 (NIn.mono (U4.trans hu) _ _ _ HI0.out) z0 n0 m0
    have HNP : Hid (∀ W, Upd [] w3 W → Calls Tryd.prog 9 #[.agg #[a0, a1, a2, a3, a4]] W fun e w' => e = .returned (.bool (itmB t0 && thru patB t0)) ∧ Upd [] W w') := fun W hu => Pattern_in A C d W _ t0 (NL.plain _ _ _ _ (NL.upd hu _ _ _ _ (fun x _ => by simp) KX3)) (by omega) (by omega) (HT.out.1.mono (U4.trans hu)) (HT.out.2.mono (U4.trans hu))
    have HRP : Hid (∀ W, Upd [] w3 W → Calls Tryd.prog 10 #[.agg #[q0, q1, q2, q3, q4]] W fun e w' => e = .returned (.bool (itmB t0 && thru patB t0)) ∧ Upd [] W w') := fun W hu => rPattern d W _ t0 (NIn.mono (U4.trans hu) _ _ _ HI0.out) z0 n0 m0
    have HNG : Hid (∀ W, Upd [] w3 W → Calls Tryd.prog 11 #[.agg #[a0, a1, a2, a3, a4]] W fun e w' => e = .returned (.bool (itmB t0 && thru grdB t0)) ∧ Upd [] W w') := fun W hu => Guard_in A C d W _ t0 (NL.plain _ _ _ _ (NL.upd hu _ _ _ _ (fun x _ => by simp) KX3)) (by omega) (by omega) (HT.out.1.mono (U4.trans hu)) (HT.out.2.mono (U4.trans hu))
    have HRG : Hid (∀ W, Upd [] w3 W → Calls Tryd.prog 12 #[.agg #[q0, q1, q2, q3, q4]] W fun e w' => e = .returned (.bool (itmB t0 && thru grdB t0)) ∧ Upd [] W w') := fun W hu => rGuard d W _ t0 (NIn.mono (U4.trans hu) _ _ _ HI0.out) z0 n0 m0
    have HND : Hid (∀ W, Upd [] w3 W → Calls Tryd.prog 13 #[.agg #[a0, a1, a2, a3, a4]] W fun e w' => e = .returned (.int .i64 (depN t0)) ∧ Upd [] W w') := fun W hu => Deep_in d W _ t0 _ (NL.upd hu _ _ _ _ (fun x _ => by simp) KX3) (fun x hx => by have := hu.size; omega) z0 m0
    have HRD : Hid (∀ W, Upd [] w3 W → Calls Tryd.prog 14 #[.agg #[q0, q1, q2, q3, q4]] W fun e w' => e = .returned (.int .i64 (depN t0 : Nat)) ∧ Upd [] W w') := fun W hu => rdeep_in d W _ t0 (NIn.mono (U4.trans hu) _ _ _ HI0.out) (by omega) (by have := dep_man t0; omega)
    have HKx : Hid (∀ W, Upd [] w3 W → Calls Tryd.prog 15 #[.agg #[a0, a1, a2, a3, a4], .agg #[q0, q1, q2, q3, q4]] W fun e w' => e = .returned (.bool true) ∧ Upd [] W w') := fun W hu => KeptNode_in d W [a0, a1, a2, a3, a4] [q0, q1, q2, q3, q4] t0 _ (NL.upd hu _ _ _ _ (fun x _ => by simp) KX3) (NIn.mono (U4.trans hu) _ _ _ HI0.out) z0
    have HU4 : Hid (Upd [] w w3) := U4
    obtain ⟨R, hR⟩ : ∃ z, z = rgtB t0 := ⟨_, rfl⟩
    rw [← hR] at HNR HRR
    obtain ⟨P, hP⟩ : ∃ z, z = (itmB t0 && thru patB t0) := ⟨_, rfl⟩
    rw [← hP] at HNP HRP
    obtain ⟨G, hG⟩ : ∃ z, z = (itmB t0 && thru grdB t0) := ⟨_, rfl⟩
    rw [← hG] at HNG HRG
    obtain ⟨D, hD⟩ : ∃ z, z = depN t0 := ⟨_, rfl⟩
    rw [← hD] at HND HRD
    have f1 : (R == R) = true := by simp
    have f2 : (P == P) = true := by simp
    have f3 : (G == G) = true := by simp
    have f4 : (((D : Nat) : Int) == ((D : Nat) : Int)) = true := by simp
    clear hR hP hG hD hT3 hU3 hg HX hone KX KX3 hl3 U23 U2 U4 ta2 z0 n0 m0 HI0 HT U1
    go_wp2_with fail
    refine wp_region_held_drew (S := fun W => Upd [] w3 W) (by kernel_rfl) (Upd.refl [] w3).drew (fun hS => ?_)
    generalize World.drew _ = w4 at hS ⊢
    refine wpAnyH_take (i := 0) (v := .agg #[a0, a1, a2, a3, a4]) rfl (by kernel_rfl) (by kernel_rfl) (by kernel_rfl) (fun _ _ _ h => h) (Or.inl ⟨by rfl, ?_⟩) hS ?_
    · intro W hW; have t := Tb.mono tx hW (by simp); have e0 : W.cell? ⟨g, 0, none⟩ = some a0 := t.cell 0; have e1 : W.cell? ⟨g, 1, none⟩ = some a1 := t.cell 1; have e2 : W.cell? ⟨g, 2, none⟩ = some a2 := t.cell 2; have e3 : W.cell? ⟨g, 3, none⟩ = some a3 := t.cell 3; have e4 : W.cell? ⟨g, 4, none⟩ = some a4 := t.cell 4; go_simp
    refine wpAnyH_take (i := 2) (v := .agg #[q0, q1, q2, q3, q4]) rfl (by kernel_rfl) (by kernel_rfl) (by kernel_rfl) (fun _ _ _ h => h) (Or.inl ⟨by rfl, ?_⟩) hS ?_
    · intro W hW; have t := Tb.mono ta4 hW (by simp); have e0 : W.cell? ⟨w.heap.size, 0, none⟩ = some q0 := t.cell 0; have e1 : W.cell? ⟨w.heap.size, 1, none⟩ = some q1 := t.cell 1; have e2 : W.cell? ⟨w.heap.size, 2, none⟩ = some q2 := t.cell 2; have e3 : W.cell? ⟨w.heap.size, 3, none⟩ = some q3 := t.cell 3; have e4 : W.cell? ⟨w.heap.size, 4, none⟩ = some q4 := t.cell 4; go_simp
    simp only [Act.put, List.getElem_toArray, List.getElem_cons_succ, List.getElem_cons_zero, List.setIfInBounds_toArray, List.set_cons_succ, List.set_cons_zero]
    refine wpAnyH_ready (rs := [1]) (by kernel_rfl) (by simp) (AllReadyH.cons rfl (fun K hK => ?_) AllReadyH.nil)
    go_simp
    refine Calls.mono (HNR.out _ hS) ?_
    rintro en w5 ⟨rfl, hU⟩
    have hS2 : Upd [] w3 w5 := hS.trans hU
    refine hK.out _ _ hS2 (fun _ => ?_)
    clear hK K hS hU
    have hS : Upd [] w3 w5 := hS2
    clear hS2
    refine wpAnyH_ready (rs := [3]) (by kernel_rfl) (by simp) (AllReadyH.cons rfl (fun K hK => ?_) AllReadyH.nil)
    go_simp
    refine Calls.mono (HRR.out _ hS) ?_
    rintro en w6 ⟨rfl, hU⟩
    have hS2 : Upd [] w3 w6 := hS.trans hU
    refine hK.out _ _ hS2 (fun _ => ?_)
    clear hK K hS hU
    have hS : Upd [] w3 w6 := hS2
    clear hS2
    refine wpAnyH_take (i := 4) (v := .bool true) rfl (by kernel_rfl) (by kernel_rfl) (by kernel_rfl) (fun _ _ _ h => h) (Or.inl ⟨by rfl, ?_⟩) hS ?_
    · intro W hW; go_simp
    refine wpAnyH_take (i := 5) (v := .bool true) rfl (by kernel_rfl) (by kernel_rfl) (by kernel_rfl) (fun _ _ _ h => h) (Or.inl ⟨by rfl, ?_⟩) hS ?_
    · intro W hW; go_simp
    simp only [Act.put, List.getElem_toArray, List.getElem_cons_succ, List.getElem_cons_zero, List.setIfInBounds_toArray, List.set_cons_succ, List.set_cons_zero]
    refine wpAnyH_take (i := 6) (v := .agg #[a0, a1, a2, a3, a4]) rfl (by kernel_rfl) (by kernel_rfl) (by kernel_rfl) (fun _ _ _ h => h) (Or.inl ⟨by rfl, ?_⟩) hS ?_
    · intro W hW; have t := Tb.mono tx hW (by simp); have e0 : W.cell? ⟨g, 0, none⟩ = some a0 := t.cell 0; have e1 : W.cell? ⟨g, 1, none⟩ = some a1 := t.cell 1; have e2 : W.cell? ⟨g, 2, none⟩ = some a2 := t.cell 2; have e3 : W.cell? ⟨g, 3, none⟩ = some a3 := t.cell 3; have e4 : W.cell? ⟨g, 4, none⟩ = some a4 := t.cell 4; go_simp
    refine wpAnyH_take (i := 8) (v := .agg #[q0, q1, q2, q3, q4]) rfl (by kernel_rfl) (by kernel_rfl) (by kernel_rfl) (fun _ _ _ h => h) (Or.inl ⟨by rfl, ?_⟩) hS ?_
    · intro W hW; have t := Tb.mono ta4 hW (by simp); have e0 : W.cell? ⟨w.heap.size, 0, none⟩ = some q0 := t.cell 0; have e1 : W.cell? ⟨w.heap.size, 1, none⟩ = some q1 := t.cell 1; have e2 : W.cell? ⟨w.heap.size, 2, none⟩ = some q2 := t.cell 2; have e3 : W.cell? ⟨w.heap.size, 3, none⟩ = some q3 := t.cell 3; have e4 : W.cell? ⟨w.heap.size, 4, none⟩ = some q4 := t.cell 4; go_simp
    simp only [Act.put, List.getElem_toArray, List.getElem_cons_succ, List.getElem_cons_zero, List.setIfInBounds_toArray, List.set_cons_succ, List.set_cons_zero]
    refine wpAnyH_ready (rs := [7]) (by kernel_rfl) (by simp) (AllReadyH.cons rfl (fun K hK => ?_) AllReadyH.nil)
    go_simp
    refine Calls.mono (HNP.out _ hS) ?_
    rintro en w7 ⟨rfl, hU⟩
    have hS2 : Upd [] w3 w7 := hS.trans hU
    refine hK.out _ _ hS2 (fun _ => ?_)
    clear hK K hS hU
    have hS : Upd [] w3 w7 := hS2
    clear hS2
    refine wpAnyH_ready (rs := [9]) (by kernel_rfl) (by simp) (AllReadyH.cons rfl (fun K hK => ?_) AllReadyH.nil)
    go_simp
    refine Calls.mono (HRP.out _ hS) ?_
    rintro en w8 ⟨rfl, hU⟩
    have hS2 : Upd [] w3 w8 := hS.trans hU
    refine hK.out _ _ hS2 (fun _ => ?_)
    clear hK K hS hU
    have hS : Upd [] w3 w8 := hS2
    clear hS2
    refine wpAnyH_take (i := 10) (v := .bool true) rfl (by kernel_rfl) (by kernel_rfl) (by kernel_rfl) (fun _ _ _ h => h) (Or.inl ⟨by rfl, ?_⟩) hS ?_
    · intro W hW; go_simp
    refine wpAnyH_take (i := 11) (v := .bool true) rfl (by kernel_rfl) (by kernel_rfl) (by kernel_rfl) (fun _ _ _ h => h) (Or.inl ⟨by rfl, ?_⟩) hS ?_
    · intro W hW; go_simp
    simp only [Act.put, List.getElem_toArray, List.getElem_cons_succ, List.getElem_cons_zero, List.setIfInBounds_toArray, List.set_cons_succ, List.set_cons_zero]
    refine wpAnyH_take (i := 12) (v := .bool true) rfl (by kernel_rfl) (by kernel_rfl) (by kernel_rfl) (fun _ _ _ h => h) (Or.inl ⟨by rfl, ?_⟩) hS ?_
    · intro W hW; go_simp
    simp only [Act.put, List.getElem_toArray, List.getElem_cons_succ, List.getElem_cons_zero, List.setIfInBounds_toArray, List.set_cons_succ, List.set_cons_zero]
    refine wpAnyH_take (i := 13) (v := .agg #[a0, a1, a2, a3, a4]) rfl (by kernel_rfl) (by kernel_rfl) (by kernel_rfl) (fun _ _ _ h => h) (Or.inl ⟨by rfl, ?_⟩) hS ?_
    · intro W hW; have t := Tb.mono tx hW (by simp); have e0 : W.cell? ⟨g, 0, none⟩ = some a0 := t.cell 0; have e1 : W.cell? ⟨g, 1, none⟩ = some a1 := t.cell 1; have e2 : W.cell? ⟨g, 2, none⟩ = some a2 := t.cell 2; have e3 : W.cell? ⟨g, 3, none⟩ = some a3 := t.cell 3; have e4 : W.cell? ⟨g, 4, none⟩ = some a4 := t.cell 4; go_simp
    refine wpAnyH_take (i := 15) (v := .agg #[q0, q1, q2, q3, q4]) rfl (by kernel_rfl) (by kernel_rfl) (by kernel_rfl) (fun _ _ _ h => h) (Or.inl ⟨by rfl, ?_⟩) hS ?_
    · intro W hW; have t := Tb.mono ta4 hW (by simp); have e0 : W.cell? ⟨w.heap.size, 0, none⟩ = some q0 := t.cell 0; have e1 : W.cell? ⟨w.heap.size, 1, none⟩ = some q1 := t.cell 1; have e2 : W.cell? ⟨w.heap.size, 2, none⟩ = some q2 := t.cell 2; have e3 : W.cell? ⟨w.heap.size, 3, none⟩ = some q3 := t.cell 3; have e4 : W.cell? ⟨w.heap.size, 4, none⟩ = some q4 := t.cell 4; go_simp
    simp only [Act.put, List.getElem_toArray, List.getElem_cons_succ, List.getElem_cons_zero, List.setIfInBounds_toArray, List.set_cons_succ, List.set_cons_zero]
    refine wpAnyH_ready (rs := [14]) (by kernel_rfl) (by simp) (AllReadyH.cons rfl (fun K hK => ?_) AllReadyH.nil)
    go_simp
    refine Calls.mono (HNG.out _ hS) ?_
    rintro en w9 ⟨rfl, hU⟩
    have hS2 : Upd [] w3 w9 := hS.trans hU
    refine hK.out _ _ hS2 (fun _ => ?_)
    clear hK K hS hU
    have hS : Upd [] w3 w9 := hS2
    clear hS2
    refine wpAnyH_ready (rs := [16]) (by kernel_rfl) (by simp) (AllReadyH.cons rfl (fun K hK => ?_) AllReadyH.nil)
    go_simp
    refine Calls.mono (HRG.out _ hS) ?_
    rintro en w10 ⟨rfl, hU⟩
    have hS2 : Upd [] w3 w10 := hS.trans hU
    refine hK.out _ _ hS2 (fun _ => ?_)
    clear hK K hS hU
    have hS : Upd [] w3 w10 := hS2
    clear hS2
    refine wpAnyH_take (i := 17) (v := .bool true) rfl (by kernel_rfl) (by kernel_rfl) (by kernel_rfl) (fun _ _ _ h => h) (Or.inl ⟨by rfl, ?_⟩) hS ?_
    · intro W hW; go_simp
    refine wpAnyH_take (i := 18) (v := .bool true) rfl (by kernel_rfl) (by kernel_rfl) (by kernel_rfl) (fun _ _ _ h => h) (Or.inl ⟨by rfl, ?_⟩) hS ?_
    · intro W hW; go_simp
    simp only [Act.put, List.getElem_toArray, List.getElem_cons_succ, List.getElem_cons_zero, List.setIfInBounds_toArray, List.set_cons_succ, List.set_cons_zero]
    refine wpAnyH_take (i := 19) (v := .bool true) rfl (by kernel_rfl) (by kernel_rfl) (by kernel_rfl) (fun _ _ _ h => h) (Or.inl ⟨by rfl, ?_⟩) hS ?_
    · intro W hW; go_simp
    simp only [Act.put, List.getElem_toArray, List.getElem_cons_succ, List.getElem_cons_zero, List.setIfInBounds_toArray, List.set_cons_succ, List.set_cons_zero]
    refine wpAnyH_take (i := 20) (v := .agg #[a0, a1, a2, a3, a4]) rfl (by kernel_rfl) (by kernel_rfl) (by kernel_rfl) (fun _ _ _ h => h) (Or.inl ⟨by rfl, ?_⟩) hS ?_
    · intro W hW; have t := Tb.mono tx hW (by simp); have e0 : W.cell? ⟨g, 0, none⟩ = some a0 := t.cell 0; have e1 : W.cell? ⟨g, 1, none⟩ = some a1 := t.cell 1; have e2 : W.cell? ⟨g, 2, none⟩ = some a2 := t.cell 2; have e3 : W.cell? ⟨g, 3, none⟩ = some a3 := t.cell 3; have e4 : W.cell? ⟨g, 4, none⟩ = some a4 := t.cell 4; go_simp
    refine wpAnyH_take (i := 22) (v := .agg #[q0, q1, q2, q3, q4]) rfl (by kernel_rfl) (by kernel_rfl) (by kernel_rfl) (fun _ _ _ h => h) (Or.inl ⟨by rfl, ?_⟩) hS ?_
    · intro W hW; have t := Tb.mono ta4 hW (by simp); have e0 : W.cell? ⟨w.heap.size, 0, none⟩ = some q0 := t.cell 0; have e1 : W.cell? ⟨w.heap.size, 1, none⟩ = some q1 := t.cell 1; have e2 : W.cell? ⟨w.heap.size, 2, none⟩ = some q2 := t.cell 2; have e3 : W.cell? ⟨w.heap.size, 3, none⟩ = some q3 := t.cell 3; have e4 : W.cell? ⟨w.heap.size, 4, none⟩ = some q4 := t.cell 4; go_simp
    simp only [Act.put, List.getElem_toArray, List.getElem_cons_succ, List.getElem_cons_zero, List.setIfInBounds_toArray, List.set_cons_succ, List.set_cons_zero]
    refine wpAnyH_ready (rs := [21]) (by kernel_rfl) (by simp) (AllReadyH.cons rfl (fun K hK => ?_) AllReadyH.nil)
    go_simp
    refine Calls.mono (HND.out _ hS) ?_
    rintro en w11 ⟨rfl, hU⟩
    have hS2 : Upd [] w3 w11 := hS.trans hU
    refine hK.out _ _ hS2 (fun _ => ?_)
    clear hK K hS hU
    have hS : Upd [] w3 w11 := hS2
    clear hS2
    refine wpAnyH_ready (rs := [23]) (by kernel_rfl) (by simp) (AllReadyH.cons rfl (fun K hK => ?_) AllReadyH.nil)
    go_simp
    refine Calls.mono (HRD.out _ hS) ?_
    rintro en w12 ⟨rfl, hU⟩
    have hS2 : Upd [] w3 w12 := hS.trans hU
    refine hK.out _ _ hS2 (fun _ => ?_)
    clear hK K hS hU
    have hS : Upd [] w3 w12 := hS2
    clear hS2
    refine wpAnyH_take (i := 24) (v := .bool true) rfl (by kernel_rfl) (by kernel_rfl) (by kernel_rfl) (fun _ _ _ h => h) (Or.inl ⟨by rfl, ?_⟩) hS ?_
    · intro W hW; go_simp
    refine wpAnyH_take (i := 25) (v := .bool true) rfl (by kernel_rfl) (by kernel_rfl) (by kernel_rfl) (fun _ _ _ h => h) (Or.inl ⟨by rfl, ?_⟩) hS ?_
    · intro W hW; go_simp
    simp only [Act.put, List.getElem_toArray, List.getElem_cons_succ, List.getElem_cons_zero, List.setIfInBounds_toArray, List.set_cons_succ, List.set_cons_zero]
    refine wpAnyH_take (i := 26) (v := .bool true) rfl (by kernel_rfl) (by kernel_rfl) (by kernel_rfl) (fun _ _ _ h => h) (Or.inl ⟨by rfl, ?_⟩) hS ?_
    · intro W hW; go_simp
    simp only [Act.put, List.getElem_toArray, List.getElem_cons_succ, List.getElem_cons_zero, List.setIfInBounds_toArray, List.set_cons_succ, List.set_cons_zero]
    refine wpAnyH_done (by kernel_rfl) ?_ _
    have tx2 := Tb.mono tx hS (by simp)
    have ta5 := Tb.mono ta4 hS (by simp)
    have HS : Hid (Upd [] w3 w12) := hS
    clear hS tx ta4 f1 f2 f3 f4
    go_wp2_with (first | (refine load_G _ _ rfl _ _ rfl tx2 rfl rfl ?_) | (refine load_G _ _ rfl _ _ rfl ta5 rfl rfl ?_) | fail)
    refine Calls.mono (HKx.out _ HS.out) ?_
    rintro e w13 ⟨rfl, hU⟩
    have H13 : Hid (Upd [] w w13) := (HU4.out.trans HS.out).trans hU
    clear hU tx2 ta5
    go_wp2_with fail
    refine Calls.mono (HAW.out _ H13.out) ?_
    rintro e w14 ⟨rfl, hU⟩
    have H14 : Hid (Upd [] w w14) := H13.out.trans hU
    clear hU
    go_wp2
    go_ret
    exact ⟨rfl, H14.out⟩

end Go.Proofs.YtehfoblfmehbdaaDoor
