/- One step of names, by the program and by the document. -/
import Derived.Test.YtpojkmpimnnjiaaGreatNrO
import Derived.Deep.Cut
import Derived.Deep.RegionHeld3
namespace Go.Proofs.YtpojkmpimnnjiaaGreat
open Go.RowKit Go.Maps

set_option maxHeartbeats 8000000 in
set_option maxRecDepth 100000 in
theorem step_any {w wr : World} {l n b : Nat} {F : NF} {G : PF} {lv : Value} {L : List Nd} (h : LN w wr l n b F G F lv L) (hn : n ≤ 200) (hL : L.length ≤ 200) (op p : Int) (s : BS) (hp : I64 p) (hs : s.length ≤ 1000000000) :
    Calls Tryz.prog 8 #[.pointer (some ⟨l, 0, none⟩), .pointer (some ⟨b, 0, none⟩), .agg #[.int .i64 op, .int .i64 p, encStr s]] wr fun e w' => e = .returned (.bool true) ∧ ∃ n' F' G' lv' L', n' ≤ n + 1 ∧ L'.length ≤ L.length + 1 ∧ LN w w' l n' b F' G' F' lv' L' := by
  obtain ⟨w1, hw1⟩ : ∃ w1, w1 = wr.alloc (.cells #[.int .i64 op, .int .i64 p, encStr s] 33) := ⟨_, rfl⟩
  have u1 : Upd [] wr w1 := by rw [hw1]; exact (Upd.refl [] wr).alloc _
  obtain ⟨z, hz⟩ : ∃ z, z = wr.heap.size := ⟨_, rfl⟩
  have hcz : Cl w1 z #[.int .i64 op, .int .i64 p, encStr s] 33 := by rw [hw1, hz]; exact Cl.new _ _ _ _ rfl
  have HL : Hid (LN w w1 l n b F G F lv L) := h.upd u1
  have HZ : Hid (Cl w1 z #[.int .i64 op, .int .i64 p, encStr s] 33) := hcz
  have HI : Hid (I64 p ∧ s.length ≤ 1000000000 ∧ okB s) := ⟨hp, hs, Nat.le_trans hs (by decide)⟩
  have z0 : w1.cell? ⟨z, 0, none⟩ = some (.int .i64 op) := hcz.cell 0
  have z1 : w1.cell? ⟨z, 1, none⟩ = some (.int .i64 p) := hcz.cell 1
  have z2 : w1.cell? ⟨z, 2, none⟩ = some (encStr s) := hcz.cell 2
  have HW1 : Hid (w1 = wr.alloc (.cells #[.int .i64 op, .int .i64 p, encStr s] 33)) := hw1
  have HZZ : Hid (z = wr.heap.size) := hz
  clear h u1 hcz hp hs hw1 hz
  go_enter Tryz.func8, Tryz.ntmps8
  go_upto_region 1 with fail
  rw [← HW1.out, ← HZZ.out]
  clear HW1 HZZ
  go_wp2_with fail
  refine Calls.mono (pick_any op 8 (by omega) (by omega) _) ?_
  rintro e w5 ⟨rfl, hw5⟩
  rw [hw5]
  clear hw5 w5 z0
  obtain ⟨t, ht⟩ : ∃ t, t = pk op 8 := ⟨_, rfl⟩
  have htl : 0 ≤ t ∧ t < 8 := by rw [ht]; exact pk_lt op (by omega)
  rw [← ht]
  clear ht
  rcases (by omega : t = 0 ∨ t = 1 ∨ t = 2 ∨ t = 3 ∨ 4 ≤ t) with rfl | rfl | rfl | rfl | ht3
  · clear htl
    go_upto_region 3 with fail
    refine wp_region_held_drew (S := fun W => W.cell? ⟨z, 1, none⟩ = some (.int .i64 p) ∧ W.cell? ⟨z, 2, none⟩ = some (encStr s)) (by kernel_rfl) ⟨z1, z2⟩ (fun hS => ?_)
    refine wpAnyH_take (i := 0) (v := .pointer (some ⟨l, 0, none⟩)) rfl (by kernel_rfl) (by kernel_rfl) (by kernel_rfl) (fun _ _ _ h => h) (Or.inl ⟨by rfl, ?_⟩) hS ?_
    · intro W hW; go_simp
    refine wpAnyH_take (i := 1) (v := .pointer (some ⟨z, 1, none⟩)) rfl (by kernel_rfl) (by kernel_rfl) (by kernel_rfl) (fun _ _ _ h => h) (Or.inl ⟨by rfl, ?_⟩) hS ?_
    · intro W hW; go_simp
    simp only [Act.put, List.getElem_toArray, List.getElem_cons_succ, List.getElem_cons_zero, List.setIfInBounds_toArray, List.set_cons_succ, List.set_cons_zero]
    refine wpAnyH_take (i := 2) (v := .int .i64 p) rfl (by kernel_rfl) (by kernel_rfl) (by kernel_rfl) (fun _ _ _ h => h) (Or.inl ⟨by rfl, ?_⟩) hS ?_
    · intro W hW; obtain ⟨e1, e2⟩ := hW; go_simp
    refine wpAnyH_take (i := 4) (v := .pointer (some ⟨b, 0, none⟩)) rfl (by kernel_rfl) (by kernel_rfl) (by kernel_rfl) (fun _ _ _ h => h) (Or.inl ⟨by rfl, ?_⟩) hS ?_
    · intro W hW; go_simp
    refine wpAnyH_take (i := 5) (v := .pointer (some ⟨z, 1, none⟩)) rfl (by kernel_rfl) (by kernel_rfl) (by kernel_rfl) (fun _ _ _ h => h) (Or.inl ⟨by rfl, ?_⟩) hS ?_
    · intro W hW; go_simp
    simp only [Act.put, List.getElem_toArray, List.getElem_cons_succ, List.getElem_cons_zero, List.setIfInBounds_toArray, List.set_cons_succ, List.set_cons_zero]
    refine wpAnyH_take (i := 6) (v := .int .i64 p) rfl (by kernel_rfl) (by kernel_rfl) (by kernel_rfl) (fun _ _ _ h => h) (Or.inl ⟨by rfl, ?_⟩) hS ?_
    · intro W hW; obtain ⟨e1, e2⟩ := hW; go_simp
    simp only [Act.put, List.getElem_toArray, List.getElem_cons_succ, List.getElem_cons_zero, List.setIfInBounds_toArray, List.set_cons_succ, List.set_cons_zero]
    refine wpAnyH_ready (rs := [3]) (by kernel_rfl) (by simp) (AllReadyH.cons rfl (fun K hK => ?_) AllReadyH.nil)
    go_simp
    refine Calls.mono (ln_end (HL.out.upd (Upd.refl [] w1).drew) HI.out.1) ?_
    rintro e w2 ⟨v2, rfl, hv2, h2, hk2⟩
    obtain ⟨p2, c2, e2⟩ := hv2.form
    subst e2
    obtain ⟨ys, hys⟩ : ∃ ys, ys = (G p).toList := ⟨_, rfl⟩
    obtain ⟨F2, hF2⟩ : ∃ F2, F2 = endF F (G p) := ⟨_, rfl⟩
    rw [← hF2] at h2
    have HF2 : Hid (F2 = endF F (G p)) := hF2
    clear hF2
    have H2 : Hid (LN w w2 l n b F2 (at1 G p none) F lv L ∧ Cl w2 z #[.int .i64 op, .int .i64 p, encStr s] 33 ∧ TR w2 (.slice p2 ys.length c2) ys ∧ ys = (G p).toList) := ⟨h2, hk2.1 z _ (HZ.out.upd (Upd.refl [] w1).drew (by simp)), by rw [hys]; exact hv2, hys⟩
    rw [← hys]
    clear h2 hk2 hv2 hys
    have hS2 : w2.cell? ⟨z, 1, none⟩ = some (.int .i64 p) ∧ w2.cell? ⟨z, 2, none⟩ = some (encStr s) := ⟨H2.out.2.1.cell 1, H2.out.2.1.cell 2⟩
    refine hK.out _ _ hS2 (fun _ => ?_)
    clear hK K hS
    have hS := hS2
    clear hS2
    refine wpAnyH_ready (rs := [7]) (by kernel_rfl) (by simp) (AllReadyH.cons rfl (fun K hK => ?_) AllReadyH.nil)
    go_simp
    refine Calls.mono (ln_endR H2.out.1 (by omega) HL.out.two p) ?_
    rintro e w3 ⟨v3, rfl, hv3, lv3, L3, hl3, h3, hk3⟩
    rw [← H2.out.2.2.2] at hv3
    rw [← HF2.out] at h3
    obtain ⟨p3, c3, e3⟩ := hv3.form
    subst e3
    have H3 : Hid (LN w w3 l n b F2 (at1 G p none) F2 lv3 L3 ∧ Cl w3 z #[.int .i64 op, .int .i64 p, encStr s] 33 ∧ TR w3 (.slice p2 ys.length c2) ys ∧ TR w3 (.slice p3 ys.length c3) ys ∧ L3.length ≤ L.length) := ⟨h3, hk3.1 z _ H2.out.2.1, hk3.2 _ _ H2.out.2.2.1, hv3, hl3⟩
    clear h3 hk3 hv3 hl3 H2
    have hS2 : w3.cell? ⟨z, 1, none⟩ = some (.int .i64 p) ∧ w3.cell? ⟨z, 2, none⟩ = some (encStr s) := ⟨H3.out.2.1.cell 1, H3.out.2.1.cell 2⟩
    refine hK.out _ _ hS2 (fun _ => ?_)
    clear hK K hS
    have hS := hS2
    clear hS2
    refine wpAnyH_ready (rs := [8]) (by kernel_rfl) (by simp) (AllReadyH.cons rfl (fun K hK => ?_) AllReadyH.nil)
    go_simp
    refine Calls.mono (sameTexts_any _ _ _ _ _ H3.out.2.2.1 H3.out.2.2.2.1) ?_
    rintro e w4 ⟨he, hu⟩
    rw [show (ys == ys) = true by simp] at he
    subst he
    have H4 : Hid (LN w w4 l n b F2 (at1 G p none) F2 lv3 L3 ∧ Cl w4 z #[.int .i64 op, .int .i64 p, encStr s] 33 ∧ L3.length ≤ L.length) := ⟨H3.out.1.upd hu, H3.out.2.1.upd hu (by simp), H3.out.2.2.2.2⟩
    clear hu H3
    have hS2 : w4.cell? ⟨z, 1, none⟩ = some (.int .i64 p) ∧ w4.cell? ⟨z, 2, none⟩ = some (encStr s) := ⟨H4.out.2.1.cell 1, H4.out.2.1.cell 2⟩
    refine hK.out _ _ hS2 (fun _ => ?_)
    clear hK K hS
    have hS := hS2
    clear hS2
    refine wpAnyH_ready (rs := [9]) (by kernel_rfl) (by simp) (AllReadyH.cons rfl (fun K hK => ?_) AllReadyH.nil)
    go_simp
    refine hK.out _ _ hS (fun _ => ?_)
    clear hK K
    refine wpAnyH_done (by kernel_rfl) ?_ _
    go_wp2_with fail
    go_ret
    exact ⟨rfl, n, F2, at1 G p none, lv3, L3, by omega, by have := H4.out.2.2; omega, H4.out.1⟩
  · clear htl
    go_upto_region 5 with fail
    refine wp_region_held_drew (S := fun W => W.cell? ⟨z, 1, none⟩ = some (.int .i64 p) ∧ W.cell? ⟨z, 2, none⟩ = some (encStr s)) (by kernel_rfl) ⟨z1, z2⟩ (fun hS => ?_)
    refine wpAnyH_take (i := 0) (v := .pointer (some ⟨l, 0, none⟩)) rfl (by kernel_rfl) (by kernel_rfl) (by kernel_rfl) (fun _ _ _ h => h) (Or.inl ⟨by rfl, ?_⟩) hS ?_
    · intro W hW; go_simp
    refine wpAnyH_take (i := 1) (v := .pointer (some ⟨z, 2, none⟩)) rfl (by kernel_rfl) (by kernel_rfl) (by kernel_rfl) (fun _ _ _ h => h) (Or.inl ⟨by rfl, ?_⟩) hS ?_
    · intro W hW; go_simp
    simp only [Act.put, List.getElem_toArray, List.getElem_cons_succ, List.getElem_cons_zero, List.setIfInBounds_toArray, List.set_cons_succ, List.set_cons_zero]
    refine wpAnyH_take (i := 2) (v := encStr s) rfl (by kernel_rfl) (by kernel_rfl) (by kernel_rfl) (fun _ _ _ h => h) (Or.inl ⟨by rfl, ?_⟩) hS ?_
    · intro W hW; obtain ⟨e1, e2⟩ := hW; go_simp
    refine wpAnyH_take (i := 4) (v := .pointer (some ⟨b, 0, none⟩)) rfl (by kernel_rfl) (by kernel_rfl) (by kernel_rfl) (fun _ _ _ h => h) (Or.inl ⟨by rfl, ?_⟩) hS ?_
    · intro W hW; go_simp
    refine wpAnyH_take (i := 5) (v := .pointer (some ⟨z, 2, none⟩)) rfl (by kernel_rfl) (by kernel_rfl) (by kernel_rfl) (fun _ _ _ h => h) (Or.inl ⟨by rfl, ?_⟩) hS ?_
    · intro W hW; go_simp
    simp only [Act.put, List.getElem_toArray, List.getElem_cons_succ, List.getElem_cons_zero, List.setIfInBounds_toArray, List.set_cons_succ, List.set_cons_zero]
    refine wpAnyH_take (i := 6) (v := encStr s) rfl (by kernel_rfl) (by kernel_rfl) (by kernel_rfl) (fun _ _ _ h => h) (Or.inl ⟨by rfl, ?_⟩) hS ?_
    · intro W hW; obtain ⟨e1, e2⟩ := hW; go_simp
    simp only [Act.put, List.getElem_toArray, List.getElem_cons_succ, List.getElem_cons_zero, List.setIfInBounds_toArray, List.set_cons_succ, List.set_cons_zero]
    refine wpAnyH_ready (rs := [3]) (by kernel_rfl) (by simp) (AllReadyH.cons rfl (fun K hK => ?_) AllReadyH.nil)
    go_simp
    refine Calls.mono (ln_take (HL.out.upd (Upd.refl [] w1).drew) HI.out.2.2) ?_
    rintro e w2 ⟨rfl, G2, h2, hk2⟩
    have H2 : Hid (LN w w2 l n b (at1 F s none) G2 F lv L ∧ Cl w2 z #[.int .i64 op, .int .i64 p, encStr s] 33) := ⟨h2, hk2.1 z _ (HZ.out.upd (Upd.refl [] w1).drew (by simp))⟩
    clear h2 hk2
    have hS2 : w2.cell? ⟨z, 1, none⟩ = some (.int .i64 p) ∧ w2.cell? ⟨z, 2, none⟩ = some (encStr s) := ⟨H2.out.2.cell 1, H2.out.2.cell 2⟩
    refine hK.out _ _ hS2 (fun _ => ?_)
    clear hK K hS
    have hS := hS2
    clear hS2
    refine wpAnyH_ready (rs := [7]) (by kernel_rfl) (by simp) (AllReadyH.cons rfl (fun K hK => ?_) AllReadyH.nil)
    go_simp
    refine Calls.mono (ln_takeR H2.out.1 (by omega) s) ?_
    rintro e w3 ⟨rfl, lv3, L3, hl3, h3, hk3⟩
    have H3 : Hid (LN w w3 l n b (at1 F s none) G2 (at1 F s none) lv3 L3 ∧ Cl w3 z #[.int .i64 op, .int .i64 p, encStr s] 33 ∧ L3.length ≤ L.length) := ⟨h3, hk3.1 z _ H2.out.2, hl3⟩
    clear h3 hk3 hl3 H2
    have hS2 : w3.cell? ⟨z, 1, none⟩ = some (.int .i64 p) ∧ w3.cell? ⟨z, 2, none⟩ = some (encStr s) := ⟨H3.out.2.1.cell 1, H3.out.2.1.cell 2⟩
    refine hK.out _ _ hS2 (fun _ => ?_)
    clear hK K hS
    have hS := hS2
    clear hS2
    generalize (F s).isSome = bb
    have hbb : (bb == bb) = true := by simp
    refine wpAnyH_ready (rs := [8]) (by kernel_rfl) (by simp) (AllReadyH.cons rfl (fun K hK => ?_) AllReadyH.nil)
    go_simp
    refine hK.out _ _ hS (fun _ => ?_)
    clear hK K
    refine wpAnyH_ready (rs := [9]) (by kernel_rfl) (by simp) (AllReadyH.cons rfl (fun K hK => ?_) AllReadyH.nil)
    go_simp
    refine hK.out _ _ hS (fun _ => ?_)
    clear hK K
    refine wpAnyH_done (by kernel_rfl) ?_ _
    go_wp2_with fail
    go_ret
    exact ⟨by simp, n, at1 F s none, G2, lv3, L3, by omega, by have := H3.out.2.2; omega, H3.out.1⟩
  · clear htl
    go_wp2_with fail
    refine Calls.mono (ln_find HL.out HI.out.2.2) ?_
    rintro e w2 ⟨rfl, h2, hk2⟩
    have H2 : Hid (LN w w2 l n b F G F lv L) := h2
    have z2' : w2.cell? ⟨z, 2, none⟩ = some (encStr s) := (hk2.1 z _ HZ.out).cell 2
    clear h2 hk2 z1 z2
    go_wp2_with fail
    refine Calls.mono (ln_findR H2.out (by omega) s) ?_
    rintro e w3 ⟨rfl, hw3⟩
    rw [hw3]
    clear hw3 w3
    generalize (F s).getD 0 = fv
    generalize (F s).isSome = bb
    have hbb : (bb == bb) = true := by simp
    have hvv : (fv == fv) = true := by simp
    go_wp2_with fail
    go_ret
    exact ⟨by simp, n, _, _, lv, L, by omega, by omega, H2.out⟩
  · clear htl
    go_wp2_with fail
    refine Calls.mono (ln_find HL.out HI.out.2.2) ?_
    rintro e w2 ⟨rfl, h2, hk2⟩
    have H2 : Hid (LN w w2 l n b F G F lv L) := h2
    have z2' : w2.cell? ⟨z, 2, none⟩ = some (encStr s) := (hk2.1 z _ HZ.out).cell 2
    clear h2 hk2 z1 z2
    go_wp2_with fail
    refine Calls.mono (ln_findR H2.out (by omega) s) ?_
    rintro e w3 ⟨rfl, hw3⟩
    rw [hw3]
    clear hw3 w3
    generalize (F s).getD 0 = fv
    generalize (F s).isSome = bb
    have hbb : (bb == bb) = true := by simp
    have hvv : (fv == fv) = true := by simp
    go_wp2_with fail
    go_ret
    exact ⟨by simp, n, _, _, lv, L, by omega, by omega, H2.out⟩
  · have t0 : (t == 0) = false := beq_eq_false_iff_ne.2 (by omega)
    have t1 : (t == 1) = false := beq_eq_false_iff_ne.2 (by omega)
    have t2 : (t == 2) = false := beq_eq_false_iff_ne.2 (by omega)
    have t3 : (t == 3) = false := beq_eq_false_iff_ne.2 (by omega)
    clear ht3 htl
    go_upto_region 11 with fail
    refine wp_region_held_drew (S := fun W => W.cell? ⟨z, 1, none⟩ = some (.int .i64 p) ∧ W.cell? ⟨z, 2, none⟩ = some (encStr s)) (by kernel_rfl) ⟨z1, z2⟩ (fun hS => ?_)
    refine wpAnyH_take (i := 0) (v := .pointer (some ⟨l, 0, none⟩)) rfl (by kernel_rfl) (by kernel_rfl) (by kernel_rfl) (fun _ _ _ h => h) (Or.inl ⟨by rfl, ?_⟩) hS ?_
    · intro W hW; go_simp
    refine wpAnyH_take (i := 1) (v := .pointer (some ⟨z, 2, none⟩)) rfl (by kernel_rfl) (by kernel_rfl) (by kernel_rfl) (fun _ _ _ h => h) (Or.inl ⟨by rfl, ?_⟩) hS ?_
    · intro W hW; go_simp
    simp only [Act.put, List.getElem_toArray, List.getElem_cons_succ, List.getElem_cons_zero, List.setIfInBounds_toArray, List.set_cons_succ, List.set_cons_zero]
    refine wpAnyH_take (i := 2) (v := encStr s) rfl (by kernel_rfl) (by kernel_rfl) (by kernel_rfl) (fun _ _ _ h => h) (Or.inl ⟨by rfl, ?_⟩) hS ?_
    · intro W hW; obtain ⟨e1, e2⟩ := hW; go_simp
    refine wpAnyH_take (i := 3) (v := .pointer (some ⟨z, 1, none⟩)) rfl (by kernel_rfl) (by kernel_rfl) (by kernel_rfl) (fun _ _ _ h => h) (Or.inl ⟨by rfl, ?_⟩) hS ?_
    · intro W hW; go_simp
    simp only [Act.put, List.getElem_toArray, List.getElem_cons_succ, List.getElem_cons_zero, List.setIfInBounds_toArray, List.set_cons_succ, List.set_cons_zero]
    refine wpAnyH_take (i := 4) (v := .int .i64 p) rfl (by kernel_rfl) (by kernel_rfl) (by kernel_rfl) (fun _ _ _ h => h) (Or.inl ⟨by rfl, ?_⟩) hS ?_
    · intro W hW; obtain ⟨e1, e2⟩ := hW; go_simp
    refine wpAnyH_take (i := 6) (v := .pointer (some ⟨b, 0, none⟩)) rfl (by kernel_rfl) (by kernel_rfl) (by kernel_rfl) (fun _ _ _ h => h) (Or.inl ⟨by rfl, ?_⟩) hS ?_
    · intro W hW; go_simp
    refine wpAnyH_take (i := 7) (v := .pointer (some ⟨z, 2, none⟩)) rfl (by kernel_rfl) (by kernel_rfl) (by kernel_rfl) (fun _ _ _ h => h) (Or.inl ⟨by rfl, ?_⟩) hS ?_
    · intro W hW; go_simp
    simp only [Act.put, List.getElem_toArray, List.getElem_cons_succ, List.getElem_cons_zero, List.setIfInBounds_toArray, List.set_cons_succ, List.set_cons_zero]
    refine wpAnyH_take (i := 8) (v := encStr s) rfl (by kernel_rfl) (by kernel_rfl) (by kernel_rfl) (fun _ _ _ h => h) (Or.inl ⟨by rfl, ?_⟩) hS ?_
    · intro W hW; obtain ⟨e1, e2⟩ := hW; go_simp
    refine wpAnyH_take (i := 9) (v := .pointer (some ⟨z, 1, none⟩)) rfl (by kernel_rfl) (by kernel_rfl) (by kernel_rfl) (fun _ _ _ h => h) (Or.inl ⟨by rfl, ?_⟩) hS ?_
    · intro W hW; go_simp
    simp only [Act.put, List.getElem_toArray, List.getElem_cons_succ, List.getElem_cons_zero, List.setIfInBounds_toArray, List.set_cons_succ, List.set_cons_zero]
    refine wpAnyH_take (i := 10) (v := .int .i64 p) rfl (by kernel_rfl) (by kernel_rfl) (by kernel_rfl) (fun _ _ _ h => h) (Or.inl ⟨by rfl, ?_⟩) hS ?_
    · intro W hW; obtain ⟨e1, e2⟩ := hW; go_simp
    simp only [Act.put, List.getElem_toArray, List.getElem_cons_succ, List.getElem_cons_zero, List.setIfInBounds_toArray, List.set_cons_succ, List.set_cons_zero]
    refine wpAnyH_ready (rs := [5]) (by kernel_rfl) (by simp) (AllReadyH.cons rfl (fun K hK => ?_) AllReadyH.nil)
    go_simp
    refine Calls.mono (ln_put (HL.out.upd (Upd.refl [] w1).drew) (by omega) HI.out.2.1 HI.out.1) ?_
    rintro e w2 ⟨rfl, G2, h2, hk2⟩
    have H2 : Hid (LN w w2 l (n + 1) b (if ((F s).isNone && (G p).isNone) = true then at1 F s (some p) else F) G2 F lv L ∧ Cl w2 z #[.int .i64 op, .int .i64 p, encStr s] 33) := ⟨h2, hk2.1 z _ (HZ.out.upd (Upd.refl [] w1).drew (by simp))⟩
    clear h2 hk2
    have hS2 : w2.cell? ⟨z, 1, none⟩ = some (.int .i64 p) ∧ w2.cell? ⟨z, 2, none⟩ = some (encStr s) := ⟨H2.out.2.cell 1, H2.out.2.cell 2⟩
    refine hK.out _ _ hS2 (fun _ => ?_)
    clear hK K hS
    have hS := hS2
    clear hS2
    refine wpAnyH_ready (rs := [11]) (by kernel_rfl) (by simp) (AllReadyH.cons rfl (fun K hK => ?_) AllReadyH.nil)
    go_simp
    refine Calls.mono (ln_putR H2.out.1 (by omega) HL.out.two s p) ?_
    rintro e w3 ⟨rfl, lv3, L3, hl3, h3, hk3⟩
    have H3 : Hid (LN w w3 l (n + 1) b (if ((F s).isNone && (G p).isNone) = true then at1 F s (some p) else F) G2 (if ((F s).isNone && (G p).isNone) = true then at1 F s (some p) else F) lv3 L3 ∧ Cl w3 z #[.int .i64 op, .int .i64 p, encStr s] 33 ∧ L3.length ≤ L.length + 1) := ⟨h3, hk3.1 z _ H2.out.2, hl3⟩
    clear h3 hk3 hl3 H2
    have hS2 : w3.cell? ⟨z, 1, none⟩ = some (.int .i64 p) ∧ w3.cell? ⟨z, 2, none⟩ = some (encStr s) := ⟨H3.out.2.1.cell 1, H3.out.2.1.cell 2⟩
    refine hK.out _ _ hS2 (fun _ => ?_)
    clear hK K hS
    have hS := hS2
    clear hS2
    obtain ⟨F3, hF3⟩ : ∃ F3, F3 = (if ((F s).isNone && (G p).isNone) = true then at1 F s (some p) else F) := ⟨_, rfl⟩
    rw [← hF3] at H3
    clear hF3
    generalize ((F s).isNone && (G p).isNone) = bb
    have hbb : (bb == bb) = true := by simp
    refine wpAnyH_ready (rs := [12]) (by kernel_rfl) (by simp) (AllReadyH.cons rfl (fun K hK => ?_) AllReadyH.nil)
    go_simp
    refine hK.out _ _ hS (fun _ => ?_)
    clear hK K
    refine wpAnyH_ready (rs := [13]) (by kernel_rfl) (by simp) (AllReadyH.cons rfl (fun K hK => ?_) AllReadyH.nil)
    go_simp
    refine hK.out _ _ hS (fun _ => ?_)
    clear hK K
    refine wpAnyH_done (by kernel_rfl) ?_ _
    go_wp2_with fail
    go_ret
    exact ⟨by simp, n + 1, F3, G2, lv3, L3, by omega, H3.out.2.2, H3.out.1⟩

end Go.Proofs.YtpojkmpimnnjiaaGreat
