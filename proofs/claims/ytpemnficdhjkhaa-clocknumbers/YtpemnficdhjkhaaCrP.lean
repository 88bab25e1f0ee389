/- One step, by both clocks. -/
import Derived.Test.YtpemnficdhjkhaaCrO
import Derived.Deep.Cut
import Derived.Deep.RegionHeld3
namespace Go.Proofs.Ytpemnficdhjkhaa
open Go.RowKit Go.Maps

set_option maxHeartbeats 8000000 in
set_option maxRecDepth 100000 in
theorem step_any {w wr : World} {c n b : Nat} {P : Nat → Prop} {now : Int} {T : TF} {lv : Value} {L : List (Int × Int)} (h : LC w wr c n b P now now T T lv L) (hn : n ≤ 200) (op x m : Int) (hx : I64 x) :
    Calls Try.prog 6 #[.pointer (some ⟨c, 0, none⟩), .pointer (some ⟨b, 0, none⟩), .agg #[.int .i64 op, .int .i64 x, .int .i64 m]] wr fun e w' => e = .returned (.bool true) ∧ ∃ P' n' now' T' lv' L', n' ≤ n + 1 ∧ LC w w' c n' b P' now' now' T' T' lv' L' := by
  obtain ⟨w1, hw1⟩ : ∃ w1, w1 = wr.alloc (.cells #[.int .i64 op, .int .i64 x, .int .i64 m] 31) := ⟨_, rfl⟩
  have u1 : Upd [] wr w1 := by rw [hw1]; exact (Upd.refl [] wr).alloc _
  obtain ⟨z, hz⟩ : ∃ z, z = wr.heap.size := ⟨_, rfl⟩
  have hcz : Cl w1 z #[.int .i64 op, .int .i64 x, .int .i64 m] 31 := by rw [hw1, hz]; exact Cl.new _ _ _ _ rfl
  have HL : Hid (LC w w1 c n b P now now T T lv L) := h.upd u1
  have HZ : Hid (Cl w1 z #[.int .i64 op, .int .i64 x, .int .i64 m] 31 ∧ ¬ P z) := ⟨hcz, fun hp => by have := h.own.ck.bnd z hp; omega⟩
  have HI : Hid (I64 x) := hx
  obtain ⟨hnw0, hnw1⟩ := h.own.ck.nows
  have z0 : w1.cell? ⟨z, 0, none⟩ = some (.int .i64 op) := hcz.cell 0
  have z1 : w1.cell? ⟨z, 1, none⟩ = some (.int .i64 x) := hcz.cell 1
  have z2 : w1.cell? ⟨z, 2, none⟩ = some (.int .i64 m) := hcz.cell 2
  have HW1 : Hid (w1 = wr.alloc (.cells #[.int .i64 op, .int .i64 x, .int .i64 m] 31)) := hw1
  have HZZ : Hid (z = wr.heap.size) := hz
  clear h u1 hcz hx hw1 hz
  go_enter Try.func6, Try.ntmps6
  go_upto_region 1 with fail
  rw [← HW1.out, ← HZZ.out]
  clear HW1 HZZ
  go_wp2_with fail
  refine Calls.mono (pick_any op 7 (by omega) (by omega) _) ?_
  rintro e w5 ⟨rfl, hw5⟩
  rw [hw5]
  clear hw5 w5 z0
  obtain ⟨t, ht⟩ : ∃ t, t = pk op 7 := ⟨_, rfl⟩
  have htl : 0 ≤ t ∧ t < 7 := by rw [ht]; exact pk_lt op (by omega)
  rw [← ht]
  clear ht
  rcases (by omega : t = 0 ∨ t = 1 ∨ t = 2 ∨ 3 ≤ t) with rfl | rfl | rfl | ht3
  · clear htl
    have m2 : w1.cell? ⟨z, 2, none⟩ = some (.int .i64 m) := z2
    by_cases hbad : m < 0 ∨ 1099511627776 - now < m
    · have HB : Hid (m < 0 ∨ 1099511627776 - now < m) := hbad
      clear hbad
      go_wp2_with fail
      refine Calls.mono (tick_not HL.out.own.ck HB.out) ?_
      rintro e w2 ⟨rfl, hu2⟩
      have H2 : Hid (LC w w2 c n b P now now T T lv L) := HL.out.upd hu2
      have z2 : w2.cell? ⟨z, 2, none⟩ = some (.int .i64 m) := (HZ.out.1.upd hu2 (by simp)).cell 2
      clear hu2 m2
      go_wp2_with fail
      refine Calls.mono (lc_tickR H2.out (by omega) hnw0 hnw1 m) ?_
      rintro e w3 (⟨_, rfl, hw3⟩ | ⟨hno, _⟩)
      · subst hw3
        go_wp2_with fail
        refine Calls.mono (sameInts_any _ 0 0 (.slice none 0 0) (.slice none 0 0) [] [] (Or.inl ⟨rfl, _, rfl⟩) (Or.inl ⟨rfl, _, rfl⟩)) ?_
        rintro e w4 ⟨he, hu4⟩
        obtain rfl : e = .returned (.bool true) := he
        have H4 : Hid (LC w w4 c n b P now now T T lv L) := H2.out.upd hu4
        clear hu4
        go_wp2_with fail
        go_ret
        exact ⟨by simp, P, n, now, T, lv, L, by omega, H4.out⟩
      · exact absurd HB.out hno
    · have hm0 : 0 ≤ m := by omega
      have hm1 : m ≤ 1099511627776 - now := by omega
      have HB : Hid (¬ (m < 0 ∨ 1099511627776 - now < m)) := hbad
      clear hbad
      go_wp2_with fail
      refine Calls.mono (lc_tick HL.out (by omega) hm0 hm1) ?_
      rintro e w2 ⟨v, ys, rfl, hA, hd, h2, hk2, hbl⟩
      obtain ⟨p2, c2, hv2⟩ := hA.form
      subst hv2
      have H2 : Hid (LC w w2 c n b P (now + m) now (tickT T (now + m)) T lv L ∧ AR w2 w1.heap.size (.slice p2 ys.length c2) ys ∧ Due T (now + m) ys ∧ b < w1.heap.size) := ⟨h2, hA, hd, hbl⟩
      have z2 : w2.cell? ⟨z, 2, none⟩ = some (.int .i64 m) := (hk2 z _ HZ.out.1 HZ.out.2).1.cell 2
      clear hA hd h2 hk2 hbl m2
      go_wp2_with fail
      refine Calls.mono (lc_tickR H2.out.1 (by omega) hnw0 hnw1 m) ?_
      rintro e w3 (⟨hno, _⟩ | ⟨_, v3, zs, rfl, hA3, hd3, lv3, L3, h3, hk3, hu3⟩)
      · exact absurd hno HB.out
      · obtain ⟨p3, c3, hv3⟩ := hA3.form
        subst hv3
        obtain rfl := H2.out.2.2.1.one hd3
        have H3 : Hid (LC w w3 c n b P (now + m) (now + m) (tickT T (now + m)) (tickT T (now + m)) lv3 L3 ∧ AR w3 w1.heap.size (.slice p2 ys.length c2) ys ∧ AR w3 0 (.slice p3 ys.length c3) ys) := ⟨h3, H2.out.2.1.mono hu3.toP (fun x hx => Or.inl (by have h1 := H2.out.2.2.2; have h2 : x = b := (by simpa using hx); omega)), hA3⟩
        clear hA3 hd3 h3 hk3 hu3
        go_wp2_with fail
        refine Calls.mono (sameInts_any _ _ _ _ _ _ _ H3.out.2.1 H3.out.2.2) ?_
        rintro e w4 ⟨he, hu4⟩
        rw [show (ys == ys) = true by simp] at he
        subst he
        have H4 : Hid (LC w w4 c n b P (now + m) (now + m) (tickT T (now + m)) (tickT T (now + m)) lv3 L3) := H3.out.1.upd hu4
        clear hu4
        go_wp2_with fail
        go_ret
        exact ⟨by simp, P, n, now + m, tickT T (now + m), lv3, L3, by omega, H4.out⟩
  · clear htl
    have m2 : w1.cell? ⟨z, 2, none⟩ = some (.int .i64 m) := z2
    by_cases hbad : m < 0 ∨ 1099511627776 - now < m
    · have HB : Hid (m < 0 ∨ 1099511627776 - now < m) := hbad
      clear hbad
      go_wp2_with fail
      refine Calls.mono (tick_not HL.out.own.ck HB.out) ?_
      rintro e w2 ⟨rfl, hu2⟩
      have H2 : Hid (LC w w2 c n b P now now T T lv L) := HL.out.upd hu2
      have z2 : w2.cell? ⟨z, 2, none⟩ = some (.int .i64 m) := (HZ.out.1.upd hu2 (by simp)).cell 2
      clear hu2 m2
      go_wp2_with fail
      refine Calls.mono (lc_tickR H2.out (by omega) hnw0 hnw1 m) ?_
      rintro e w3 (⟨_, rfl, hw3⟩ | ⟨hno, _⟩)
      · subst hw3
        go_wp2_with fail
        refine Calls.mono (sameInts_any _ 0 0 (.slice none 0 0) (.slice none 0 0) [] [] (Or.inl ⟨rfl, _, rfl⟩) (Or.inl ⟨rfl, _, rfl⟩)) ?_
        rintro e w4 ⟨he, hu4⟩
        obtain rfl : e = .returned (.bool true) := he
        have H4 : Hid (LC w w4 c n b P now now T T lv L) := H2.out.upd hu4
        clear hu4
        go_wp2_with fail
        go_ret
        exact ⟨by simp, P, n, now, T, lv, L, by omega, H4.out⟩
      · exact absurd HB.out hno
    · have hm0 : 0 ≤ m := by omega
      have hm1 : m ≤ 1099511627776 - now := by omega
      have HB : Hid (¬ (m < 0 ∨ 1099511627776 - now < m)) := hbad
      clear hbad
      go_wp2_with fail
      refine Calls.mono (lc_tick HL.out (by omega) hm0 hm1) ?_
      rintro e w2 ⟨v, ys, rfl, hA, hd, h2, hk2, hbl⟩
      obtain ⟨p2, c2, hv2⟩ := hA.form
      subst hv2
      have H2 : Hid (LC w w2 c n b P (now + m) now (tickT T (now + m)) T lv L ∧ AR w2 w1.heap.size (.slice p2 ys.length c2) ys ∧ Due T (now + m) ys ∧ b < w1.heap.size) := ⟨h2, hA, hd, hbl⟩
      have z2 : w2.cell? ⟨z, 2, none⟩ = some (.int .i64 m) := (hk2 z _ HZ.out.1 HZ.out.2).1.cell 2
      clear hA hd h2 hk2 hbl m2
      go_wp2_with fail
      refine Calls.mono (lc_tickR H2.out.1 (by omega) hnw0 hnw1 m) ?_
      rintro e w3 (⟨hno, _⟩ | ⟨_, v3, zs, rfl, hA3, hd3, lv3, L3, h3, hk3, hu3⟩)
      · exact absurd hno HB.out
      · obtain ⟨p3, c3, hv3⟩ := hA3.form
        subst hv3
        obtain rfl := H2.out.2.2.1.one hd3
        have H3 : Hid (LC w w3 c n b P (now + m) (now + m) (tickT T (now + m)) (tickT T (now + m)) lv3 L3 ∧ AR w3 w1.heap.size (.slice p2 ys.length c2) ys ∧ AR w3 0 (.slice p3 ys.length c3) ys) := ⟨h3, H2.out.2.1.mono hu3.toP (fun x hx => Or.inl (by have h1 := H2.out.2.2.2; have h2 : x = b := (by simpa using hx); omega)), hA3⟩
        clear hA3 hd3 h3 hk3 hu3
        go_wp2_with fail
        refine Calls.mono (sameInts_any _ _ _ _ _ _ _ H3.out.2.1 H3.out.2.2) ?_
        rintro e w4 ⟨he, hu4⟩
        rw [show (ys == ys) = true by simp] at he
        subst he
        have H4 : Hid (LC w w4 c n b P (now + m) (now + m) (tickT T (now + m)) (tickT T (now + m)) lv3 L3) := H3.out.1.upd hu4
        clear hu4
        go_wp2_with fail
        go_ret
        exact ⟨by simp, P, n, now + m, tickT T (now + m), lv3, L3, by omega, H4.out⟩
  · clear htl
    go_upto_region 8 with fail
    refine wp_region_held_drew (S := fun W => W.cell? ⟨z, 1, none⟩ = some (.int .i64 x) ∧ W.cell? ⟨z, 2, none⟩ = some (.int .i64 m)) (by kernel_rfl) ⟨z1, z2⟩ (fun hS => ?_)
    refine wpAnyH_take (i := 0) (v := .pointer (some ⟨c, 0, none⟩)) rfl (by kernel_rfl) (by kernel_rfl) (by kernel_rfl) (fun _ _ _ h => h) (Or.inl ⟨by rfl, ?_⟩) hS ?_
    · intro W hW; go_simp
    refine wpAnyH_take (i := 1) (v := .pointer (some ⟨z, 1, none⟩)) rfl (by kernel_rfl) (by kernel_rfl) (by kernel_rfl) (fun _ _ _ h => h) (Or.inl ⟨by rfl, ?_⟩) hS ?_
    · intro W hW; go_simp
    simp only [Act.put, List.getElem_toArray, List.getElem_cons_succ, List.getElem_cons_zero, List.setIfInBounds_toArray, List.set_cons_succ, List.set_cons_zero]
    refine wpAnyH_take (i := 2) (v := .int .i64 x) rfl (by kernel_rfl) (by kernel_rfl) (by kernel_rfl) (fun _ _ _ h => h) (Or.inl ⟨by rfl, ?_⟩) hS ?_
    · intro W hW; obtain ⟨e1, e2⟩ := hW; go_simp
    refine wpAnyH_take (i := 4) (v := .pointer (some ⟨b, 0, none⟩)) rfl (by kernel_rfl) (by kernel_rfl) (by kernel_rfl) (fun _ _ _ h => h) (Or.inl ⟨by rfl, ?_⟩) hS ?_
    · intro W hW; go_simp
    refine wpAnyH_take (i := 5) (v := .pointer (some ⟨z, 1, none⟩)) rfl (by kernel_rfl) (by kernel_rfl) (by kernel_rfl) (fun _ _ _ h => h) (Or.inl ⟨by rfl, ?_⟩) hS ?_
    · intro W hW; go_simp
    simp only [Act.put, List.getElem_toArray, List.getElem_cons_succ, List.getElem_cons_zero, List.setIfInBounds_toArray, List.set_cons_succ, List.set_cons_zero]
    refine wpAnyH_take (i := 6) (v := .int .i64 x) rfl (by kernel_rfl) (by kernel_rfl) (by kernel_rfl) (fun _ _ _ h => h) (Or.inl ⟨by rfl, ?_⟩) hS ?_
    · intro W hW; obtain ⟨e1, e2⟩ := hW; go_simp
    simp only [Act.put, List.getElem_toArray, List.getElem_cons_succ, List.getElem_cons_zero, List.setIfInBounds_toArray, List.set_cons_succ, List.set_cons_zero]
    refine wpAnyH_ready (rs := [3]) (by kernel_rfl) (by simp) (AllReadyH.cons rfl (fun K hK => ?_) AllReadyH.nil)
    go_simp
    refine Calls.mono (lc_drop (HL.out.upd (Upd.refl [] w1).drew) (by omega) HI.out) ?_
    rintro e w2 ⟨rfl, P2, h2, hk2⟩
    have H2 : Hid (LC w w2 c n b P2 now now (at1 T x none) T lv L ∧ Cl w2 z #[.int .i64 op, .int .i64 x, .int .i64 m] 31 ∧ ¬ P2 z) := ⟨h2, hk2 z _ (HZ.out.1.upd (Upd.refl [] w1).drew (by simp)) HZ.out.2⟩
    have hS2 : w2.cell? ⟨z, 1, none⟩ = some (.int .i64 x) ∧ w2.cell? ⟨z, 2, none⟩ = some (.int .i64 m) := ⟨H2.out.2.1.cell 1, H2.out.2.1.cell 2⟩
    refine hK.out _ _ hS2 (fun _ => ?_)
    clear hK K h2 hk2 hS
    have hS := hS2
    clear hS2
    refine wpAnyH_ready (rs := [7]) (by kernel_rfl) (by simp) (AllReadyH.cons rfl (fun K hK => ?_) AllReadyH.nil)
    go_simp
    refine Calls.mono (lc_dropR H2.out.1 (by omega) x) ?_
    rintro e w3 ⟨rfl, lv3, L3, h3, hk3⟩
    have H3 : Hid (LC w w3 c n b P2 now now (at1 T x none) (at1 T x none) lv3 L3) := h3
    have hS2 : w3.cell? ⟨z, 1, none⟩ = some (.int .i64 x) ∧ w3.cell? ⟨z, 2, none⟩ = some (.int .i64 m) := ⟨(hk3 z _ H2.out.2.1 H2.out.2.2).1.cell 1, (hk3 z _ H2.out.2.1 H2.out.2.2).1.cell 2⟩
    refine hK.out _ _ hS2 (fun _ => ?_)
    clear hK K h3 hk3 hS
    have hS := hS2
    clear hS2
    generalize (T x).isSome = bb
    have hbb : (bb == bb) = true := by simp
    refine wpAnyH_ready (rs := [8]) (by kernel_rfl) (by simp) (AllReadyH.cons rfl (fun K hK => ?_) AllReadyH.nil)
    go_simp
    refine hK.out _ _ hS (fun _ => ?_)
    clear hK K
    refine wpAnyH_ready (rs := [9]) (by kernel_rfl) (by simp) (AllReadyH.cons rfl (fun K hK => ?_) AllReadyH.nil)
    go_simp
    refine hK.out _ _ hS (fun _ => ?_)
    clear hK K
    refine wpAnyH_done (by kernel_rfl) ?_ _
    go_wp2_with fail
    go_ret
    exact ⟨by simp, P2, n, now, at1 T x none, lv3, L3, by omega, H3.out⟩
  · have t0 : (t == 0) = false := beq_eq_false_iff_ne.2 (by omega)
    have t1 : (t == 1) = false := beq_eq_false_iff_ne.2 (by omega)
    have t2 : (t == 2) = false := beq_eq_false_iff_ne.2 (by omega)
    clear ht3 htl
    go_upto_region 9 with fail
    refine wp_region_held_drew (S := fun W => W.cell? ⟨z, 1, none⟩ = some (.int .i64 x) ∧ W.cell? ⟨z, 2, none⟩ = some (.int .i64 m)) (by kernel_rfl) ⟨z1, z2⟩ (fun hS => ?_)
    refine wpAnyH_take (i := 0) (v := .pointer (some ⟨c, 0, none⟩)) rfl (by kernel_rfl) (by kernel_rfl) (by kernel_rfl) (fun _ _ _ h => h) (Or.inl ⟨by rfl, ?_⟩) hS ?_
    · intro W hW; go_simp
    refine wpAnyH_take (i := 1) (v := .pointer (some ⟨z, 1, none⟩)) rfl (by kernel_rfl) (by kernel_rfl) (by kernel_rfl) (fun _ _ _ h => h) (Or.inl ⟨by rfl, ?_⟩) hS ?_
    · intro W hW; go_simp
    simp only [Act.put, List.getElem_toArray, List.getElem_cons_succ, List.getElem_cons_zero, List.setIfInBounds_toArray, List.set_cons_succ, List.set_cons_zero]
    refine wpAnyH_take (i := 2) (v := .int .i64 x) rfl (by kernel_rfl) (by kernel_rfl) (by kernel_rfl) (fun _ _ _ h => h) (Or.inl ⟨by rfl, ?_⟩) hS ?_
    · intro W hW; obtain ⟨e1, e2⟩ := hW; go_simp
    refine wpAnyH_take (i := 3) (v := .pointer (some ⟨z, 2, none⟩)) rfl (by kernel_rfl) (by kernel_rfl) (by kernel_rfl) (fun _ _ _ h => h) (Or.inl ⟨by rfl, ?_⟩) hS ?_
    · intro W hW; go_simp
    simp only [Act.put, List.getElem_toArray, List.getElem_cons_succ, List.getElem_cons_zero, List.setIfInBounds_toArray, List.set_cons_succ, List.set_cons_zero]
    refine wpAnyH_take (i := 4) (v := .int .i64 m) rfl (by kernel_rfl) (by kernel_rfl) (by kernel_rfl) (fun _ _ _ h => h) (Or.inl ⟨by rfl, ?_⟩) hS ?_
    · intro W hW; obtain ⟨e1, e2⟩ := hW; go_simp
    refine wpAnyH_take (i := 6) (v := .pointer (some ⟨b, 0, none⟩)) rfl (by kernel_rfl) (by kernel_rfl) (by kernel_rfl) (fun _ _ _ h => h) (Or.inl ⟨by rfl, ?_⟩) hS ?_
    · intro W hW; go_simp
    refine wpAnyH_take (i := 7) (v := .pointer (some ⟨z, 1, none⟩)) rfl (by kernel_rfl) (by kernel_rfl) (by kernel_rfl) (fun _ _ _ h => h) (Or.inl ⟨by rfl, ?_⟩) hS ?_
    · intro W hW; go_simp
    simp only [Act.put, List.getElem_toArray, List.getElem_cons_succ, List.getElem_cons_zero, List.setIfInBounds_toArray, List.set_cons_succ, List.set_cons_zero]
    refine wpAnyH_take (i := 8) (v := .int .i64 x) rfl (by kernel_rfl) (by kernel_rfl) (by kernel_rfl) (fun _ _ _ h => h) (Or.inl ⟨by rfl, ?_⟩) hS ?_
    · intro W hW; obtain ⟨e1, e2⟩ := hW; go_simp
    refine wpAnyH_take (i := 9) (v := .pointer (some ⟨z, 2, none⟩)) rfl (by kernel_rfl) (by kernel_rfl) (by kernel_rfl) (fun _ _ _ h => h) (Or.inl ⟨by rfl, ?_⟩) hS ?_
    · intro W hW; go_simp
    simp only [Act.put, List.getElem_toArray, List.getElem_cons_succ, List.getElem_cons_zero, List.setIfInBounds_toArray, List.set_cons_succ, List.set_cons_zero]
    refine wpAnyH_take (i := 10) (v := .int .i64 m) rfl (by kernel_rfl) (by kernel_rfl) (by kernel_rfl) (fun _ _ _ h => h) (Or.inl ⟨by rfl, ?_⟩) hS ?_
    · intro W hW; obtain ⟨e1, e2⟩ := hW; go_simp
    simp only [Act.put, List.getElem_toArray, List.getElem_cons_succ, List.getElem_cons_zero, List.setIfInBounds_toArray, List.set_cons_succ, List.set_cons_zero]
    refine wpAnyH_ready (rs := [5]) (by kernel_rfl) (by simp) (AllReadyH.cons rfl (fun K hK => ?_) AllReadyH.nil)
    go_simp
    refine Calls.mono (lc_set (HL.out.upd (Upd.refl [] w1).drew) (by omega) HI.out m) ?_
    rintro e w2 ⟨rfl, P2, h2, hk2⟩
    have H2 : Hid (LC w w2 c (n + 1) b P2 now now (setT T now x m) T lv L ∧ Cl w2 z #[.int .i64 op, .int .i64 x, .int .i64 m] 31 ∧ ¬ P2 z) := ⟨h2, hk2 z _ (HZ.out.1.upd (Upd.refl [] w1).drew (by simp)) HZ.out.2⟩
    have hS2 : w2.cell? ⟨z, 1, none⟩ = some (.int .i64 x) ∧ w2.cell? ⟨z, 2, none⟩ = some (.int .i64 m) := ⟨H2.out.2.1.cell 1, H2.out.2.1.cell 2⟩
    refine hK.out _ _ hS2 (fun _ => ?_)
    clear hK K h2 hk2 hS
    have hS := hS2
    clear hS2
    refine wpAnyH_ready (rs := [11]) (by kernel_rfl) (by simp) (AllReadyH.cons rfl (fun K hK => ?_) AllReadyH.nil)
    go_simp
    refine Calls.mono (lc_setR H2.out.1 (by omega) HL.out.len hnw0 hnw1 x m) ?_
    rintro e w3 ⟨rfl, lv3, L3, h3, hk3⟩
    have H3 : Hid (LC w w3 c (n + 1) b P2 now now (setT T now x m) (setT T now x m) lv3 L3) := h3
    have hS2 : w3.cell? ⟨z, 1, none⟩ = some (.int .i64 x) ∧ w3.cell? ⟨z, 2, none⟩ = some (.int .i64 m) := ⟨(hk3 z _ H2.out.2.1 H2.out.2.2).1.cell 1, (hk3 z _ H2.out.2.1 H2.out.2.2).1.cell 2⟩
    refine hK.out _ _ hS2 (fun _ => ?_)
    clear hK K h3 hk3 hS
    have hS := hS2
    clear hS2
    generalize setB T x m = bb
    have hbb : (bb == bb) = true := by simp
    refine wpAnyH_ready (rs := [12]) (by kernel_rfl) (by simp) (AllReadyH.cons rfl (fun K hK => ?_) AllReadyH.nil)
    go_simp
    refine hK.out _ _ hS (fun _ => ?_)
    clear hK K
    refine wpAnyH_ready (rs := [13]) (by kernel_rfl) (by simp) (AllReadyH.cons rfl (fun K hK => ?_) AllReadyH.nil)
    go_simp
    refine hK.out _ _ hS (fun _ => ?_)
    clear hK K
    refine wpAnyH_done (by kernel_rfl) ?_ _
    go_wp2_with fail
    go_ret
    exact ⟨by simp, P2, n + 1, now, setT T now x m, lv3, L3, by omega, H3.out⟩

end Go.Proofs.Ytpemnficdhjkhaa
