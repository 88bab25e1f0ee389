/- The reference's Unwatch. -/
import Derived.Test.YtofcniodobjopaaGreatLkRu
namespace Go.Proofs.YtofcniodobjopaaGreat
open Go.RowKit Go.Maps

/-- An append of monitors, as an operation of a drawn region. -/
theorem oper_appN {o : Oper} {a : Act} {w : World} {K : Act → World → Prop} {Q : Exit → Act → World → Prop} (s x : Operand) (ho : o.op = .call { callee := .builtin .append, args := #[s, x], argTypes := #[39, 39] })
    (B g0 n0 c0 : Nat) (u : Value) (xs ys zs : List Mon) (n : Nat) (hsv : a.eval s = .slice (some ⟨g0, 0, none⟩) n0 c0) (hxu : a.eval x = u) (hown : NR w B (.slice (some ⟨g0, 0, none⟩) n0 c0) xs) (hn0 : n0 = xs.length) (hs : SrcN w u ys) (hz : xs ++ ys = zs) (hn : n = zs.length) (hlen : n ≤ 100000) (hB : B ≤ w.heap.size)
    (h : ∀ g c w', NR w' B (.slice (some ⟨g, 0, none⟩) n c) zs → w.grownBy w' (some g0) → K (a.put o.dst (.slice (some ⟨g, 0, none⟩) n c)) w') : Oper.wp Tryz.prog o a w K Q := by
  subst hz
  subst hn
  subst hn0
  obtain ⟨v', w', hr, h2, ⟨g, c, rfl⟩, h3⟩ := app_runN (ty := o.type) hown ⟨_, _, rfl⟩ hs (by rw [List.length_append] at hlen; exact hlen) hB
  unfold Oper.wp execOp
  simp only [ho, resolve, invoke, builtin, Sem.run_bind, Sem.run_pure, Result.andThen_ok, List.map_toArray, List.map_cons, List.map_nil, hsv, hxu, hr]
  exact h g c w' h2 h3
theorem NR.drew {w : World} {B : Nat} {v : Value} {xs : List Mon} (h : NR w B v xs) : NR w.drew B v xs := h.upd (Upd.refl [] w).drew

set_option maxHeartbeats 8000000 in
set_option maxRecDepth 100000 in
theorem unwatchRef_any (w : World) (B b : Nat) (v u : Value) (ms : List Mon) (r a : Int) (hb : Cl w b #[v, u] 41) (hr : NR w B u ms) (hB : B ≤ w.heap.size) (hn : ms.length ≤ 1000) :
    Calls Tryz.prog 29 #[.pointer (some ⟨b, 0, none⟩), .int .i64 r, .int .i64 a] w fun e w' => ((∀ j (hj : j < ms.length), ¬ (ms[j].1 = r ∧ ms[j].2.1 = a)) ∧ e = .returned (.bool false) ∧ Upd [] w w') ∨
      (∃ k, ∃ hk : k < ms.length, ms[k].1 = r ∧ ms[k].2.1 = a ∧ e = .returned (.bool true) ∧ ∃ u', Cl w' b #[v, u'] 41 ∧ NR w' w.heap.size u' (ms.take k ++ ms.drop (k + 1)) ∧ Upd [b] w w') := by
  obtain ⟨p, c, hv⟩ := hr.form
  subst hv
  have HB : Hid (Cl w b #[v, .slice p ms.length c] 41 ∧ NR w B (.slice p ms.length c) ms ∧ B ≤ w.heap.size) := ⟨hb, hr, hB⟩
  have cb2 : w.cell? ⟨b, 1, none⟩ = some (.slice p ms.length c) := by rw [hb.cell]; rfl
  clear hb hr hB
  go_enter Tryz.func29, Tryz.ntmps29
  go_wp2_with fail
  go_loopw [7] (fun s7 wx => ∃ k : Nat, s7 = .int .i64 (k : Nat) ∧ k ≤ ms.length ∧ wx = w ∧ ∀ j (hj : j < ms.length), j < k → ¬ (ms[j].1 = r ∧ ms[j].2.1 = a)) (fun s7 _ => ms.length - (intOf s7).toNat)
  case atStart => exact ⟨0, rfl, Nat.zero_le _, rfl, fun j hj h => by omega⟩
  case round =>
    obtain ⟨k, rfl, hkl, hw, hno⟩ := hrel
    rw [hw]
    clear hw
    have HNo : Hid (∀ j (hj : j < ms.length), j < k → ¬ (ms[j].1 = r ∧ ms[j].2.1 = a)) := hno
    clear hno
    by_cases hk : k < ms.length
    · have j1 : (k : Int) < (ms.length : Int) := by omega
      obtain ⟨g, c9, e1, d0, d1, d2⟩ := HB.out.2.1.cells hk
      simp only [Value.slice.injEq] at e1
      obtain ⟨rfl, _, rfl⟩ := e1
      obtain ⟨y0, hy0⟩ : ∃ y0, y0 = ms[k].1 := ⟨_, rfl⟩
      obtain ⟨y1, hy1⟩ : ∃ y1, y1 = ms[k].2.1 := ⟨_, rfl⟩
      rw [← hy0] at d0
      rw [← hy1] at d1
      have HY : Hid (y0 = ms[k].1 ∧ y1 = ms[k].2.1) := ⟨hy0, hy1⟩
      clear hy0 hy1 d2
      have NEXT : Hid (¬ (y0 = r ∧ y1 = a) → ∀ j (hj : j < ms.length), j < k + 1 → ¬ (ms[j].1 = r ∧ ms[j].2.1 = a)) := fun h j hj hjk => by
        rcases Nat.lt_or_ge j k with h5 | h5
        · exact HNo.out j hj h5
        · obtain rfl : j = k := by omega
          rw [← HY.out.1, ← HY.out.2]; exact h
      cases h0 : y0 == r with
      | false =>
        have HE : Hid (¬ (y0 = r ∧ y1 = a)) := by show ¬ _; rintro ⟨e, _⟩; simp [e] at h0
        go_wp2_with fail
        go_roundw
        case rel => exact ⟨k + 1, by go_num, hk, trivial, NEXT.out HE.out⟩
        case measure => simp [intOf]; omega
      | true =>
        cases h1 : y1 == a with
        | false =>
          have HE : Hid (¬ (y0 = r ∧ y1 = a)) := by show ¬ _; rintro ⟨_, e⟩; simp [e] at h1
          go_wp2_with fail
          go_roundw
          case rel => exact ⟨k + 1, by go_num, hk, trivial, NEXT.out HE.out⟩
          case measure => simp [intOf]; omega
        | true =>
        have HE : Hid (ms[k].1 = r ∧ ms[k].2.1 = a) := ⟨by rw [← HY.out.1]; simpa using h0, by rw [← HY.out.2]; simpa using h1⟩
        have hcap := HB.out.2.1.cap
        have hkc : k ≤ c := by omega
        have hkc2 : (k : Int) ≤ (c : Int) := by omega
        have hk2 : (k : Int) + 1 ≤ (ms.length : Int) := by omega
        have hkn : ¬ (k : Int) + 1 < 0 := by omega
        by_cases hct : c = k + 1
        · subst hct
          have hlen : ms.length = k + 1 := by omega
          have HD : Hid (ms.drop (k + 1) = [] ∧ ms.length = k + 1) := ⟨List.drop_eq_nil_of_le (by omega), hlen⟩
          clear hlen
          have hk1c2 : (k : Int) + 1 ≤ ((k + 1 : Nat) : Int) := by omega
          have hkk : ¬ (k : Int) + 1 < (k : Int) := by omega
          go_upto_region 5 with fail
          refine wp_region_cut_drew (S := fun W => Upd [] w W) 19 (by kernel_rfl) (Upd.refl [] w).drew (fun hS => ?_)
          refine wpAnyC_take (i := 0) (v := .pointer (some ⟨b, 0, none⟩)) rfl (by kernel_rfl) (by kernel_rfl) (by kernel_rfl) (by kernel_rfl) (fun _ _ _ h => h) (Or.inl ⟨by rfl, ?_⟩) hS ?_
          · intro W hW; go_simp
          refine wpAnyC_take (i := 2) (v := .pointer (some ⟨b, 0, none⟩)) rfl (by kernel_rfl) (by kernel_rfl) (by kernel_rfl) (by kernel_rfl) (fun _ _ _ h => h) (Or.inl ⟨by rfl, ?_⟩) hS ?_
          · intro W hW; go_simp
          refine wpAnyC_take (i := 3) (v := .pointer (some ⟨b, 0, none⟩)) rfl (by kernel_rfl) (by kernel_rfl) (by kernel_rfl) (by kernel_rfl) (fun _ _ _ h => h) (Or.inl ⟨by rfl, ?_⟩) hS ?_
          · intro W hW; go_simp
          simp only [Act.put, List.getElem_toArray, List.getElem_cons_succ, List.getElem_cons_zero, List.setIfInBounds_toArray, List.set_cons_succ, List.set_cons_zero]
          refine wpAnyC_take (i := 4) (v := .pointer (some ⟨b, 1, none⟩)) rfl (by kernel_rfl) (by kernel_rfl) (by kernel_rfl) (by kernel_rfl) (fun _ _ _ h => h) (Or.inl ⟨by rfl, ?_⟩) hS ?_
          · intro W hW; go_simp
          refine wpAnyC_take (i := 5) (v := .slice (some ⟨g, 0, none⟩) ms.length (k + 1)) rfl (by kernel_rfl) (by kernel_rfl) (by kernel_rfl) (by kernel_rfl) (fun _ _ _ h => h) (Or.inl ⟨by rfl, ?_⟩) hS ?_
          · intro W hW; have e1 : W.cell? ⟨b, 1, none⟩ = some (.slice (some ⟨g, 0, none⟩) ms.length (k + 1)) := (hW.cell (p := ⟨b, 1, none⟩) HB.out.1.lt (by simp)).trans cb2; go_simp
          refine wpAnyC_take (i := 6) (v := .int .i64 (k : Nat)) rfl (by kernel_rfl) (by kernel_rfl) (by kernel_rfl) (by kernel_rfl) (fun _ _ _ h => h) (Or.inl ⟨by rfl, ?_⟩) hS ?_
          · intro W hW; go_simp
          simp only [Act.put, List.getElem_toArray, List.getElem_cons_succ, List.getElem_cons_zero, List.setIfInBounds_toArray, List.set_cons_succ, List.set_cons_zero]
          refine wpAnyC_take (i := 7) (v := .slice (some ⟨g, 0, none⟩) k (k + 1)) rfl (by kernel_rfl) (by kernel_rfl) (by kernel_rfl) (by kernel_rfl) (fun _ _ _ h => h) (Or.inl ⟨by rfl, ?_⟩) hS ?_
          · intro W hW; go_simp
          refine wpAnyC_take (i := 9) (v := .pointer (some ⟨b, 0, none⟩)) rfl (by kernel_rfl) (by kernel_rfl) (by kernel_rfl) (by kernel_rfl) (fun _ _ _ h => h) (Or.inl ⟨by rfl, ?_⟩) hS ?_
          · intro W hW; go_simp
          refine wpAnyC_take (i := 10) (v := .pointer (some ⟨b, 0, none⟩)) rfl (by kernel_rfl) (by kernel_rfl) (by kernel_rfl) (by kernel_rfl) (fun _ _ _ h => h) (Or.inl ⟨by rfl, ?_⟩) hS ?_
          · intro W hW; go_simp
          simp only [Act.put, List.getElem_toArray, List.getElem_cons_succ, List.getElem_cons_zero, List.setIfInBounds_toArray, List.set_cons_succ, List.set_cons_zero]
          refine wpAnyC_take (i := 11) (v := .pointer (some ⟨b, 1, none⟩)) rfl (by kernel_rfl) (by kernel_rfl) (by kernel_rfl) (by kernel_rfl) (fun _ _ _ h => h) (Or.inl ⟨by rfl, ?_⟩) hS ?_
          · intro W hW; go_simp
          refine wpAnyC_take (i := 12) (v := .slice (some ⟨g, 0, none⟩) ms.length (k + 1)) rfl (by kernel_rfl) (by kernel_rfl) (by kernel_rfl) (by kernel_rfl) (fun _ _ _ h => h) (Or.inl ⟨by rfl, ?_⟩) hS ?_
          · intro W hW; have e1 : W.cell? ⟨b, 1, none⟩ = some (.slice (some ⟨g, 0, none⟩) ms.length (k + 1)) := (hW.cell (p := ⟨b, 1, none⟩) HB.out.1.lt (by simp)).trans cb2; go_simp
          refine wpAnyC_take (i := 13) (v := .int .i64 (k : Nat)) rfl (by kernel_rfl) (by kernel_rfl) (by kernel_rfl) (by kernel_rfl) (fun _ _ _ h => h) (Or.inl ⟨by rfl, ?_⟩) hS ?_
          · intro W hW; go_simp
          simp only [Act.put, List.getElem_toArray, List.getElem_cons_succ, List.getElem_cons_zero, List.setIfInBounds_toArray, List.set_cons_succ, List.set_cons_zero]
          refine wpAnyC_take (i := 14) (v := .int .i64 ((k : Int) + 1)) rfl (by kernel_rfl) (by kernel_rfl) (by kernel_rfl) (by kernel_rfl) (fun _ _ _ h => h) (Or.inl ⟨by rfl, ?_⟩) hS ?_
          · intro W hW; have e3 : IntKind.i64.wrap ((k : Int) + 1) = (k : Int) + 1 := IntWalk.i64_in _ ⟨by omega, by omega⟩; go_simp
          refine wpAnyC_take (i := 15) (v := .slice (some ⟨g, 0, none⟩) (ms.length - (k + 1)) 0) rfl (by kernel_rfl) (by kernel_rfl) (by kernel_rfl) (by kernel_rfl) (fun _ _ _ h => h) (Or.inl ⟨by rfl, ?_⟩) hS ?_
          · intro W hW; go_simp
          simp only [Act.put, List.getElem_toArray, List.getElem_cons_succ, List.getElem_cons_zero, List.setIfInBounds_toArray, List.set_cons_succ, List.set_cons_zero]
          refine wpAnyC_ready (rs := [1]) (by kernel_rfl) (by simp) (AllReadyC.cons rfl (by decide) (fun K hK => ?_) AllReadyC.nil)
          go_simp
          obtain ⟨W1, hW1⟩ : ∃ W1, W1 = (w.alloc (.cells #[] 122)).drew := ⟨_, rfl⟩
          have hS2 : Upd [] w W1 := by rw [hW1]; exact ((Upd.refl [] w).alloc _).drew
          have HP1 : Hid (NR W1 w.heap.size (.slice (some ⟨w.heap.size, 0, none⟩) 0 0) []) := by show NR _ _ _ _; rw [hW1]; exact (nr_lit0 w).drew
          rw [← hW1]
          clear hW1
          refine hK.out _ _ hS2 (fun _ => ?_)
          clear hK K hS
          have hS : Upd [] w W1 := hS2
          clear hS2
          refine wpAnyC_ready (rs := [8]) (by kernel_rfl) (by simp) (AllReadyC.cons rfl (by decide) (fun K hK => ?_) AllReadyC.nil)
          rw [if_pos (by rfl)]
          refine oper_appN _ _ rfl w.heap.size _ _ _ _ [] (ms.take k) (ms.take k) k rfl rfl HP1.out rfl (srcN_head (HB.out.2.1.upd hS) (by omega) _) rfl (by simp; omega) (by omega) hS.size ?_
          intro g1 c1 W2 hI1 hg1
          have hS2 : Upd [] w W2 := ((hS.toN (P := fun x => some w.heap.size = some x)).trans (upP_grown hg1)).upd (fun x hx => by cases hx; exact Nat.le_refl _)
          have HP2 : Hid (NR W2 w.heap.size (.slice (some ⟨g1, 0, none⟩) k c1) (ms.take k)) := hI1
          refine hK.out _ _ hS2 (fun _ => ?_)
          clear hK K hS hI1 hg1
          have hS : Upd [] w W2 := hS2
          clear hS2
          refine wpAnyC_ready (rs := [16]) (by kernel_rfl) (by simp) (AllReadyC.cons rfl (by decide) (fun K hK => ?_) AllReadyC.nil)
          rw [if_pos (by rfl)]
          refine oper_appN _ _ rfl w.heap.size _ _ _ _ (ms.take k) (ms.drop (k + 1)) (ms.take k ++ ms.drop (k + 1)) (ms.length - 1) rfl rfl HP2.out (by simp; omega) (srcN_empty _ _ _ _ _ (by have := HD.out.2; omega) HD.out.1) rfl (by simp; omega) (by omega) hS.size ?_
          intro g2 c2 W3 hI2 hg2
          have hS2 : Upd [] w W3 := ((hS.toN (P := fun x => some g1 = some x)).trans (upP_grown hg2)).upd (fun x hx => by cases hx; exact (HP2.out.own rfl).1)
          have HP3 : Hid (NR W3 w.heap.size (.slice (some ⟨g2, 0, none⟩) (ms.length - 1) c2) (ms.take k ++ ms.drop (k + 1))) := hI2
          refine hK.out _ _ hS2 (fun _ => ?_)
          clear hK K hS hI2 hg2
          have hS : Upd [] w W3 := hS2
          clear hS2
          refine wpAnyC_ready (rs := [17]) (by kernel_rfl) (by simp) (AllReadyC.cons rfl (by decide) (fun K hK => ?_) AllReadyC.nil)
          go_simp
          refine hK.out _ _ hS (fun _ => ?_)
          clear hK K
          refine wpAnyC_take (i := 18) (v := .pointer (some ⟨b, 1, none⟩)) rfl (by kernel_rfl) (by kernel_rfl) (by kernel_rfl) (by kernel_rfl) (fun _ _ _ h => h) (Or.inl ⟨by rfl, ?_⟩) hS ?_
          · intro W hW; go_simp
          simp only [Act.put, List.getElem_toArray, List.getElem_cons_succ, List.getElem_cons_zero, List.setIfInBounds_toArray, List.set_cons_succ, List.set_cons_zero]
          have cb3 : W3.cell? ⟨b, 1, none⟩ = some (.slice (some ⟨g, 0, none⟩) ms.length (k + 1)) := (hS.cell (p := ⟨b, 1, none⟩) HB.out.1.lt (by simp)).trans cb2
          have cf3 : W3.frozen? ⟨b, 1, none⟩ = false := (HB.out.1.upd hS (by simp)).free 1
          have H3 : Hid (Upd [] w W3) := hS
          refine wpAnyC_cut (fun _ => True) (by kernel_rfl) rfl (fun K hK => ?_)
          go_simp
          refine hK.out _ _ trivial (fun _ => ?_)
          clear hK K hS
          refine wpAnyH_done (by kernel_rfl) ?_ _
          go_wp2
          go_ret
          have hput := put_row HB.out.1 H3.out HP3.out (Nat.le_refl _)
          exact Or.inr ⟨k, hk, HE.out.1, HE.out.2, rfl, _, hput.1, hput.2.1, hput.2.2⟩
        · have hk1c : k + 1 ≤ c := by omega
          have hk1c2 : (k : Int) + 1 ≤ (c : Int) := by omega
          go_upto_region 5 with fail
          refine wp_region_cut_drew (S := fun W => Upd [] w W) 19 (by kernel_rfl) (Upd.refl [] w).drew (fun hS => ?_)
          refine wpAnyC_take (i := 0) (v := .pointer (some ⟨b, 0, none⟩)) rfl (by kernel_rfl) (by kernel_rfl) (by kernel_rfl) (by kernel_rfl) (fun _ _ _ h => h) (Or.inl ⟨by rfl, ?_⟩) hS ?_
          · intro W hW; go_simp
          refine wpAnyC_take (i := 2) (v := .pointer (some ⟨b, 0, none⟩)) rfl (by kernel_rfl) (by kernel_rfl) (by kernel_rfl) (by kernel_rfl) (fun _ _ _ h => h) (Or.inl ⟨by rfl, ?_⟩) hS ?_
          · intro W hW; go_simp
          refine wpAnyC_take (i := 3) (v := .pointer (some ⟨b, 0, none⟩)) rfl (by kernel_rfl) (by kernel_rfl) (by kernel_rfl) (by kernel_rfl) (fun _ _ _ h => h) (Or.inl ⟨by rfl, ?_⟩) hS ?_
          · intro W hW; go_simp
          simp only [Act.put, List.getElem_toArray, List.getElem_cons_succ, List.getElem_cons_zero, List.setIfInBounds_toArray, List.set_cons_succ, List.set_cons_zero]
          refine wpAnyC_take (i := 4) (v := .pointer (some ⟨b, 1, none⟩)) rfl (by kernel_rfl) (by kernel_rfl) (by kernel_rfl) (by kernel_rfl) (fun _ _ _ h => h) (Or.inl ⟨by rfl, ?_⟩) hS ?_
          · intro W hW; go_simp
          refine wpAnyC_take (i := 5) (v := .slice (some ⟨g, 0, none⟩) ms.length c) rfl (by kernel_rfl) (by kernel_rfl) (by kernel_rfl) (by kernel_rfl) (fun _ _ _ h => h) (Or.inl ⟨by rfl, ?_⟩) hS ?_
          · intro W hW; have e1 : W.cell? ⟨b, 1, none⟩ = some (.slice (some ⟨g, 0, none⟩) ms.length c) := (hW.cell (p := ⟨b, 1, none⟩) HB.out.1.lt (by simp)).trans cb2; go_simp
          refine wpAnyC_take (i := 6) (v := .int .i64 (k : Nat)) rfl (by kernel_rfl) (by kernel_rfl) (by kernel_rfl) (by kernel_rfl) (fun _ _ _ h => h) (Or.inl ⟨by rfl, ?_⟩) hS ?_
          · intro W hW; go_simp
          simp only [Act.put, List.getElem_toArray, List.getElem_cons_succ, List.getElem_cons_zero, List.setIfInBounds_toArray, List.set_cons_succ, List.set_cons_zero]
          refine wpAnyC_take (i := 7) (v := .slice (some ⟨g, 0, none⟩) k c) rfl (by kernel_rfl) (by kernel_rfl) (by kernel_rfl) (by kernel_rfl) (fun _ _ _ h => h) (Or.inl ⟨by rfl, ?_⟩) hS ?_
          · intro W hW; go_simp
          refine wpAnyC_take (i := 9) (v := .pointer (some ⟨b, 0, none⟩)) rfl (by kernel_rfl) (by kernel_rfl) (by kernel_rfl) (by kernel_rfl) (fun _ _ _ h => h) (Or.inl ⟨by rfl, ?_⟩) hS ?_
          · intro W hW; go_simp
          refine wpAnyC_take (i := 10) (v := .pointer (some ⟨b, 0, none⟩)) rfl (by kernel_rfl) (by kernel_rfl) (by kernel_rfl) (by kernel_rfl) (fun _ _ _ h => h) (Or.inl ⟨by rfl, ?_⟩) hS ?_
          · intro W hW; go_simp
          simp only [Act.put, List.getElem_toArray, List.getElem_cons_succ, List.getElem_cons_zero, List.setIfInBounds_toArray, List.set_cons_succ, List.set_cons_zero]
          refine wpAnyC_take (i := 11) (v := .pointer (some ⟨b, 1, none⟩)) rfl (by kernel_rfl) (by kernel_rfl) (by kernel_rfl) (by kernel_rfl) (fun _ _ _ h => h) (Or.inl ⟨by rfl, ?_⟩) hS ?_
          · intro W hW; go_simp
          refine wpAnyC_take (i := 12) (v := .slice (some ⟨g, 0, none⟩) ms.length c) rfl (by kernel_rfl) (by kernel_rfl) (by kernel_rfl) (by kernel_rfl) (fun _ _ _ h => h) (Or.inl ⟨by rfl, ?_⟩) hS ?_
          · intro W hW; have e1 : W.cell? ⟨b, 1, none⟩ = some (.slice (some ⟨g, 0, none⟩) ms.length c) := (hW.cell (p := ⟨b, 1, none⟩) HB.out.1.lt (by simp)).trans cb2; go_simp
          refine wpAnyC_take (i := 13) (v := .int .i64 (k : Nat)) rfl (by kernel_rfl) (by kernel_rfl) (by kernel_rfl) (by kernel_rfl) (fun _ _ _ h => h) (Or.inl ⟨by rfl, ?_⟩) hS ?_
          · intro W hW; go_simp
          simp only [Act.put, List.getElem_toArray, List.getElem_cons_succ, List.getElem_cons_zero, List.setIfInBounds_toArray, List.set_cons_succ, List.set_cons_zero]
          refine wpAnyC_take (i := 14) (v := .int .i64 ((k : Int) + 1)) rfl (by kernel_rfl) (by kernel_rfl) (by kernel_rfl) (by kernel_rfl) (fun _ _ _ h => h) (Or.inl ⟨by rfl, ?_⟩) hS ?_
          · intro W hW; have e3 : IntKind.i64.wrap ((k : Int) + 1) = (k : Int) + 1 := IntWalk.i64_in _ ⟨by omega, by omega⟩; go_simp
          refine wpAnyC_take (i := 15) (v := .slice (some ⟨g, (k + 1) * 3, none⟩) (ms.length - (k + 1)) (c - (k + 1))) rfl (by kernel_rfl) (by kernel_rfl) (by kernel_rfl) (by kernel_rfl) (fun _ _ _ h => h) (Or.inl ⟨by rfl, ?_⟩) hS ?_
          · intro W hW; go_simp
          simp only [Act.put, List.getElem_toArray, List.getElem_cons_succ, List.getElem_cons_zero, List.setIfInBounds_toArray, List.set_cons_succ, List.set_cons_zero]
          refine wpAnyC_ready (rs := [1]) (by kernel_rfl) (by simp) (AllReadyC.cons rfl (by decide) (fun K hK => ?_) AllReadyC.nil)
          go_simp
          obtain ⟨W1, hW1⟩ : ∃ W1, W1 = (w.alloc (.cells #[] 122)).drew := ⟨_, rfl⟩
          have hS2 : Upd [] w W1 := by rw [hW1]; exact ((Upd.refl [] w).alloc _).drew
          have HP1 : Hid (NR W1 w.heap.size (.slice (some ⟨w.heap.size, 0, none⟩) 0 0) []) := by show NR _ _ _ _; rw [hW1]; exact (nr_lit0 w).drew
          rw [← hW1]
          clear hW1
          refine hK.out _ _ hS2 (fun _ => ?_)
          clear hK K hS
          have hS : Upd [] w W1 := hS2
          clear hS2
          refine wpAnyC_ready (rs := [8]) (by kernel_rfl) (by simp) (AllReadyC.cons rfl (by decide) (fun K hK => ?_) AllReadyC.nil)
          rw [if_pos (by rfl)]
          refine oper_appN _ _ rfl w.heap.size _ _ _ _ [] (ms.take k) (ms.take k) k rfl rfl HP1.out rfl (srcN_head (HB.out.2.1.upd hS) (by omega) _) rfl (by simp; omega) (by omega) hS.size ?_
          intro g1 c1 W2 hI1 hg1
          have hS2 : Upd [] w W2 := ((hS.toN (P := fun x => some w.heap.size = some x)).trans (upP_grown hg1)).upd (fun x hx => by cases hx; exact Nat.le_refl _)
          have HP2 : Hid (NR W2 w.heap.size (.slice (some ⟨g1, 0, none⟩) k c1) (ms.take k)) := hI1
          refine hK.out _ _ hS2 (fun _ => ?_)
          clear hK K hS hI1 hg1
          have hS : Upd [] w W2 := hS2
          clear hS2
          refine wpAnyC_ready (rs := [16]) (by kernel_rfl) (by simp) (AllReadyC.cons rfl (by decide) (fun K hK => ?_) AllReadyC.nil)
          rw [if_pos (by rfl)]
          refine oper_appN _ _ rfl w.heap.size _ _ _ _ (ms.take k) (ms.drop (k + 1)) (ms.take k ++ ms.drop (k + 1)) (ms.length - 1) rfl rfl HP2.out (by simp; omega) (srcN_tail (HB.out.2.1.upd hS) (by omega) _) rfl (by simp; omega) (by omega) hS.size ?_
          intro g2 c2 W3 hI2 hg2
          have hS2 : Upd [] w W3 := ((hS.toN (P := fun x => some g1 = some x)).trans (upP_grown hg2)).upd (fun x hx => by cases hx; exact (HP2.out.own rfl).1)
          have HP3 : Hid (NR W3 w.heap.size (.slice (some ⟨g2, 0, none⟩) (ms.length - 1) c2) (ms.take k ++ ms.drop (k + 1))) := hI2
          refine hK.out _ _ hS2 (fun _ => ?_)
          clear hK K hS hI2 hg2
          have hS : Upd [] w W3 := hS2
          clear hS2
          refine wpAnyC_ready (rs := [17]) (by kernel_rfl) (by simp) (AllReadyC.cons rfl (by decide) (fun K hK => ?_) AllReadyC.nil)
          go_simp
          refine hK.out _ _ hS (fun _ => ?_)
          clear hK K
          refine wpAnyC_take (i := 18) (v := .pointer (some ⟨b, 1, none⟩)) rfl (by kernel_rfl) (by kernel_rfl) (by kernel_rfl) (by kernel_rfl) (fun _ _ _ h => h) (Or.inl ⟨by rfl, ?_⟩) hS ?_
          · intro W hW; go_simp
          simp only [Act.put, List.getElem_toArray, List.getElem_cons_succ, List.getElem_cons_zero, List.setIfInBounds_toArray, List.set_cons_succ, List.set_cons_zero]
          have cb3 : W3.cell? ⟨b, 1, none⟩ = some (.slice (some ⟨g, 0, none⟩) ms.length c) := (hS.cell (p := ⟨b, 1, none⟩) HB.out.1.lt (by simp)).trans cb2
          have cf3 : W3.frozen? ⟨b, 1, none⟩ = false := (HB.out.1.upd hS (by simp)).free 1
          have H3 : Hid (Upd [] w W3) := hS
          refine wpAnyC_cut (fun _ => True) (by kernel_rfl) rfl (fun K hK => ?_)
          go_simp
          refine hK.out _ _ trivial (fun _ => ?_)
          clear hK K hS
          refine wpAnyH_done (by kernel_rfl) ?_ _
          go_wp2
          go_ret
          have hput := put_row HB.out.1 H3.out HP3.out (Nat.le_refl _)
          exact Or.inr ⟨k, hk, HE.out.1, HE.out.2, rfl, _, hput.1, hput.2.1, hput.2.2⟩

    · obtain rfl : k = ms.length := by omega
      go_wp2_with fail
      go_ret
      exact Or.inl ⟨fun j hj => HNo.out j hj hj, rfl, Upd.refl [] w⟩

end Go.Proofs.YtofcniodobjopaaGreat
