/- closeUp, walked. -/
import Derived.Test.YtmdkhkeljpdbiaaMlL
namespace Go.Proofs.Ytmdkhkeljpdbiaa
open Go.RowKit

theorem wp_copyT {o : Oper} {a : Act} {w : World} {K : Act → World → Prop} {Q : Exit → Act → World → Prop} (d s : Operand) (ho : o.op = .call { callee := .builtin .copy, args := #[d, s], argTypes := #[24, 24] })
    (g off dLen dCap : Nat) (sp : Option Addr) (sLen sCap : Nat) (hd : a.eval d = .slice (some ⟨g, off, none⟩) dLen dCap) (hs : a.eval s = .slice sp sLen sCap) (cs : List Value) (hn : Nat.min sLen dLen * 7 = cs.length)
    (hsrc : 0 < cs.length → ∃ ad, sp = some ad ∧ ∀ j v, cs[j]? = some v → w.cell? (ad.add j) = some v) (hth : w.there g off cs.length) (h1 : ∀ v ∈ cs, v.oneCell' = true) (hsp : sp ≠ none)
    (h : K (a.put o.dst (goInt (Nat.min sLen dLen))) (w.setCells g off cs)) : o.wp Try.prog a w K Q := by
  have hrun := run_copyT w o.type g off dLen dCap sp sLen sCap cs hn hsrc hth h1 hsp
  unfold Oper.wp execOp
  simp only [ho, resolve, invoke, builtin, Sem.run_bind, Sem.run_pure, Result.andThen_ok, List.map_toArray, List.map_cons, List.map_nil, hd, hs, hrun]
  exact h

set_option maxHeartbeats 2000000 in
set_option maxRecDepth 100000 in
theorem closeUp_in (w : World) (b g cap k m : Nat) (L : List (List Value)) (hL : L.length = m + 1) (hk : k < m + 1) (hn : m ≤ 2000) (hs : Sev L) (h : BoxV w b (.slice (some ⟨g, 0, none⟩) (m + 1) cap) L k) :
    Calls Try.prog 26 #[.pointer (some ⟨b, 0, none⟩)] w fun e w' => e = .returned (.tuple #[]) ∧ BoxV w' b (.slice (some ⟨g, 0, none⟩) m cap) (L.eraseIdx k) k ∧ UpdB b (.slice (some ⟨g, 0, none⟩) (m + 1) cap) w w' (.slice (some ⟨g, 0, none⟩) m cap) := by
  have hcap : m + 1 ≤ cap ∧ cap ≤ 9223372036854775807 := by
    rcases h.row with ⟨h1, _⟩ | ⟨g2, cap2, e, h1, h2, h3, h4⟩
    · cases h1
    · simp only [Value.slice.injEq, Option.some.injEq, Addr.mk.injEq, and_true] at e
      obtain ⟨rfl, e2, rfl⟩ := e
      exact ⟨by omega, by unfold maxLen at h3; omega⟩
  have hgb : g ≠ b := by simpa [Value.ownBlock] using h.far
  obtain ⟨hc1, hc2⟩ := hcap
  have hgl : g < w.heap.size := h.row.lt g rfl
  have HB : Hid (BoxV w b (.slice (some ⟨g, 0, none⟩) (m + 1) cap) L k ∧ Sev L ∧ g ≠ b ∧ L.length = m + 1 ∧ g < w.heap.size) := ⟨h, hs, hgb, hL, hgl⟩
  have e1 := h.bx.c1
  have UZ : Hid (Upd [] w w) := Upd.refl _ _
  clear h hs hgb hL hgl
  go_enter Try.func26, Try.ntmps26
  go_wp2_with fail
  refine wp_region_held_drew (S := fun W => Upd [g] w W) (by kernel_rfl) ((Upd.refl [g] w).then UZ.out.drew (by simp)) (fun hS => ?_)
  have U1 : Hid (Upd [] w w.drew) := UZ.out.drew
  generalize World.drew _ = w1 at hS U1 ⊢
  clear UZ e1
  refine wpAnyH_take (i := 0) (v := .pointer (some ⟨b, 0, none⟩)) rfl (by kernel_rfl) (by kernel_rfl) (by kernel_rfl) (fun _ _ _ h => h) (Or.inl ⟨by rfl, ?_⟩) hS ?_
  · intro W hW; have hbx := HB.out.1.bx.mono hW (by simpa using fun e => HB.out.2.2.1 e.symm); have e0 := hbx.c1; have e1 := hbx.c2; go_simp
  refine wpAnyH_take (i := 1) (v := .pointer (some ⟨b, 0, none⟩)) rfl (by kernel_rfl) (by kernel_rfl) (by kernel_rfl) (fun _ _ _ h => h) (Or.inl ⟨by rfl, ?_⟩) hS ?_
  · intro W hW; have hbx := HB.out.1.bx.mono hW (by simpa using fun e => HB.out.2.2.1 e.symm); have e0 := hbx.c1; have e1 := hbx.c2; go_simp
  refine wpAnyH_take (i := 2) (v := .pointer (some ⟨b, 1, none⟩)) rfl (by kernel_rfl) (by kernel_rfl) (by kernel_rfl) (fun _ _ _ h => h) (Or.inl ⟨by rfl, ?_⟩) hS ?_
  · intro W hW; have hbx := HB.out.1.bx.mono hW (by simpa using fun e => HB.out.2.2.1 e.symm); have e0 := hbx.c1; have e1 := hbx.c2; go_simp
  refine wpAnyH_take (i := 3) (v := .slice (some ⟨g, 0, none⟩) (m + 1) cap) rfl (by kernel_rfl) (by kernel_rfl) (by kernel_rfl) (fun _ _ _ h => h) (Or.inl ⟨by rfl, ?_⟩) hS ?_
  · intro W hW; have hbx := HB.out.1.bx.mono hW (by simpa using fun e => HB.out.2.2.1 e.symm); have e0 := hbx.c1; have e1 := hbx.c2; go_simp
  refine wpAnyH_take (i := 4) (v := .pointer (some ⟨b, 0, none⟩)) rfl (by kernel_rfl) (by kernel_rfl) (by kernel_rfl) (fun _ _ _ h => h) (Or.inl ⟨by rfl, ?_⟩) hS ?_
  · intro W hW; have hbx := HB.out.1.bx.mono hW (by simpa using fun e => HB.out.2.2.1 e.symm); have e0 := hbx.c1; have e1 := hbx.c2; go_simp
  refine wpAnyH_take (i := 5) (v := .pointer (some ⟨b, 0, none⟩)) rfl (by kernel_rfl) (by kernel_rfl) (by kernel_rfl) (fun _ _ _ h => h) (Or.inl ⟨by rfl, ?_⟩) hS ?_
  · intro W hW; have hbx := HB.out.1.bx.mono hW (by simpa using fun e => HB.out.2.2.1 e.symm); have e0 := hbx.c1; have e1 := hbx.c2; go_simp
  refine wpAnyH_take (i := 6) (v := .pointer (some ⟨b, 2, none⟩)) rfl (by kernel_rfl) (by kernel_rfl) (by kernel_rfl) (fun _ _ _ h => h) (Or.inl ⟨by rfl, ?_⟩) hS ?_
  · intro W hW; have hbx := HB.out.1.bx.mono hW (by simpa using fun e => HB.out.2.2.1 e.symm); have e0 := hbx.c1; have e1 := hbx.c2; go_simp
  refine wpAnyH_take (i := 7) (v := .int .i64 k) rfl (by kernel_rfl) (by kernel_rfl) (by kernel_rfl) (fun _ _ _ h => h) (Or.inl ⟨by rfl, ?_⟩) hS ?_
  · intro W hW; have hbx := HB.out.1.bx.mono hW (by simpa using fun e => HB.out.2.2.1 e.symm); have e0 := hbx.c1; have e1 := hbx.c2; go_simp
  refine wpAnyH_take (i := 8) (v := .slice (some ⟨g, k * 7, none⟩) (m + 1 - k) (cap - k)) rfl (by kernel_rfl) (by kernel_rfl) (by kernel_rfl) (fun _ _ _ h => h) (Or.inl ⟨by rfl, ?_⟩) hS ?_
  · intro W hW; have hbx := HB.out.1.bx.mono hW (by simpa using fun e => HB.out.2.2.1 e.symm); have e0 := hbx.c1; have e1 := hbx.c2; go_simp; rw [if_pos (by omega), if_neg (by omega)]
  refine wpAnyH_take (i := 9) (v := .pointer (some ⟨b, 0, none⟩)) rfl (by kernel_rfl) (by kernel_rfl) (by kernel_rfl) (fun _ _ _ h => h) (Or.inl ⟨by rfl, ?_⟩) hS ?_
  · intro W hW; have hbx := HB.out.1.bx.mono hW (by simpa using fun e => HB.out.2.2.1 e.symm); have e0 := hbx.c1; have e1 := hbx.c2; go_simp
  refine wpAnyH_take (i := 10) (v := .pointer (some ⟨b, 0, none⟩)) rfl (by kernel_rfl) (by kernel_rfl) (by kernel_rfl) (fun _ _ _ h => h) (Or.inl ⟨by rfl, ?_⟩) hS ?_
  · intro W hW; have hbx := HB.out.1.bx.mono hW (by simpa using fun e => HB.out.2.2.1 e.symm); have e0 := hbx.c1; have e1 := hbx.c2; go_simp
  refine wpAnyH_take (i := 11) (v := .pointer (some ⟨b, 1, none⟩)) rfl (by kernel_rfl) (by kernel_rfl) (by kernel_rfl) (fun _ _ _ h => h) (Or.inl ⟨by rfl, ?_⟩) hS ?_
  · intro W hW; have hbx := HB.out.1.bx.mono hW (by simpa using fun e => HB.out.2.2.1 e.symm); have e0 := hbx.c1; have e1 := hbx.c2; go_simp
  refine wpAnyH_take (i := 12) (v := .slice (some ⟨g, 0, none⟩) (m + 1) cap) rfl (by kernel_rfl) (by kernel_rfl) (by kernel_rfl) (fun _ _ _ h => h) (Or.inl ⟨by rfl, ?_⟩) hS ?_
  · intro W hW; have hbx := HB.out.1.bx.mono hW (by simpa using fun e => HB.out.2.2.1 e.symm); have e0 := hbx.c1; have e1 := hbx.c2; go_simp
  refine wpAnyH_take (i := 13) (v := .pointer (some ⟨b, 0, none⟩)) rfl (by kernel_rfl) (by kernel_rfl) (by kernel_rfl) (fun _ _ _ h => h) (Or.inl ⟨by rfl, ?_⟩) hS ?_
  · intro W hW; have hbx := HB.out.1.bx.mono hW (by simpa using fun e => HB.out.2.2.1 e.symm); have e0 := hbx.c1; have e1 := hbx.c2; go_simp
  refine wpAnyH_take (i := 14) (v := .pointer (some ⟨b, 0, none⟩)) rfl (by kernel_rfl) (by kernel_rfl) (by kernel_rfl) (fun _ _ _ h => h) (Or.inl ⟨by rfl, ?_⟩) hS ?_
  · intro W hW; have hbx := HB.out.1.bx.mono hW (by simpa using fun e => HB.out.2.2.1 e.symm); have e0 := hbx.c1; have e1 := hbx.c2; go_simp
  refine wpAnyH_take (i := 15) (v := .pointer (some ⟨b, 2, none⟩)) rfl (by kernel_rfl) (by kernel_rfl) (by kernel_rfl) (fun _ _ _ h => h) (Or.inl ⟨by rfl, ?_⟩) hS ?_
  · intro W hW; have hbx := HB.out.1.bx.mono hW (by simpa using fun e => HB.out.2.2.1 e.symm); have e0 := hbx.c1; have e1 := hbx.c2; go_simp
  refine wpAnyH_take (i := 16) (v := .int .i64 k) rfl (by kernel_rfl) (by kernel_rfl) (by kernel_rfl) (fun _ _ _ h => h) (Or.inl ⟨by rfl, ?_⟩) hS ?_
  · intro W hW; have hbx := HB.out.1.bx.mono hW (by simpa using fun e => HB.out.2.2.1 e.symm); have e0 := hbx.c1; have e1 := hbx.c2; go_simp
  refine wpAnyH_take (i := 17) (v := .int .i64 (k + 1)) rfl (by kernel_rfl) (by kernel_rfl) (by kernel_rfl) (fun _ _ _ h => h) (Or.inl ⟨by rfl, ?_⟩) hS ?_
  · intro W hW; have hbx := HB.out.1.bx.mono hW (by simpa using fun e => HB.out.2.2.1 e.symm); have e0 := hbx.c1; have e1 := hbx.c2; have hwr : IntKind.i64.wrap ((k : Int) + 1) = (k : Int) + 1 := (by rw [IntKind.wrap_i64]; omega); go_simp
  simp only [Act.put, List.getElem_toArray, List.getElem_cons_succ, List.getElem_cons_zero, List.setIfInBounds_toArray, List.set_cons_succ, List.set_cons_zero]
  have hq : ∃ q : Option Addr, q ≠ none ∧ (0 < m - k → q = some ⟨g, (k + 1) * 7, none⟩) ∧ q = (if cap = k + 1 then some ⟨g, 0, none⟩ else some ⟨g, (k + 1) * 7, none⟩) := ⟨_, by split <;> simp, fun h0 => if_neg (by omega), rfl⟩
  obtain ⟨q, hq0, hq1, hq2⟩ := hq
  have HQ : Hid (q = (if cap = k + 1 then some ⟨g, 0, none⟩ else some ⟨g, (k + 1) * 7, none⟩)) := hq2
  have HQ1 : Hid (q ≠ none ∧ (0 < m - k → q = some ⟨g, (k + 1) * 7, none⟩)) := ⟨hq0, hq1⟩
  clear hq2 hq0 hq1
  refine wpAnyH_take (i := 18) (v := .slice q (m - k) (cap - (k + 1))) rfl (by kernel_rfl) (by kernel_rfl) (by kernel_rfl) (fun _ _ _ h => h) (Or.inl ⟨by rfl, ?_⟩) hS ?_
  · intro W hW; have hbx := HB.out.1.bx.mono hW (by simpa using fun e => HB.out.2.2.1 e.symm); have e0 := hbx.c1; have e1 := hbx.c2; go_simp; rw [HQ.out, if_pos (by omega)]
  simp only [Act.put, List.getElem_toArray, List.getElem_cons_succ, List.getElem_cons_zero, List.setIfInBounds_toArray, List.set_cons_succ, List.set_cons_zero]
  have hB1 := HB.out.1.up U1.out
  have hH1 := hB1.has
  have hR1 := hB1.row
  have hlen := flat_len _ (HB.out.2.1.drop (k + 1))
  rw [List.length_drop, HB.out.2.2.2.1, Nat.add_sub_add_right] at hlen
  have hth1 : w1.there g (k * 7) (L.drop (k + 1)).flatten.length := by
    rcases hR1 with ⟨h1, _⟩ | ⟨g2, cap2, e, h1, h2, h3, h4⟩
    · cases h1
    · simp only [Value.slice.injEq, Option.some.injEq, Addr.mk.injEq, and_true] at e
      obtain ⟨rfl, e2, rfl⟩ := e
      intro j hj
      have h5 : k * 7 + (m - k) * 7 ≤ cap * 7 := by rw [← Nat.add_mul]; exact Nat.mul_le_mul_right 7 (by omega)
      have := h4 (k * 7 + j) (by rw [hlen] at hj; omega)
      rwa [Nat.zero_add] at this
  have hmin : Nat.min (m - k) (m + 1 - k) = m - k := Nat.min_eq_left (by omega)
  have HC : Hid (Hs w1 7 (.slice (some ⟨g, 0, none⟩) L.length cap) L.length (fun i => L.getD i []) ∧ RowG w1 7 (.slice (some ⟨g, 0, none⟩) L.length cap) L.length) := by
    rw [HB.out.2.2.2.1]; rw [HB.out.2.2.2.1] at hH1 hR1; exact ⟨hH1, hR1⟩
  refine wpAnyH_ready (rs := [19]) (by kernel_rfl) (by simp) (AllReadyH.cons rfl (fun K hK => ?_) AllReadyH.nil)
  rw [if_pos (by rfl)]
  refine wp_copyT (.tmp 17) (.tmp 27) rfl g (k * 7) (m + 1 - k) (cap - k) q (m - k) (cap - (k + 1)) rfl rfl (L.drop (k + 1)).flatten (by rw [hmin, hlen]) (fun h0 => ⟨_, HQ1.out.2 (by rw [hlen] at h0; omega), close_src HB.out.2.1 HC.out.1⟩) hth1 (HB.out.2.1.drop (k + 1)).one HQ1.out.1 ?_
  have hu2 := setCells_Upd w1 g (k * 7) (L.drop (k + 1)).flatten
  have hS2 : Upd [g] w (w1.setCells g (k * 7) (L.drop (k + 1)).flatten) := ((Upd.refl [g] w).then U1.out (by simp)).trans hu2
  obtain ⟨w2, hw2⟩ : ∃ w2, w2 = w1.setCells g (k * 7) (L.drop (k + 1)).flatten := ⟨_, rfl⟩
  rw [← hw2] at hS2 ⊢
  have HW2 : Hid (w2 = w1.setCells g (k * 7) (L.drop (k + 1)).flatten ∧ Upd [g] w w2) := ⟨hw2, hS2⟩
  refine hK.out _ _ hS2 (fun _ => ?_)
  have hbx2 := HB.out.1.bx.mono hS2 (by simpa using fun e => HB.out.2.2.1 e.symm)
  have c1 := hbx2.c1
  have hth2 : w2.there g (m * 7) 7 := by
    have := (HC.out.2.set (k * 7) (L.drop (k + 1)).flatten).room (i := m) (by rw [HB.out.2.2.2.1]; omega)
    rw [← hw2] at this
    exact this
  have HT2 : Hid (w2.there g (m * 7) 7) := hth2
  have HX2 : Hid (Bx w2 b (.slice (some ⟨g, 0, none⟩) (m + 1) cap) k) := hbx2
  clear hK K hw2 hS2 hu2 hB1 hH1 hR1 hth1 hbx2 hth2 hS hlen HQ HQ1 hmin
  simp only [Act.put, List.getElem_toArray, List.getElem_cons_succ, List.getElem_cons_zero, List.setIfInBounds_toArray, List.set_cons_succ, List.set_cons_zero]
  refine wpAnyH_done (by kernel_rfl) ?_ _
  have hsp : ¬ cap = m := by omega
  have hbx3 := HX2.out.mono (setCells_Upd w2 g (m * 7) (fl 0 false ⟨#[]⟩ 0).toList) (by simpa using fun e => HB.out.2.2.1 e.symm)
  have d1 := hbx3.c1
  have f1 := hbx3.f 1
  have HX3 : Hid (Bx (w2.setCells g (m * 7) (fl 0 false ⟨#[]⟩ 0).toList) b (.slice (some ⟨g, 0, none⟩) (m + 1) cap) k) := hbx3
  obtain ⟨w3, hw3⟩ : ∃ w3, w3 = w2.setCells g (m * 7) (fl 0 false ⟨#[]⟩ 0).toList := ⟨_, rfl⟩
  rw [← hw3] at d1 f1 HX3
  have HW3 : Hid (w3 = w2.setCells g (m * 7) (fl 0 false ⟨#[]⟩ 0).toList) := hw3
  clear hbx3 hw3
  have hcr := run_clearT w2 0 g (m * 7) (cap - m) HT2.out
  rw [← HW3.out] at hcr
  go_wp2_with fail
  have hcl := close_row (k := k) (by rw [HB.out.2.2.2.1]; exact hk) HB.out.2.1 HC.out.2 HC.out.1 (fl 0 false ⟨#[]⟩ 0).toList rfl
  rw [HB.out.2.2.2.1, Nat.add_sub_cancel, ← HW2.out.1, ← HW3.out] at hcl
  have hu3 : Upd [g] w w3 := by rw [HW3.out]; exact HW2.out.2.trans (setCells_Upd _ _ _ _)
  have hu4 : Upd [b] w3 (w3.setCell ⟨b, 1, none⟩ (.slice (some ⟨g, 0, none⟩) m cap)) := (Upd.refl [b] w3).setCell (Or.inr (by simp)) _
  have hel : (L.eraseIdx k).length = m := by rw [List.length_eraseIdx, HB.out.2.2.2.1, if_pos hk]; rfl
  have hgb := HB.out.2.2.1
  refine bodyPost_end (results_none rfl _ _ _) rfl ⟨rfl, ⟨HX3.out.set1 _, ?_, ?_, by simpa [Value.ownBlock] using hgb⟩, ?_⟩
  · rw [hel]; exact hcl.1.upd hu4 (fun x hx => by simp [Value.ownBlock] at hx; subst hx; simpa using hgb)
  · rw [hel]; exact hcl.2.upd hcl.1 hu4 (fun x hx => by simp [Value.ownBlock] at hx; subst hx; simpa using hgb)
  · have hua : Upd [b, g] w (w3.setCell ⟨b, 1, none⟩ (.slice (some ⟨g, 0, none⟩) m cap)) := ((Upd.refl [b, g] w).then hu3 (by simp)).then hu4 (by simp)
    exact ⟨hua.os, hua.tape, hua.output, hua.size, fun i hi hib hiv => hua.block i hi (by simp [Value.ownBlock] at hiv; simp [hib]; exact fun e => hiv e.symm), fun i hi hiv => hiv⟩

end Go.Proofs.Ytmdkhkeljpdbiaa
