/- SameTerms of rows without rows; turned. -/
import Derived.Test.YtmdkhkeljpdbiaaMrD
namespace Go.Proofs.Ytmdkhkeljpdbiaa
open Go.RowKit

set_option maxHeartbeats 1000000 in
set_option maxRecDepth 100000 in
theorem turned_fl (w : World) (k n : Int) (b : Bool) (s : ByteArray) : Calls Try.prog 31 #[.agg (fl k b s n)] w fun e w' => e = .returned (.tuple #[]) ∧ Upd [] w w' := by
  have u0 : Hid (Upd [] w (w.alloc (.cells (fl k b s n) 26))) := (Upd.refl [] w).alloc _
  go_enter Try.func31, Try.ntmps31
  go_wp2_with fail
  refine wp_loop_rounds 1 ?_
  rw [rounds_succ]
  go_wp2_with fail
  refine wp_loop_rounds 1 ?_
  rw [rounds_succ]
  go_wp2_with fail
  exact bodyPost_end (results_none rfl _ _ _) rfl ⟨rfl, u0.out⟩

/-- A row of letters that may be read. -/
structure RowR (w : World) (v : Value) (L : List (List Value)) : Prop where
  row : RowG w 7 v L.length
  has : Hs w 7 v L.length (fun i => L.getD i [])
theorem RowR.up {w w' : World} {v : Value} {L : List (List Value)} (h : RowR w v L) (hu : Upd [] w w') : RowR w' v L := ⟨h.row.upd hu (fun _ _ => by simp), h.has.upd h.row hu (fun _ _ => by simp)⟩

set_option maxHeartbeats 2000000 in
set_option maxRecDepth 100000 in
theorem sameT_fl (w : World) (v1 v2 : Value) (L : List (List Value)) (hn : L.length ≤ 1024) (hf : Flat L) (h1 : RowR w v1 L) (h2 : RowR w v2 L) :
    Calls Try.prog 28 #[v1, v2] w fun e w' => e = .returned (.bool true) ∧ Upd [] w w' := by
  obtain ⟨fs, hdesc⟩ := term_desc
  obtain ⟨p1, c1, e1, _⟩ := h1.row.form
  obtain ⟨p2, c2, e2, _⟩ := h2.row.form
  subst e1
  subst e2
  obtain ⟨n, hL⟩ : ∃ n, L.length = n := ⟨_, rfl⟩
  have HB : Hid (RowR w (.slice p1 L.length c1) L ∧ RowR w (.slice p2 L.length c2) L ∧ Flat L ∧ L.length = n) := ⟨h1, h2, hf, hL⟩
  rw [hL] at hn ⊢
  have q0 : ((n : Int) == (n : Int)) = true := by simp
  clear h1 h2 hf hL
  go_enter Try.func28, Try.ntmps28
  go_wp2_with fail
  go_loopw [5] (fun i wr => ∃ k : Nat, k ≤ n ∧ i = .int .i64 k ∧ Upd [] w wr) (fun i _ => n - (intOf i).toNat)
  case atStart => exact ⟨0, Nat.zero_le _, rfl, Upd.refl _ _⟩
  case round =>
    obtain ⟨k, hk, rfl, hu⟩ := hrel
    have HU : Hid (Upd [] w wr) := hu
    clear hu
    by_cases hlt : k < n
    · have i1 : (k : Int) < (n : Int) := by omega
      obtain ⟨kk, bb, ss, nn, hc⟩ := HB.out.2.2.1.at (i := k) (by rw [HB.out.2.2.2]; exact hlt)
      rcases HB.out.1.row with ⟨_, h0⟩ | ⟨g1, cap1, e1, hg1, _⟩
      · have := HB.out.2.2.2; omega
      rcases HB.out.2.1.row with ⟨_, h0⟩ | ⟨g2, cap2, e2, hg2, _⟩
      · have := HB.out.2.2.2; omega
      simp only [Value.slice.injEq, true_and] at e1 e2
      obtain ⟨rfl, rfl⟩ := e1
      obtain ⟨rfl, rfl⟩ := e2
      have r1 : w.rangeAt g1 (k * 7) (fl kk bb ss nn).toList := by
        have := HB.out.1.has.range (i := k) (by rw [HB.out.2.2.2]; exact hlt) (by rw [hc]; rfl)
        rw [hc] at this
        exact this
      have r2 : w.rangeAt g2 (k * 7) (fl kk bb ss nn).toList := by
        have := HB.out.2.1.has.range (i := k) (by rw [HB.out.2.2.2]; exact hlt) (by rw [hc]; rfl)
        rw [hc] at this
        exact this
      have HR : Hid (w.rangeAt g1 (k * 7) (fl kk bb ss nn).toList ∧ w.rangeAt g2 (k * 7) (fl kk bb ss nn).toList ∧ g1 < w.heap.size ∧ g2 < w.heap.size) := ⟨r1, r2, hg1, hg2⟩
      clear r1 r2 hg1 hg2 hc
      go_wp2_with fail
      refine wp_region_held_drew (S := fun W => Upd [] w W) (by kernel_rfl) HU.out.drew (fun hS => ?_)
      generalize World.drew _ = w1 at hS ⊢
      refine wpAnyH_take (i := 0) (v := .slice (some ⟨g1, 0, none⟩) n c1) rfl (by kernel_rfl) (by kernel_rfl) (by kernel_rfl) (fun _ _ _ h => h) (Or.inl ⟨by rfl, ?_⟩) hS ?_
      · intro W hW; have hk0 : (0 : Int) ≤ k := (by omega); go_simp
      refine wpAnyH_take (i := 1) (v := .int .i64 k) rfl (by kernel_rfl) (by kernel_rfl) (by kernel_rfl) (fun _ _ _ h => h) (Or.inl ⟨by rfl, ?_⟩) hS ?_
      · intro W hW; have hk0 : (0 : Int) ≤ k := (by omega); go_simp
      refine wpAnyH_take (i := 2) (v := .pointer (some ⟨g1, k * 7, none⟩)) rfl (by kernel_rfl) (by kernel_rfl) (by kernel_rfl) (fun _ _ _ h => h) (Or.inl ⟨by rfl, ?_⟩) hS ?_
      · intro W hW; have hk0 : (0 : Int) ≤ k := (by omega); go_simp
      refine wpAnyH_take (i := 4) (v := .slice (some ⟨g2, 0, none⟩) n c2) rfl (by kernel_rfl) (by kernel_rfl) (by kernel_rfl) (fun _ _ _ h => h) (Or.inl ⟨by rfl, ?_⟩) hS ?_
      · intro W hW; have hk0 : (0 : Int) ≤ k := (by omega); go_simp
      refine wpAnyH_take (i := 5) (v := .int .i64 k) rfl (by kernel_rfl) (by kernel_rfl) (by kernel_rfl) (fun _ _ _ h => h) (Or.inl ⟨by rfl, ?_⟩) hS ?_
      · intro W hW; have hk0 : (0 : Int) ≤ k := (by omega); go_simp
      refine wpAnyH_take (i := 6) (v := .pointer (some ⟨g2, k * 7, none⟩)) rfl (by kernel_rfl) (by kernel_rfl) (by kernel_rfl) (fun _ _ _ h => h) (Or.inl ⟨by rfl, ?_⟩) hS ?_
      · intro W hW; have hk0 : (0 : Int) ≤ k := (by omega); go_simp
      simp only [Act.put, List.getElem_toArray, List.getElem_cons_succ, List.getElem_cons_zero, List.setIfInBounds_toArray, List.set_cons_succ, List.set_cons_zero]
      refine wpAnyH_take (i := 3) (v := .agg (fl kk bb ss nn)) rfl (by kernel_rfl) (by kernel_rfl) (by kernel_rfl) (fun _ _ _ h => h) (yieldsIf_load_mid rfl 26 (.tmp 19) rfl g1 (k * 7) rfl (fl kk bb ss nn).toList _ (fun W hW => range_upd HR.out.1 HR.out.2.2.1 hW (by simp)) hdesc rfl (by rw [info_term]; rfl)) hS ?_
      simp only [Act.put, List.getElem_toArray, List.getElem_cons_succ, List.getElem_cons_zero, List.setIfInBounds_toArray, List.set_cons_succ, List.set_cons_zero]
      refine wpAnyH_take (i := 7) (v := .agg (fl kk bb ss nn)) rfl (by kernel_rfl) (by kernel_rfl) (by kernel_rfl) (fun _ _ _ h => h) (yieldsIf_load_mid rfl 26 (.tmp 23) rfl g2 (k * 7) rfl (fl kk bb ss nn).toList _ (fun W hW => range_upd HR.out.2.1 HR.out.2.2.2 hW (by simp)) hdesc rfl (by rw [info_term]; rfl)) hS ?_
      simp only [Act.put, List.getElem_toArray, List.getElem_cons_succ, List.getElem_cons_zero, List.setIfInBounds_toArray, List.set_cons_succ, List.set_cons_zero]
      refine wpAnyH_ready (rs := [8]) (by kernel_rfl) (by simp) (AllReadyH.cons rfl (fun K hK => ?_) AllReadyH.nil)
      go_simp
      refine (same_fl _ kk nn bb ss).mono ?_
      rintro en w2 ⟨rfl, hU2⟩
      have hS2 : Upd [] w w2 := hS.trans hU2
      refine hK.out _ _ hS2 (fun _ => ?_)
      clear hK K hU2 hS
      refine wpAnyH_take (i := 9) (v := .bool false) rfl (by kernel_rfl) (by kernel_rfl) (by kernel_rfl) (fun _ _ _ h => h) (Or.inl ⟨by rfl, ?_⟩) hS2 ?_
      · intro W hW; skip; go_simp
      simp only [Act.put, List.getElem_toArray, List.getElem_cons_succ, List.getElem_cons_zero, List.setIfInBounds_toArray, List.set_cons_succ, List.set_cons_zero]
      refine wpAnyH_done (by kernel_rfl) ?_ _
      have H2 : Hid (Upd [] w w2) := hS2
      clear hS2 HU
      go_wp2_with fail
      go_roundw
      case rel => exact ⟨k + 1, hlt, by go_num, H2.out⟩
      case measure => simp [intOf]; omega
    · obtain rfl : k = n := by omega
      go_wp2_with fail
      go_ret
      exact ⟨rfl, HU.out⟩

end Go.Proofs.Ytmdkhkeljpdbiaa
