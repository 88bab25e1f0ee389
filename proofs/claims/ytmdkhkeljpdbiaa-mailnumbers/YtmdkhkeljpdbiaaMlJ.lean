/- Put, walked. -/
import Derived.Test.YtmdkhkeljpdbiaaMlI
namespace Go.Proofs.Ytmdkhkeljpdbiaa
open Go.RowKit

theorem Tb.range {w : World} {g : Nat} {cs : Array Value} (h : Tb w g cs) : w.rangeAt g 0 cs.toList := fun j v hj => by
  rw [Nat.zero_add, h.cell j]
  simpa using hj

set_option maxHeartbeats 1000000 in
set_option maxRecDepth 100000 in
theorem put_no (w : World) (x : Value) (c : Array Value) (hm : ∀ w1, Upd [] w w1 → Calls Try.prog 23 #[x] w1 fun e w' => e = .returned (.bool false) ∧ w' = w1) : Calls Try.prog 10 #[x, .agg c] w fun e w' => e = .returned (.int .i64 1) ∧ Upd [] w w' := by
  have hm : Hid (Unit → _) := fun () => hm
  have U1 : Hid (Upd [] w (w.alloc (.cells c 26))) := (Upd.refl [] w).alloc _
  go_enter Try.func10, Try.ntmps10
  go_wp2_with fail
  refine Calls.mono (hm.out () _ U1.out) ?_
  rintro e w1 ⟨rfl, hw1⟩
  rw [hw1]
  clear hw1
  go_wp2_with fail
  go_ret
  exact ⟨rfl, U1.out⟩

set_option maxHeartbeats 1000000 in
set_option maxRecDepth 100000 in
theorem put_full (w : World) (b : Nat) (p : Option Addr) (n cap : Nat) (k : Int) (c : Array Value) (hn : n = 1024) (h : Bx w b (.slice p n cap) k) : Calls Try.prog 10 #[.pointer (some ⟨b, 0, none⟩), .agg c] w fun e w' => e = .returned (.int .i64 5) ∧ Upd [] w w' := by
  subst hn
  have U1 : Hid (Upd [] w (w.alloc (.cells c 26))) := (Upd.refl [] w).alloc _
  have HB : Hid (Bx (w.alloc (.cells c 26)) b (.slice p 1024 cap) k) := h.mono U1.out (by simp)
  have e1 := HB.out.c1
  clear h
  go_enter Try.func10, Try.ntmps10
  go_wp2_with fail
  refine Calls.mono (made_ok _ b _ k HB.out) ?_
  rintro e w1 ⟨rfl, hw1⟩
  rw [hw1]
  clear hw1
  go_wp2_with fail
  go_ret
  exact ⟨rfl, U1.out⟩

set_option maxHeartbeats 2000000 in
set_option maxRecDepth 100000 in
theorem put_on (w : World) (b : Nat) (v : Value) (L : List (List Value)) (k : Nat) (kk nn : Int) (bb : Bool) (ss : ByteArray) (hn : L.length < 1024) (h : BoxV w b v L k) :
    Calls Try.prog 10 #[.pointer (some ⟨b, 0, none⟩), .agg (fl kk bb ss nn)] w fun e w' => e = .returned (.int .i64 0) ∧ ∃ v', BoxV w' b v' (L ++ [(fl kk bb ss nn).toList]) k ∧ UpdB b v w w' v' := by
  obtain ⟨p, cap, rfl⟩ := h.form
  obtain ⟨fs, hdesc⟩ := term_desc
  obtain ⟨i0, hi, hz0, hzs, hzb⟩ := info_partsN info_termP
  have U1 : Hid (Upd [] w (w.alloc (.cells (fl kk bb ss nn) 26))) := (Upd.refl [] w).alloc _
  have TZ : Hid (Tb (w.alloc (.cells (fl kk bb ss nn) 26)) w.heap.size (fl kk bb ss nn)) := Tb.new _ _ _ rfl
  have HB : Hid (BoxV w b (.slice p L.length cap) L k) := h
  have e1 := (HB.out.up U1.out).bx.c1
  have hge : decide ((1024 : Int) ≤ (L.length : Int)) = false := decide_eq_false (by omega)
  generalize hL : L.length = n at *
  have HL : Hid (L.length = n) := hL
  clear h hL
  go_enter Try.func10, Try.ntmps10
  go_wp2_with fail
  refine Calls.mono (made_ok _ b _ k (HB.out.up U1.out).bx) ?_
  rintro e w1 ⟨rfl, hw1⟩
  rw [hw1]
  clear hw1
  go_wp2_with fail
  have hS0 : (fun W => Upd [] w W ∧ Tb W w.heap.size (fl kk bb ss nn)) (w.alloc (.cells (fl kk bb ss nn) 26)).drew := ⟨U1.out.drew, TZ.out.mono (Upd.refl [] _).drew (by simp)⟩
  refine wp_region_cut_drew (S := fun W => Upd [] w W ∧ Tb W w.heap.size (fl kk bb ss nn)) 8 (by kernel_rfl) hS0 (fun hS => ?_)
  generalize World.drew _ = w2 at hS ⊢
  clear hS0 TZ U1 e1
  refine wpAnyC_take (i := 0) (v := .pointer (some ⟨b, 0, none⟩)) rfl (by kernel_rfl) (by kernel_rfl) (by kernel_rfl) (by kernel_rfl) (fun _ _ _ h => h) (Or.inl ⟨by rfl, ?_⟩) hS ?_
  · intro W hW; have e0 := (HB.out.up hW.1).bx.c1; go_simp
  refine wpAnyC_take (i := 1) (v := .pointer (some ⟨b, 0, none⟩)) rfl (by kernel_rfl) (by kernel_rfl) (by kernel_rfl) (by kernel_rfl) (fun _ _ _ h => h) (Or.inl ⟨by rfl, ?_⟩) hS ?_
  · intro W hW; have e0 := (HB.out.up hW.1).bx.c1; go_simp
  refine wpAnyC_take (i := 2) (v := .pointer (some ⟨b, 1, none⟩)) rfl (by kernel_rfl) (by kernel_rfl) (by kernel_rfl) (by kernel_rfl) (fun _ _ _ h => h) (Or.inl ⟨by rfl, ?_⟩) hS ?_
  · intro W hW; have e0 := (HB.out.up hW.1).bx.c1; go_simp
  refine wpAnyC_take (i := 3) (v := .slice p n cap) rfl (by kernel_rfl) (by kernel_rfl) (by kernel_rfl) (by kernel_rfl) (fun _ _ _ h => h) (Or.inl ⟨by rfl, ?_⟩) hS ?_
  · intro W hW; have e0 := (HB.out.up hW.1).bx.c1; go_simp
  simp only [Act.put, List.getElem_toArray, List.getElem_cons_succ, List.getElem_cons_zero, List.setIfInBounds_toArray, List.set_cons_succ, List.set_cons_zero]
  refine wpAnyC_take (i := 4) (v := .agg (fl kk bb ss nn)) rfl (by kernel_rfl) (by kernel_rfl) (by kernel_rfl) (by kernel_rfl) (fun _ _ _ h => h) (yieldsIf_load_mid rfl 26 (.tmp 3) rfl w.heap.size 0 rfl (fl kk bb ss nn).toList _ (fun W hW => hW.2.range) hdesc rfl (by rw [info_term]; rfl)) hS ?_
  refine wpAnyC_take (i := 6) (v := .int .i64 n) rfl (by kernel_rfl) (by kernel_rfl) (by kernel_rfl) (by kernel_rfl) (fun _ _ _ h => h) (Or.inl ⟨by rfl, ?_⟩) hS ?_
  · intro W hW; have e0 := (HB.out.up hW.1).bx.c1; go_simp
  simp only [Act.put, List.getElem_toArray, List.getElem_cons_succ, List.getElem_cons_zero, List.setIfInBounds_toArray, List.set_cons_succ, List.set_cons_zero]
  refine wpAnyC_ready (rs := [5, 7]) (by kernel_rfl) (by simp) (AllReadyC.cons rfl (by decide) (fun K hK => ?_) (AllReadyC.cons rfl (by decide) (fun K hK => ?_) AllReadyC.nil))
  · go_simp
    refine (copied_fl _ 0 kk nn bb ss).mono ?_
    rintro en wa ⟨rfl, hU⟩
    have hSa : (fun W => Upd [] w W ∧ Tb W w.heap.size (fl kk bb ss nn)) wa := ⟨hS.1.trans hU, hS.2.mono hU (by simp)⟩
    clear hU
    refine hK.out _ _ hSa (fun _ => ?_)
    clear hK K
    refine wpAnyC_ready (rs := [7]) (by kernel_rfl) (by simp) (AllReadyC.cons rfl (by decide) (fun K hK => ?_) AllReadyC.nil)
    go_simp
    obtain ⟨gz, hgz⟩ : ∃ gz, gz = wa.heap.size := ⟨_, rfl⟩
    have hz3 : Tb (wa.alloc (.cells #[.int .u8 0, .bool false, .slice none 0 0, .string ⟨#[]⟩, .int .i64 0, .slice none 0 0, .slice none 0 0] 26)) gz #[.int .u8 0, .bool false, .slice none 0 0, .string ⟨#[]⟩, .int .i64 0, .slice none 0 0, .slice none 0 0] := Tb.new _ _ _ hgz
    have hu3 : Upd [] wa (wa.alloc (.cells #[.int .u8 0, .bool false, .slice none 0 0, .string ⟨#[]⟩, .int .i64 0, .slice none 0 0, .slice none 0 0] 26)) := (Upd.refl [] wa).alloc _
    rw [← hgz]
    generalize World.alloc wa _ = w3 at hz3 hu3 ⊢
    have hS3 : (fun W => Upd [] w W ∧ Tb W w.heap.size (fl kk bb ss nn)) w3 := ⟨hSa.1.trans hu3, hSa.2.mono hu3 (by simp)⟩
    have TZ3 : Hid (Tb w3 gz #[.int .u8 0, .bool false, .slice none 0 0, .string ⟨#[]⟩, .int .i64 0, .slice none 0 0, .slice none 0 0]) := hz3
    have U3 : Hid (Upd [] w w3) := hS3.1
    refine hK.out _ _ hS3 (fun _ => ?_)
    clear hK K hgz hz3 hu3 hSa
    have hB3 := HB.out.up U3.out
    refine wpAnyC_cut (fun _ => True) (by kernel_rfl) rfl (fun K hK => ?_)
    rw [if_pos (by rfl)]
    refine wp_appendG (.tmp 17) (.tmp 21) 24 rfl Try.underlying24 hi hz0 hzs hzb rfl (v := .slice p n cap) (n := n) rfl (by rw [← HL.out]; rw [HL.out]; have := hB3.row; rw [HL.out] at this; exact this) ⟨gz, 0, none⟩ 1 1 (fl 0 false ⟨#[]⟩ 0).toList rfl rfl (fun j u hj => by rw [Addr.add_lit, Nat.zero_add, TZ3.out.cell j]; simpa using hj) (fun u hu => List.all_eq_true.1 (by simpa using fl_one 0 false ⟨#[]⟩ 0) u hu) (by omega) (by omega) (by omega) ?_
    intro g' cap' w4 hR4 hG4 _
    refine hK.out _ _ trivial (fun _ => ?_)
    clear hK K
    have hR4' : RowG w4 7 (.slice (some ⟨g', 0, none⟩) (L.length + 1) cap') (L.length + 1) := by rw [HL.out]; exact hR4
    have hG4' : Grew 7 w3 w4 (.slice p L.length cap) L.length g' := by rw [HL.out]; exact hG4
    have hB3' : BoxV w3 b (.slice p L.length cap) L k := by rw [HL.out]; exact hB3
    obtain ⟨hgb, hB4, _⟩ := put_fin1 (c := (fl kk bb ss nn).toList) hB3' hG4' hR4' rfl
    have HF : Hid (BoxV w3 b (.slice p L.length cap) L k ∧ Grew 7 w3 w4 (.slice p L.length cap) L.length g' ∧ RowG w4 7 (.slice (some ⟨g', 0, none⟩) (L.length + 1) cap') (L.length + 1) ∧ g' ≠ b ∧ Bx w4 b (.slice p L.length cap) k) := ⟨hB3', hG4', hR4', hgb, hB4⟩
    clear hR4 hG4 hB3 hR4' hG4' hB3' hgb hB4
    have h0n : (0 : Int) ≤ (n : Int) := by omega
    have hlt1 : (n : Int) < (n : Int) + 1 := by omega
    refine wpAnyH_take (i := 9) (v := .pointer (some ⟨g', n * 7, none⟩)) rfl (by kernel_rfl) (by kernel_rfl) (by kernel_rfl) (fun _ _ _ h => h) (Or.inl ⟨by rfl, ?_⟩) trivial ?_
    · intro W hW; skip; go_simp
    refine wpAnyH_take (i := 11) (v := .pointer (some ⟨b, 0, none⟩)) rfl (by kernel_rfl) (by kernel_rfl) (by kernel_rfl) (fun _ _ _ h => h) (Or.inl ⟨by rfl, ?_⟩) trivial ?_
    · intro W hW; skip; go_simp
    refine wpAnyH_take (i := 12) (v := .pointer (some ⟨b, 1, none⟩)) rfl (by kernel_rfl) (by kernel_rfl) (by kernel_rfl) (fun _ _ _ h => h) (Or.inl ⟨by rfl, ?_⟩) trivial ?_
    · intro W hW; skip; go_simp
    simp only [Act.put, List.getElem_toArray, List.getElem_cons_succ, List.getElem_cons_zero, List.setIfInBounds_toArray, List.set_cons_succ, List.set_cons_zero]
    refine wpAnyH_ready (rs := [10, 13]) (by kernel_rfl) (by simp) (AllReadyH.cons rfl (fun K hK => ?_) (AllReadyH.cons rfl (fun K hK => ?_) AllReadyH.nil))
    · rw [if_pos (by rfl)]
      refine wp_store_mid 26 (.tmp 23) (.tmp 19) rfl g' (n * 7) (fl kk bb ss nn) rfl rfl (by have := HF.out.2.2.1.room (i := L.length) (by omega); rw [HL.out] at this; exact this) (by rw [info_term]; rfl) (fl_one kk bb ss nn) ?_
      refine hK.out _ _ trivial (fun _ => ?_)
      clear hK K
      have hB5 := HF.out.2.2.2.2.mono (setCells_Upd w4 g' (n * 7) (fl kk bb ss nn).toList) (by simpa using fun e => HF.out.2.2.2.1 e.symm)
      have c1 := hB5.c1
      have f1 := hB5.f 1
      obtain ⟨w5, hw5⟩ : ∃ w5, w5 = w4.setCells g' (n * 7) (fl kk bb ss nn).toList := ⟨_, rfl⟩
      rw [← hw5] at c1 f1 ⊢
      have HW5 : Hid (w5 = w4.setCells g' (n * 7) (fl kk bb ss nn).toList) := hw5
      clear hB5 hw5
      refine wpAnyH_ready (rs := [13]) (by kernel_rfl) (by simp) (AllReadyH.cons rfl (fun K hK => ?_) AllReadyH.nil)
      go_simp
      refine hK.out _ _ trivial (fun _ => ?_)
      clear hK K
      refine wpAnyH_done (by kernel_rfl) ?_ _
      clear c1 f1
      go_wp2_with fail
      go_ret
      have hw5 := HW5.out
      have hf := put_fin2 (w5 := w5) (wF := w5.setCell ⟨b, 1, none⟩ (.slice (some ⟨g', 0, none⟩) (L.length + 1) cap')) (c := (fl kk bb ss nn).toList) HF.out.1 HF.out.2.1 HF.out.2.2.1 rfl (Or.inl ⟨by rw [HL.out]; exact hw5, rfl⟩)
      rw [HL.out] at hf
      refine ⟨rfl, (.slice (some ⟨g', 0, none⟩) (n + 1) cap'), hf.1, ?_⟩
      exact (UpdB.of0 U3.out).trans hf.2
    · have c1 := HF.out.2.2.2.2.c1
      have f1 := HF.out.2.2.2.2.f 1
      go_simp
      obtain ⟨w5, hw5⟩ : ∃ w5, w5 = w4.setCell ⟨b, 1, none⟩ (.slice (some ⟨g', 0, none⟩) (n + 1) cap') := ⟨_, rfl⟩
      rw [← hw5]
      have HW5 : Hid (w5 = w4.setCell ⟨b, 1, none⟩ (.slice (some ⟨g', 0, none⟩) (n + 1) cap')) := hw5
      clear hw5
      refine hK.out _ _ trivial (fun _ => ?_)
      clear hK K
      have hR5 : RowG w5 7 (.slice (some ⟨g', 0, none⟩) (L.length + 1) cap') (L.length + 1) := by
        rw [HW5.out]
        exact HF.out.2.2.1.upd ((Upd.refl [b] w4).setCell (Or.inr (by simp)) _) (fun g hg => by simp [Value.ownBlock] at hg; subst hg; simpa using HF.out.2.2.2.1)
      have hT5 := hR5.room (i := L.length) (by omega)
      rw [HL.out] at hT5
      clear c1 f1 hR5
      refine wpAnyH_ready (rs := [10]) (by kernel_rfl) (by simp) (AllReadyH.cons rfl (fun K hK => ?_) AllReadyH.nil)
      rw [if_pos (by rfl)]
      refine wp_store_mid 26 (.tmp 23) (.tmp 19) rfl g' (n * 7) (fl kk bb ss nn) rfl rfl hT5 (by rw [info_term]; rfl) (fl_one kk bb ss nn) ?_
      refine hK.out _ _ trivial (fun _ => ?_)
      clear hK K hT5
      refine wpAnyH_done (by kernel_rfl) ?_ _
      go_wp2_with fail
      go_ret
      have hw5 := HW5.out
      have hf := put_fin2 (w5 := w5) (wF := w5.setCells g' (L.length * 7) (fl kk bb ss nn).toList) (c := (fl kk bb ss nn).toList) HF.out.1 HF.out.2.1 HF.out.2.2.1 rfl (Or.inr ⟨by rw [HL.out]; exact hw5, rfl⟩)
      rw [HL.out] at hf
      refine ⟨rfl, (.slice (some ⟨g', 0, none⟩) (n + 1) cap'), hf.1, ?_⟩
      exact (UpdB.of0 U3.out).trans hf.2
  · go_simp
    obtain ⟨gz, hgz⟩ : ∃ gz, gz = w2.heap.size := ⟨_, rfl⟩
    have hz3 : Tb (w2.alloc (.cells #[.int .u8 0, .bool false, .slice none 0 0, .string ⟨#[]⟩, .int .i64 0, .slice none 0 0, .slice none 0 0] 26)) gz #[.int .u8 0, .bool false, .slice none 0 0, .string ⟨#[]⟩, .int .i64 0, .slice none 0 0, .slice none 0 0] := Tb.new _ _ _ hgz
    have hu3 : Upd [] w2 (w2.alloc (.cells #[.int .u8 0, .bool false, .slice none 0 0, .string ⟨#[]⟩, .int .i64 0, .slice none 0 0, .slice none 0 0] 26)) := (Upd.refl [] w2).alloc _
    rw [← hgz]
    generalize World.alloc w2 _ = wa at hz3 hu3 ⊢
    have hSa : (fun W => Upd [] w W ∧ Tb W w.heap.size (fl kk bb ss nn)) wa := ⟨hS.1.trans hu3, hS.2.mono hu3 (by simp)⟩
    have HZ : Hid (Tb wa gz #[.int .u8 0, .bool false, .slice none 0 0, .string ⟨#[]⟩, .int .i64 0, .slice none 0 0, .slice none 0 0]) := hz3
    refine hK.out _ _ hSa (fun _ => ?_)
    clear hK K hgz hz3 hu3
    refine wpAnyC_ready (rs := [5]) (by kernel_rfl) (by simp) (AllReadyC.cons rfl (by decide) (fun K hK => ?_) AllReadyC.nil)
    go_simp
    refine (copied_fl _ 0 kk nn bb ss).mono ?_
    rintro en w3 ⟨rfl, hU⟩
    have hS3 : (fun W => Upd [] w W ∧ Tb W w.heap.size (fl kk bb ss nn)) w3 := ⟨hSa.1.trans hU, hSa.2.mono hU (by simp)⟩
    have TZ3 : Hid (Tb w3 gz #[.int .u8 0, .bool false, .slice none 0 0, .string ⟨#[]⟩, .int .i64 0, .slice none 0 0, .slice none 0 0]) := HZ.out.mono hU (by simp)
    have U3 : Hid (Upd [] w w3) := hS3.1
    refine hK.out _ _ hS3 (fun _ => ?_)
    clear hK K hU hSa HZ
    have hB3 := HB.out.up U3.out
    refine wpAnyC_cut (fun _ => True) (by kernel_rfl) rfl (fun K hK => ?_)
    rw [if_pos (by rfl)]
    refine wp_appendG (.tmp 17) (.tmp 21) 24 rfl Try.underlying24 hi hz0 hzs hzb rfl (v := .slice p n cap) (n := n) rfl (by rw [← HL.out]; rw [HL.out]; have := hB3.row; rw [HL.out] at this; exact this) ⟨gz, 0, none⟩ 1 1 (fl 0 false ⟨#[]⟩ 0).toList rfl rfl (fun j u hj => by rw [Addr.add_lit, Nat.zero_add, TZ3.out.cell j]; simpa using hj) (fun u hu => List.all_eq_true.1 (by simpa using fl_one 0 false ⟨#[]⟩ 0) u hu) (by omega) (by omega) (by omega) ?_
    intro g' cap' w4 hR4 hG4 _
    refine hK.out _ _ trivial (fun _ => ?_)
    clear hK K
    have hR4' : RowG w4 7 (.slice (some ⟨g', 0, none⟩) (L.length + 1) cap') (L.length + 1) := by rw [HL.out]; exact hR4
    have hG4' : Grew 7 w3 w4 (.slice p L.length cap) L.length g' := by rw [HL.out]; exact hG4
    have hB3' : BoxV w3 b (.slice p L.length cap) L k := by rw [HL.out]; exact hB3
    obtain ⟨hgb, hB4, _⟩ := put_fin1 (c := (fl kk bb ss nn).toList) hB3' hG4' hR4' rfl
    have HF : Hid (BoxV w3 b (.slice p L.length cap) L k ∧ Grew 7 w3 w4 (.slice p L.length cap) L.length g' ∧ RowG w4 7 (.slice (some ⟨g', 0, none⟩) (L.length + 1) cap') (L.length + 1) ∧ g' ≠ b ∧ Bx w4 b (.slice p L.length cap) k) := ⟨hB3', hG4', hR4', hgb, hB4⟩
    clear hR4 hG4 hB3 hR4' hG4' hB3' hgb hB4
    have h0n : (0 : Int) ≤ (n : Int) := by omega
    have hlt1 : (n : Int) < (n : Int) + 1 := by omega
    refine wpAnyH_take (i := 9) (v := .pointer (some ⟨g', n * 7, none⟩)) rfl (by kernel_rfl) (by kernel_rfl) (by kernel_rfl) (fun _ _ _ h => h) (Or.inl ⟨by rfl, ?_⟩) trivial ?_
    · intro W hW; skip; go_simp
    refine wpAnyH_take (i := 11) (v := .pointer (some ⟨b, 0, none⟩)) rfl (by kernel_rfl) (by kernel_rfl) (by kernel_rfl) (fun _ _ _ h => h) (Or.inl ⟨by rfl, ?_⟩) trivial ?_
    · intro W hW; skip; go_simp
    refine wpAnyH_take (i := 12) (v := .pointer (some ⟨b, 1, none⟩)) rfl (by kernel_rfl) (by kernel_rfl) (by kernel_rfl) (fun _ _ _ h => h) (Or.inl ⟨by rfl, ?_⟩) trivial ?_
    · intro W hW; skip; go_simp
    simp only [Act.put, List.getElem_toArray, List.getElem_cons_succ, List.getElem_cons_zero, List.setIfInBounds_toArray, List.set_cons_succ, List.set_cons_zero]
    refine wpAnyH_ready (rs := [10, 13]) (by kernel_rfl) (by simp) (AllReadyH.cons rfl (fun K hK => ?_) (AllReadyH.cons rfl (fun K hK => ?_) AllReadyH.nil))
    · rw [if_pos (by rfl)]
      refine wp_store_mid 26 (.tmp 23) (.tmp 19) rfl g' (n * 7) (fl kk bb ss nn) rfl rfl (by have := HF.out.2.2.1.room (i := L.length) (by omega); rw [HL.out] at this; exact this) (by rw [info_term]; rfl) (fl_one kk bb ss nn) ?_
      refine hK.out _ _ trivial (fun _ => ?_)
      clear hK K
      have hB5 := HF.out.2.2.2.2.mono (setCells_Upd w4 g' (n * 7) (fl kk bb ss nn).toList) (by simpa using fun e => HF.out.2.2.2.1 e.symm)
      have c1 := hB5.c1
      have f1 := hB5.f 1
      obtain ⟨w5, hw5⟩ : ∃ w5, w5 = w4.setCells g' (n * 7) (fl kk bb ss nn).toList := ⟨_, rfl⟩
      rw [← hw5] at c1 f1 ⊢
      have HW5 : Hid (w5 = w4.setCells g' (n * 7) (fl kk bb ss nn).toList) := hw5
      clear hB5 hw5
      refine wpAnyH_ready (rs := [13]) (by kernel_rfl) (by simp) (AllReadyH.cons rfl (fun K hK => ?_) AllReadyH.nil)
      go_simp
      refine hK.out _ _ trivial (fun _ => ?_)
      clear hK K
      refine wpAnyH_done (by kernel_rfl) ?_ _
      clear c1 f1
      go_wp2_with fail
      go_ret
      have hw5 := HW5.out
      have hf := put_fin2 (w5 := w5) (wF := w5.setCell ⟨b, 1, none⟩ (.slice (some ⟨g', 0, none⟩) (L.length + 1) cap')) (c := (fl kk bb ss nn).toList) HF.out.1 HF.out.2.1 HF.out.2.2.1 rfl (Or.inl ⟨by rw [HL.out]; exact hw5, rfl⟩)
      rw [HL.out] at hf
      refine ⟨rfl, (.slice (some ⟨g', 0, none⟩) (n + 1) cap'), hf.1, ?_⟩
      exact (UpdB.of0 U3.out).trans hf.2
    · have c1 := HF.out.2.2.2.2.c1
      have f1 := HF.out.2.2.2.2.f 1
      go_simp
      obtain ⟨w5, hw5⟩ : ∃ w5, w5 = w4.setCell ⟨b, 1, none⟩ (.slice (some ⟨g', 0, none⟩) (n + 1) cap') := ⟨_, rfl⟩
      rw [← hw5]
      have HW5 : Hid (w5 = w4.setCell ⟨b, 1, none⟩ (.slice (some ⟨g', 0, none⟩) (n + 1) cap')) := hw5
      clear hw5
      refine hK.out _ _ trivial (fun _ => ?_)
      clear hK K
      have hR5 : RowG w5 7 (.slice (some ⟨g', 0, none⟩) (L.length + 1) cap') (L.length + 1) := by
        rw [HW5.out]
        exact HF.out.2.2.1.upd ((Upd.refl [b] w4).setCell (Or.inr (by simp)) _) (fun g hg => by simp [Value.ownBlock] at hg; subst hg; simpa using HF.out.2.2.2.1)
      have hT5 := hR5.room (i := L.length) (by omega)
      rw [HL.out] at hT5
      clear c1 f1 hR5
      refine wpAnyH_ready (rs := [10]) (by kernel_rfl) (by simp) (AllReadyH.cons rfl (fun K hK => ?_) AllReadyH.nil)
      rw [if_pos (by rfl)]
      refine wp_store_mid 26 (.tmp 23) (.tmp 19) rfl g' (n * 7) (fl kk bb ss nn) rfl rfl hT5 (by rw [info_term]; rfl) (fl_one kk bb ss nn) ?_
      refine hK.out _ _ trivial (fun _ => ?_)
      clear hK K hT5
      refine wpAnyH_done (by kernel_rfl) ?_ _
      go_wp2_with fail
      go_ret
      have hw5 := HW5.out
      have hf := put_fin2 (w5 := w5) (wF := w5.setCells g' (L.length * 7) (fl kk bb ss nn).toList) (c := (fl kk bb ss nn).toList) HF.out.1 HF.out.2.1 HF.out.2.2.1 rfl (Or.inr ⟨by rw [HL.out]; exact hw5, rfl⟩)
      rw [HL.out] at hf
      refine ⟨rfl, (.slice (some ⟨g', 0, none⟩) (n + 1) cap'), hf.1, ?_⟩
      exact (UpdB.of0 U3.out).trans hf.2

end Go.Proofs.Ytmdkhkeljpdbiaa
