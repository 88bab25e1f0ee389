/- The reference's Put. -/
import Derived.Test.YtmdkhkeljpdbiaaMrA
namespace Go.Proofs.Ytmdkhkeljpdbiaa
open Go.RowKit

theorem rput_fin1 {w3 w4 : World} {b g' cap' k : Nat} {v : Value} {L : List (List Value)} {c : List Value} (hb : RBoxV w3 b v L k) (hG : Grew 7 w3 w4 v L.length g') (_hR : RowG w4 7 (.slice (some ⟨g', 0, none⟩) (L.length + 1) cap') (L.length + 1)) (_hc : c.length = 7) :
    g' ≠ b ∧ RBx w4 b v k ∧ Hs w4 7 (.slice (some ⟨g', 0, none⟩) (L.length + 1) cap') L.length (fun i => (L ++ [c]).getD i []) := by
  have hgb : g' ≠ b := fun e => by
    rcases hG.at' with h1 | h1
    · exact hb.far (by rw [h1, e])
    · have := hb.lt; omega
  refine ⟨hgb, hb.bx.mono hG.upd (by simpa using fun e => hgb e.symm), ?_⟩
  intro g l c2 e i j hi hj
  simp only [Value.slice.injEq, Option.some.injEq, Addr.mk.injEq, and_true] at e
  obtain ⟨rfl, _, _⟩ := e
  have e2 : (L ++ [c]).getD i [] = L.getD i [] := by
    rw [List.getD_eq_getElem?_getD, List.getD_eq_getElem?_getD, List.getElem?_append_left hi]
  have hij : i * 7 + j < L.length * 7 := by have := mul_room (sz := 7) hi; omega
  rcases hb.row with ⟨h1, h2⟩ | ⟨g0, cap0, h1, _⟩
  · omega
  · subst h1
    show _ = ((L ++ [c]).getD i [])[j]?
    rw [hG.new g0 L.length cap0 rfl (i * 7 + j) hij, e2]
    exact hb.has g0 L.length cap0 rfl i j hi hj
theorem rput_fin2 {w3 w4 w5 wF : World} {b g' cap' k : Nat} {v : Value} {L : List (List Value)} {c : List Value} (hb : RBoxV w3 b v L k) (hG : Grew 7 w3 w4 v L.length g') (hR : RowG w4 7 (.slice (some ⟨g', 0, none⟩) (L.length + 1) cap') (L.length + 1)) (hc : c.length = 7)
    (hw : (w5 = w4.setCells g' (L.length * 7) c ∧ wF = w5.setCell ⟨b, 0, none⟩ (.slice (some ⟨g', 0, none⟩) (L.length + 1) cap')) ∨ (w5 = w4.setCell ⟨b, 0, none⟩ (.slice (some ⟨g', 0, none⟩) (L.length + 1) cap') ∧ wF = w5.setCells g' (L.length * 7) c)) :
    RBoxV wF b (.slice (some ⟨g', 0, none⟩) (L.length + 1) cap') (L ++ [c]) k ∧ UpdB b v w3 wF (.slice (some ⟨g', 0, none⟩) (L.length + 1) cap') := by
  obtain ⟨hgb, hB4, hH4⟩ := rput_fin1 hb hG hR hc
  have hbg : b ≠ g' := fun e => hgb e.symm
  have hlen : (L ++ [c]).length = L.length + 1 := by simp
  have hCn := getD_last L c []
  have key : RBoxV wF b (.slice (some ⟨g', 0, none⟩) (L.length + 1) cap') (L ++ [c]) k ∧ Upd [b, g'] w4 wF := by
    rcases hw with ⟨rfl, rfl⟩ | ⟨rfl, rfl⟩
    · have hu := setCells_Upd w4 g' (L.length * 7) c
      have hR5 := hR.set (L.length * 7) c
      have hH5 := Hs.set (i := L.length) hH4 hR (by omega) (by rw [hCn]; exact hc)
      rw [hCn] at hH5
      have hB5 := hB4.mono hu (by simpa using hbg)
      have hu6 : Upd [b] (w4.setCells g' (L.length * 7) c) _ := (Upd.refl [b] _).setCell (p := ⟨b, 0, none⟩) (Or.inr (by simp)) (.slice (some ⟨g', 0, none⟩) (L.length + 1) cap')
      refine ⟨⟨hB5.set0 _, ?_, ?_, by simpa [Value.ownBlock] using hgb⟩, ?_⟩
      · rw [hlen]; exact hR5.upd hu6 (fun g hg => by simp [Value.ownBlock] at hg; subst hg; simpa using hgb)
      · rw [hlen]; exact hH5.upd hR5 hu6 (fun g hg => by simp [Value.ownBlock] at hg; subst hg; simpa using hgb)
      · exact ((Upd.refl [b, g'] w4).then hu (by simp)).then hu6 (by simp)
    · have hu5 : Upd [b] w4 _ := (Upd.refl [b] _).setCell (p := ⟨b, 0, none⟩) (Or.inr (by simp)) (.slice (some ⟨g', 0, none⟩) (L.length + 1) cap')
      have hB5 := hB4.set0 (.slice (some ⟨g', 0, none⟩) (L.length + 1) cap')
      have hR5 := hR.upd hu5 (fun g hg => by simp [Value.ownBlock] at hg; subst hg; simpa using hgb)
      have hH5 := hH4.upd hR hu5 (fun g hg => by simp [Value.ownBlock] at hg; subst hg; simpa using hgb)
      have hu6 := setCells_Upd (w4.setCell ⟨b, 0, none⟩ (.slice (some ⟨g', 0, none⟩) (L.length + 1) cap')) g' (L.length * 7) c
      have hH6 := Hs.set (i := L.length) hH5 hR5 (by omega) (by rw [hCn]; exact hc)
      rw [hCn] at hH6
      refine ⟨⟨hB5.mono hu6 (by simpa using hbg), ?_, ?_, by simpa [Value.ownBlock] using hgb⟩, ?_⟩
      · rw [hlen]; exact hR5.set _ _
      · rw [hlen]; exact hH6
      · exact ((Upd.refl [b, g'] w4).then hu5 (by simp)).then hu6 (by simp)
  refine ⟨key.1, ⟨key.2.os.trans hG.upd.os, key.2.tape.trans hG.upd.tape, key.2.output.trans hG.upd.output, Nat.le_trans hG.upd.size key.2.size, fun i hi hib hiv => ?_, fun i hi hiv => ?_⟩⟩
  · have hig : i ≠ g' := fun e => by
      rcases hG.at' with h1 | h1
      · exact hiv (by rw [h1, e])
      · omega
    exact (key.2.block i (Nat.lt_of_lt_of_le hi hG.upd.size) (by simp [hib, hig])).trans (hG.upd.block i hi (by simpa using hig))
  · have hig : i ≠ g' := fun e => by
      rcases hG.at' with h1 | h1
      · exact hiv (by rw [h1, e])
      · omega
    simpa [Value.ownBlock] using fun e => hig e.symm


set_option maxHeartbeats 2000000 in
set_option maxRecDepth 100000 in
theorem rput_on (w : World) (b : Nat) (v : Value) (L : List (List Value)) (k : Nat) (kk nn : Int) (bb : Bool) (ss : ByteArray) (hn : L.length < 1024) (h : RBoxV w b v L k) :
    Calls Try.prog 17 #[.pointer (some ⟨b, 0, none⟩), .agg (fl kk bb ss nn)] w fun e w' => e = .returned (.int .i64 0) ∧ ∃ v', RBoxV w' b v' (L ++ [(fl kk bb ss nn).toList]) k ∧ UpdB b v w w' v' := by
  obtain ⟨p, cap, rfl⟩ := h.form
  obtain ⟨fs, hdesc⟩ := term_desc
  obtain ⟨i0, hi, hz0, hzs, hzb⟩ := info_partsN info_termP
  have U1 : Hid (Upd [] w (w.alloc (.cells (fl kk bb ss nn) 26))) := (Upd.refl [] w).alloc _
  have TZ : Hid (Tb (w.alloc (.cells (fl kk bb ss nn) 26)) w.heap.size (fl kk bb ss nn)) := Tb.new _ _ _ rfl
  have HB : Hid (RBoxV w b (.slice p L.length cap) L k) := h
  have e1 := (HB.out.up U1.out).bx.c0
  have hge : decide ((1024 : Int) ≤ (L.length : Int)) = false := decide_eq_false (by omega)
  generalize hL : L.length = n at *
  have HL : Hid (L.length = n) := hL
  clear h hL
  go_enter Try.func17, Try.ntmps17
  go_wp2_with fail
  have hS0 : (fun W => Upd [] w W ∧ Tb W w.heap.size (fl kk bb ss nn)) (w.alloc (.cells (fl kk bb ss nn) 26)).drew := ⟨U1.out.drew, TZ.out.mono (Upd.refl [] _).drew (by simp)⟩
  refine wp_region_cut_drew (S := fun W => Upd [] w W ∧ Tb W w.heap.size (fl kk bb ss nn)) 7 (by kernel_rfl) hS0 (fun hS => ?_)
  generalize World.drew _ = w2 at hS ⊢
  clear hS0 TZ U1 e1
  refine wpAnyC_take (i := 0) (v := .pointer (some ⟨b, 0, none⟩)) rfl (by kernel_rfl) (by kernel_rfl) (by kernel_rfl) (by kernel_rfl) (fun _ _ _ h => h) (Or.inl ⟨by rfl, ?_⟩) hS ?_
  · intro W hW; have e0 := (HB.out.up hW.1).bx.c0; go_simp
  refine wpAnyC_take (i := 1) (v := .pointer (some ⟨b, 0, none⟩)) rfl (by kernel_rfl) (by kernel_rfl) (by kernel_rfl) (by kernel_rfl) (fun _ _ _ h => h) (Or.inl ⟨by rfl, ?_⟩) hS ?_
  · intro W hW; have e0 := (HB.out.up hW.1).bx.c0; go_simp
  refine wpAnyC_take (i := 2) (v := .pointer (some ⟨b, 0, none⟩)) rfl (by kernel_rfl) (by kernel_rfl) (by kernel_rfl) (by kernel_rfl) (fun _ _ _ h => h) (Or.inl ⟨by rfl, ?_⟩) hS ?_
  · intro W hW; have e0 := (HB.out.up hW.1).bx.c0; go_simp
  refine wpAnyC_take (i := 3) (v := .slice p n cap) rfl (by kernel_rfl) (by kernel_rfl) (by kernel_rfl) (by kernel_rfl) (fun _ _ _ h => h) (Or.inl ⟨by rfl, ?_⟩) hS ?_
  · intro W hW; have e0 := (HB.out.up hW.1).bx.c0; go_simp
  simp only [Act.put, List.getElem_toArray, List.getElem_cons_succ, List.getElem_cons_zero, List.setIfInBounds_toArray, List.set_cons_succ, List.set_cons_zero]
  refine wpAnyC_take (i := 4) (v := .agg (fl kk bb ss nn)) rfl (by kernel_rfl) (by kernel_rfl) (by kernel_rfl) (by kernel_rfl) (fun _ _ _ h => h) (yieldsIf_load_mid rfl 26 (.tmp 3) rfl w.heap.size 0 rfl (fl kk bb ss nn).toList _ (fun W hW => hW.2.range) hdesc rfl (by rw [info_term]; rfl)) hS ?_
  refine wpAnyC_take (i := 5) (v := .int .i64 n) rfl (by kernel_rfl) (by kernel_rfl) (by kernel_rfl) (by kernel_rfl) (fun _ _ _ h => h) (Or.inl ⟨by rfl, ?_⟩) hS ?_
  · intro W hW; have e0 := (HB.out.up hW.1).bx.c0; go_simp
  simp only [Act.put, List.getElem_toArray, List.getElem_cons_succ, List.getElem_cons_zero, List.setIfInBounds_toArray, List.set_cons_succ, List.set_cons_zero]
  refine wpAnyC_ready (rs := [6]) (by kernel_rfl) (by simp) (AllReadyC.cons rfl (by decide) (fun K hK => ?_) AllReadyC.nil)
  go_simp
  obtain ⟨gz, hgz⟩ : ∃ gz, gz = w2.heap.size := ⟨_, rfl⟩
  have hz3 : Tb (w2.alloc (.cells #[.int .u8 0, .bool false, .slice none 0 0, .string ⟨#[]⟩, .int .i64 0, .slice none 0 0, .slice none 0 0] 26)) gz #[.int .u8 0, .bool false, .slice none 0 0, .string ⟨#[]⟩, .int .i64 0, .slice none 0 0, .slice none 0 0] := Tb.new _ _ _ hgz
  have hu3 : Upd [] w2 (w2.alloc (.cells #[.int .u8 0, .bool false, .slice none 0 0, .string ⟨#[]⟩, .int .i64 0, .slice none 0 0, .slice none 0 0] 26)) := (Upd.refl [] w2).alloc _
  rw [← hgz]
  generalize World.alloc w2 _ = w3 at hz3 hu3 ⊢
  have hS3 : (fun W => Upd [] w W ∧ Tb W w.heap.size (fl kk bb ss nn)) w3 := ⟨hS.1.trans hu3, hS.2.mono hu3 (by simp)⟩
  have TZ3 : Hid (Tb w3 gz #[.int .u8 0, .bool false, .slice none 0 0, .string ⟨#[]⟩, .int .i64 0, .slice none 0 0, .slice none 0 0]) := hz3
  have U3 : Hid (Upd [] w w3) := hS3.1
  refine hK.out _ _ hS3 (fun _ => ?_)
  clear hK K hgz hz3 hu3
  have hB3 := HB.out.up U3.out
  refine wpAnyC_cut (fun _ => True) (by kernel_rfl) rfl (fun K hK => ?_)
  rw [if_pos (by rfl)]
  refine wp_appendG (.tmp 14) (.tmp 17) 24 rfl Try.underlying24 hi hz0 hzs hzb rfl (v := .slice p n cap) (n := n) rfl (by rw [← HL.out]; rw [HL.out]; have := hB3.row; rw [HL.out] at this; exact this) ⟨gz, 0, none⟩ 1 1 (fl 0 false ⟨#[]⟩ 0).toList rfl rfl (fun j u hj => by rw [Addr.add_lit, Nat.zero_add, TZ3.out.cell j]; simpa using hj) (fun u hu => List.all_eq_true.1 (by simpa using fl_one 0 false ⟨#[]⟩ 0) u hu) (by omega) (by omega) (by omega) ?_
  intro g' cap' w4 hR4 hG4 _
  refine hK.out _ _ trivial (fun _ => ?_)
  clear hK K
  have hR4' : RowG w4 7 (.slice (some ⟨g', 0, none⟩) (L.length + 1) cap') (L.length + 1) := by rw [HL.out]; exact hR4
  have hG4' : Grew 7 w3 w4 (.slice p L.length cap) L.length g' := by rw [HL.out]; exact hG4
  have hB3' : RBoxV w3 b (.slice p L.length cap) L k := by rw [HL.out]; exact hB3
  obtain ⟨hgb, hB4, _⟩ := rput_fin1 (c := (fl kk bb ss nn).toList) hB3' hG4' hR4' rfl
  have HF : Hid (RBoxV w3 b (.slice p L.length cap) L k ∧ Grew 7 w3 w4 (.slice p L.length cap) L.length g' ∧ RowG w4 7 (.slice (some ⟨g', 0, none⟩) (L.length + 1) cap') (L.length + 1) ∧ g' ≠ b ∧ RBx w4 b (.slice p L.length cap) k) := ⟨hB3', hG4', hR4', hgb, hB4⟩
  clear hR4 hG4 hB3 hR4' hG4' hB3' hgb hB4
  have h0n : (0 : Int) ≤ (n : Int) := by omega
  have hlt1 : (n : Int) < (n : Int) + 1 := by omega
  refine wpAnyH_take (i := 8) (v := .pointer (some ⟨g', n * 7, none⟩)) rfl (by kernel_rfl) (by kernel_rfl) (by kernel_rfl) (fun _ _ _ h => h) (Or.inl ⟨by rfl, ?_⟩) trivial ?_
  · intro W hW; skip; go_simp
  refine wpAnyH_take (i := 10) (v := .pointer (some ⟨b, 0, none⟩)) rfl (by kernel_rfl) (by kernel_rfl) (by kernel_rfl) (fun _ _ _ h => h) (Or.inl ⟨by rfl, ?_⟩) trivial ?_
  · intro W hW; skip; go_simp
  refine wpAnyH_take (i := 11) (v := .pointer (some ⟨b, 0, none⟩)) rfl (by kernel_rfl) (by kernel_rfl) (by kernel_rfl) (fun _ _ _ h => h) (Or.inl ⟨by rfl, ?_⟩) trivial ?_
  · intro W hW; skip; go_simp
  simp only [Act.put, List.getElem_toArray, List.getElem_cons_succ, List.getElem_cons_zero, List.setIfInBounds_toArray, List.set_cons_succ, List.set_cons_zero]
  refine wpAnyH_ready (rs := [9, 12]) (by kernel_rfl) (by simp) (AllReadyH.cons rfl (fun K hK => ?_) (AllReadyH.cons rfl (fun K hK => ?_) AllReadyH.nil))
  · rw [if_pos (by rfl)]
    refine wp_store_mid 26 (.tmp 19) (.tmp 15) rfl g' (n * 7) (fl kk bb ss nn) rfl rfl (by have := HF.out.2.2.1.room (i := L.length) (by omega); rw [HL.out] at this; exact this) (by rw [info_term]; rfl) (fl_one kk bb ss nn) ?_
    refine hK.out _ _ trivial (fun _ => ?_)
    clear hK K
    have hB5 := HF.out.2.2.2.2.mono (setCells_Upd w4 g' (n * 7) (fl kk bb ss nn).toList) (by simpa using fun e => HF.out.2.2.2.1 e.symm)
    have c1 := hB5.c0
    have f1 := hB5.f 0
    obtain ⟨w5, hw5⟩ : ∃ w5, w5 = w4.setCells g' (n * 7) (fl kk bb ss nn).toList := ⟨_, rfl⟩
    rw [← hw5] at c1 f1 ⊢
    have HW5 : Hid (w5 = w4.setCells g' (n * 7) (fl kk bb ss nn).toList) := hw5
    clear hB5 hw5
    refine wpAnyH_ready (rs := [12]) (by kernel_rfl) (by simp) (AllReadyH.cons rfl (fun K hK => ?_) AllReadyH.nil)
    go_simp
    refine hK.out _ _ trivial (fun _ => ?_)
    clear hK K
    refine wpAnyH_done (by kernel_rfl) ?_ _
    clear c1 f1
    go_wp2_with fail
    go_ret
    have hw5 := HW5.out
    have hf := rput_fin2 (w5 := w5) (wF := w5.setCell ⟨b, 0, none⟩ (.slice (some ⟨g', 0, none⟩) (L.length + 1) cap')) (c := (fl kk bb ss nn).toList) HF.out.1 HF.out.2.1 HF.out.2.2.1 rfl (Or.inl ⟨by rw [HL.out]; exact hw5, rfl⟩)
    rw [HL.out] at hf
    refine ⟨rfl, (.slice (some ⟨g', 0, none⟩) (n + 1) cap'), hf.1, ?_⟩
    exact (UpdB.of0 U3.out).trans hf.2
  · have c1 := HF.out.2.2.2.2.c0
    have f1 := HF.out.2.2.2.2.f 0
    go_simp
    obtain ⟨w5, hw5⟩ : ∃ w5, w5 = w4.setCell ⟨b, 0, none⟩ (.slice (some ⟨g', 0, none⟩) (n + 1) cap') := ⟨_, rfl⟩
    rw [← hw5]
    have HW5 : Hid (w5 = w4.setCell ⟨b, 0, none⟩ (.slice (some ⟨g', 0, none⟩) (n + 1) cap')) := hw5
    clear hw5
    refine hK.out _ _ trivial (fun _ => ?_)
    clear hK K
    have hR5 : RowG w5 7 (.slice (some ⟨g', 0, none⟩) (L.length + 1) cap') (L.length + 1) := by
      rw [HW5.out]
      exact HF.out.2.2.1.upd ((Upd.refl [b] w4).setCell (Or.inr (by simp)) _) (fun g hg => by simp [Value.ownBlock] at hg; subst hg; simpa using HF.out.2.2.2.1)
    have hT5 := hR5.room (i := L.length) (by omega)
    rw [HL.out] at hT5
    clear c1 f1 hR5
    refine wpAnyH_ready (rs := [9]) (by kernel_rfl) (by simp) (AllReadyH.cons rfl (fun K hK => ?_) AllReadyH.nil)
    rw [if_pos (by rfl)]
    refine wp_store_mid 26 (.tmp 19) (.tmp 15) rfl g' (n * 7) (fl kk bb ss nn) rfl rfl hT5 (by rw [info_term]; rfl) (fl_one kk bb ss nn) ?_
    refine hK.out _ _ trivial (fun _ => ?_)
    clear hK K hT5
    refine wpAnyH_done (by kernel_rfl) ?_ _
    go_wp2_with fail
    go_ret
    have hw5 := HW5.out
    have hf := rput_fin2 (w5 := w5) (wF := w5.setCells g' (L.length * 7) (fl kk bb ss nn).toList) (c := (fl kk bb ss nn).toList) HF.out.1 HF.out.2.1 HF.out.2.2.1 rfl (Or.inr ⟨by rw [HL.out]; exact hw5, rfl⟩)
    rw [HL.out] at hf
    refine ⟨rfl, (.slice (some ⟨g', 0, none⟩) (n + 1) cap'), hf.1, ?_⟩
    exact (UpdB.of0 U3.out).trans hf.2

end Go.Proofs.Ytmdkhkeljpdbiaa
