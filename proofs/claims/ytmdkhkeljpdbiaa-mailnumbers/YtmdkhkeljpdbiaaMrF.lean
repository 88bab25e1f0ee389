/- The program's box and the reference's, side by side; like. -/
import Derived.Test.YtmdkhkeljpdbiaaMrE
namespace Go.Proofs.Ytmdkhkeljpdbiaa
open Go.RowKit

/-- Two boxes that have the same letters, and the same look, in memory of their own. -/
structure Both (w : World) (b : Nat) (v : Value) (r : Nat) (u : Value) (L : List (List Value)) (k : Nat) : Prop where
  box : BoxV w b v L k
  rbox : RBoxV w r u L k
  br : b ≠ r
  vr : v.ownBlock ≠ some r
  ub : u.ownBlock ≠ some b
  uv : ∀ y, v.ownBlock = some y → u.ownBlock ≠ some y
theorem Both.up {w w' : World} {b r : Nat} {v u : Value} {L : List (List Value)} {k : Nat} (h : Both w b v r u L k) (hu : Upd [] w w') : Both w' b v r u L k := ⟨h.box.up hu, h.rbox.up hu, h.br, h.vr, h.ub, h.uv⟩
theorem all_R (w : World) (b : Nat) (v : Value) (L : List (List Value)) (k : Nat) (hn : L.length ≤ 1024) (hf : Flat L) (h : BoxV w b v L k) :
    Calls Try.prog 14 #[.pointer (some ⟨b, 0, none⟩)] w fun e w' => ∃ a cp, e = .returned (.slice a L.length cp) ∧ RowR w' (.slice a L.length cp) L ∧ Upd [] w w' := by
  by_cases h0 : L.length = 0
  · obtain rfl : L = [] := List.eq_nil_of_length_eq_zero h0
    refine (all_Ve w b v k h).mono ?_
    rintro e w' ⟨rfl, rfl⟩
    exact ⟨none, 0, rfl, ⟨Or.inl ⟨rfl, rfl⟩, Hs.zero _ _ _ _⟩, Upd.refl _ _⟩
  · refine (all_V w b v L k hn (by omega) hf h).mono ?_
    rintro e w' ⟨go, rfl, _, h2, h3, h4⟩
    exact ⟨some ⟨go, 0, none⟩, _, rfl, ⟨h2, h3⟩, h4⟩
theorem next_both {w : World} {b r k : Nat} {v u : Value} {L : List (List Value)} (hn : L.length ≤ 1024) (hf : Flat L) (hk : k ≤ L.length) (h : Both w b v r u L k) :
    ∃ kk nn bb ss ok, (∀ W, Upd [] w W → Calls Try.prog 8 #[.pointer (some ⟨b, 0, none⟩)] W fun e w' => e = .returned (.tuple #[.agg (fl kk bb ss nn), .bool ok]) ∧ Upd [] W w') ∧
      (∀ W, Upd [] w W → Calls Try.prog 30 #[.pointer (some ⟨r, 0, none⟩)] W fun e w' => e = .returned (.tuple #[.agg (fl kk bb ss nn), .bool ok]) ∧ Upd [] W w') := by
  by_cases hlt : k < L.length
  · obtain ⟨kk, bb, ss, nn, hc⟩ := hf.at hlt
    refine ⟨kk, nn, bb, ss, true, fun W hW => ?_, fun W hW => rnext_V W r u L k kk nn bb ss hlt (h.rbox.up hW) hc⟩
    have hb := h.box.up hW
    rcases hb.row with ⟨_, h2⟩ | ⟨g, cap, rfl, hgl, hc1, hc2, _⟩
    · omega
    have hr : W.rangeAt g (k * 7) (fl kk bb ss nn).toList := by
      have := hb.has.range (i := k) hlt (by rw [hc]; rfl)
      rw [hc] at this
      exact this
    exact next_on W b g L.length cap k kk nn bb ss hlt (by omega) hb.bx hgl hr
  · have he : k = L.length := by omega
    refine ⟨0, 0, false, ⟨#[]⟩, false, fun W hW => ?_, fun W hW => rnext_Ve W r u L k he (h.rbox.up hW)⟩
    obtain ⟨p, c, hv⟩ := h.box.form
    have hb := h.box.up hW
    subst hv
    exact next_end W b p L.length c k (by rw [he]; simp) hb.bx

set_option maxHeartbeats 4000000 in
set_option maxRecDepth 100000 in
theorem like_V (w : World) (b r k : Nat) (v u : Value) (L : List (List Value)) (hn : L.length ≤ 1024) (hf : Flat L) (hk : k ≤ L.length) (h : Both w b v r u L k) :
    Calls Try.prog 21 #[.pointer (some ⟨b, 0, none⟩), .pointer (some ⟨r, 0, none⟩)] w fun e w' => e = .returned (.bool true) ∧ Upd [] w w' := by
  obtain ⟨kk, nn, bb, ss, ok, hN, hR⟩ := next_both hn hf hk h
  have HN : Hid (∀ W, Upd [] w W → Calls Try.prog 8 #[.pointer (some ⟨b, 0, none⟩)] W fun e w' => e = .returned (.tuple #[.agg (fl kk bb ss nn), .bool ok]) ∧ Upd [] W w') := hN
  have HR : Hid (∀ W, Upd [] w W → Calls Try.prog 30 #[.pointer (some ⟨r, 0, none⟩)] W fun e w' => e = .returned (.tuple #[.agg (fl kk bb ss nn), .bool ok]) ∧ Upd [] W w') := hR
  obtain ⟨pu, cu, hu0⟩ := h.rbox.form
  subst hu0
  obtain ⟨n, hL⟩ : ∃ n, L.length = n := ⟨_, rfl⟩
  have HB : Hid (Both w b v r (.slice pu L.length cu) L k ∧ Flat L ∧ L.length ≤ 1024 ∧ L.length = n) := ⟨h, hf, hn, hL⟩
  have q0 : (ok == ok) = true := by simp
  have q1 : ((n : Int) == (n : Int)) = true := by simp
  rw [hL] at hn hk
  clear h hf hL hN hR
  go_enter Try.func21, Try.ntmps21
  go_wp2_with fail
  refine Calls.mono (HN.out _ (Upd.refl _ _)) ?_
  rintro e w1 ⟨rfl, hu⟩
  have U1 : Hid (Upd [] w w1) := hu
  have HX : Hid (Tb (w1.alloc (.cells #[.int .u8 0, .bool false, .slice none 0 0, .string ⟨#[]⟩, .int .i64 0, .slice none 0 0, .slice none 0 0] 26)) w1.heap.size #[.int .u8 0, .bool false, .slice none 0 0, .string ⟨#[]⟩, .int .i64 0, .slice none 0 0, .slice none 0 0] ∧ Upd [] w1 (w1.alloc (.cells #[.int .u8 0, .bool false, .slice none 0 0, .string ⟨#[]⟩, .int .i64 0, .slice none 0 0, .slice none 0 0] 26))) := ⟨Tb.new _ _ _ rfl, (Upd.refl [] _).alloc _⟩
  clear hu
  go_wp2_with (first | (refine store_T _ rfl _ _ rfl _ _ _ rfl rfl HX.out.1 rfl rfl (fl_one kk bb ss nn) ?_; intro w2 hT hU0) | fail)
  obtain ⟨x, hx⟩ : ∃ x, x = w1.heap.size := ⟨_, rfl⟩
  rw [← hx] at hT ⊢
  have U2 : Hid (Upd [] w w2) := (U1.out.trans HX.out.2).then hU0 (fun y hy => Or.inl (by simp only [List.mem_singleton] at hy; have := U1.out.size; omega))
  have T2 : Hid (Tb w2 x (fl kk bb ss nn)) := hT
  clear hT hU0 HX U1 hx
  refine Calls.mono (HR.out _ U2.out) ?_
  rintro e w3 ⟨rfl, hu⟩
  have U3 : Hid (Upd [] w w3) := U2.out.trans hu
  have T3 : Hid (Tb w3 x (fl kk bb ss nn)) := T2.out.mono hu (by simp)
  have HX : Hid (Tb (w3.alloc (.cells #[.int .u8 0, .bool false, .slice none 0 0, .string ⟨#[]⟩, .int .i64 0, .slice none 0 0, .slice none 0 0] 26)) w3.heap.size #[.int .u8 0, .bool false, .slice none 0 0, .string ⟨#[]⟩, .int .i64 0, .slice none 0 0, .slice none 0 0] ∧ Upd [] w3 (w3.alloc (.cells #[.int .u8 0, .bool false, .slice none 0 0, .string ⟨#[]⟩, .int .i64 0, .slice none 0 0, .slice none 0 0] 26))) := ⟨Tb.new _ _ _ rfl, (Upd.refl [] _).alloc _⟩
  clear hu U2 T2
  go_wp2_with (first
    | (refine store_T _ rfl _ _ rfl _ _ _ rfl rfl HX.out.1 rfl rfl (fl_one kk bb ss nn) ?_; intro w4 hT hU0
       have T4 : Hid (Tb w4 x (fl kk bb ss nn) ∧ Tb w4 w3.heap.size (fl kk bb ss nn) ∧ Upd [] w w4) := ⟨(T3.out.mono HX.out.2 (by simp)).mono hU0 (by simp only [List.mem_singleton]; have := T3.out.lt; omega), hT, (U3.out.trans HX.out.2).then hU0 (fun y hy => Or.inl (by simp only [List.mem_singleton] at hy; have := U3.out.size; omega))⟩
       clear hT hU0)
    | (refine load_T _ rfl _ rfl _ _ rfl T4.out.1 rfl ?_)
    | (refine load_T _ rfl _ rfl _ _ rfl T4.out.2.1 rfl ?_)
    | fail)
  refine Calls.mono (same_fl _ kk nn bb ss) ?_
  rintro e w5 ⟨rfl, hu⟩
  have U5 : Hid (Upd [] w w5) := T4.out.2.2.trans hu
  have T5 : Hid (Tb w5 x (fl kk bb ss nn)) := T4.out.1.mono hu (by simp)
  clear hu HX U3 T3 T4
  go_wp2_with (first | (refine load_T _ rfl _ rfl _ _ rfl T5.out rfl ?_) | fail)
  refine Calls.mono (turned_fl _ kk nn bb ss) ?_
  rintro e w6 ⟨rfl, hu⟩
  have U6 : Hid (Upd [] w w6) := U5.out.trans hu
  clear hu U5 T5
  go_wp2_with fail
  refine wp_region_held_drew (S := fun W => Upd [] w W) (by kernel_rfl) U6.out.drew (fun hS => ?_)
  generalize World.drew _ = w7 at hS ⊢
  clear U6
  refine wpAnyH_take (i := 0) (v := .bool true) rfl (by kernel_rfl) (by kernel_rfl) (by kernel_rfl) (fun _ _ _ h => h) (Or.inl ⟨by rfl, ?_⟩) hS ?_
  · intro W hW; skip; go_simp
  refine wpAnyH_take (i := 1) (v := .bool true) rfl (by kernel_rfl) (by kernel_rfl) (by kernel_rfl) (fun _ _ _ h => h) (Or.inl ⟨by rfl, ?_⟩) hS ?_
  · intro W hW; skip; go_simp
  simp only [Act.put, List.getElem_toArray, List.getElem_cons_succ, List.getElem_cons_zero, List.setIfInBounds_toArray, List.set_cons_succ, List.set_cons_zero]
  refine wpAnyH_take (i := 2) (v := .pointer (some ⟨b, 0, none⟩)) rfl (by kernel_rfl) (by kernel_rfl) (by kernel_rfl) (fun _ _ _ h => h) (Or.inl ⟨by rfl, ?_⟩) hS ?_
  · intro W hW; skip; go_simp
  refine wpAnyH_take (i := 4) (v := .pointer (some ⟨r, 0, none⟩)) rfl (by kernel_rfl) (by kernel_rfl) (by kernel_rfl) (fun _ _ _ h => h) (Or.inl ⟨by rfl, ?_⟩) hS ?_
  · intro W hW; skip; go_simp
  refine wpAnyH_take (i := 5) (v := .pointer (some ⟨r, 0, none⟩)) rfl (by kernel_rfl) (by kernel_rfl) (by kernel_rfl) (fun _ _ _ h => h) (Or.inl ⟨by rfl, ?_⟩) hS ?_
  · intro W hW; skip; go_simp
  refine wpAnyH_take (i := 6) (v := .pointer (some ⟨r, 0, none⟩)) rfl (by kernel_rfl) (by kernel_rfl) (by kernel_rfl) (fun _ _ _ h => h) (Or.inl ⟨by rfl, ?_⟩) hS ?_
  · intro W hW; skip; go_simp
  refine wpAnyH_take (i := 7) (v := .slice pu n cu) rfl (by kernel_rfl) (by kernel_rfl) (by kernel_rfl) (fun _ _ _ h => h) (Or.inl ⟨by rfl, ?_⟩) hS ?_
  · intro W hW; have hrb := (HB.out.1.up hW).rbox.bx; rw [HB.out.2.2.2] at hrb; have e0 := hrb.c0; have e1 := hrb.c1; go_simp
  refine wpAnyH_take (i := 8) (v := .int .i64 n) rfl (by kernel_rfl) (by kernel_rfl) (by kernel_rfl) (fun _ _ _ h => h) (Or.inl ⟨by rfl, ?_⟩) hS ?_
  · intro W hW; skip; go_simp
  simp only [Act.put, List.getElem_toArray, List.getElem_cons_succ, List.getElem_cons_zero, List.setIfInBounds_toArray, List.set_cons_succ, List.set_cons_zero]
  refine wpAnyH_ready (rs := [3]) (by kernel_rfl) (by simp) (AllReadyH.cons rfl (fun K hK => ?_) AllReadyH.nil)
  go_simp
  refine (len_V _ b v L k n HB.out.2.2.2 (HB.out.1.up hS).box).mono ?_
  rintro en w8 ⟨rfl, hw8⟩
  rw [hw8]
  clear hw8 w8
  refine hK.out _ _ hS (fun _ => ?_)
  clear hK K
  refine wpAnyH_take (i := 9) (v := .bool true) rfl (by kernel_rfl) (by kernel_rfl) (by kernel_rfl) (fun _ _ _ h => h) (Or.inl ⟨by rfl, ?_⟩) hS ?_
  · intro W hW; skip; go_simp
  refine wpAnyH_take (i := 10) (v := .bool true) rfl (by kernel_rfl) (by kernel_rfl) (by kernel_rfl) (fun _ _ _ h => h) (Or.inl ⟨by rfl, ?_⟩) hS ?_
  · intro W hW; skip; go_simp
  refine wpAnyH_take (i := 11) (v := .bool true) rfl (by kernel_rfl) (by kernel_rfl) (by kernel_rfl) (fun _ _ _ h => h) (Or.inl ⟨by rfl, ?_⟩) hS ?_
  · intro W hW; skip; go_simp
  simp only [Act.put, List.getElem_toArray, List.getElem_cons_succ, List.getElem_cons_zero, List.setIfInBounds_toArray, List.set_cons_succ, List.set_cons_zero]
  refine wpAnyH_take (i := 12) (v := .pointer (some ⟨b, 0, none⟩)) rfl (by kernel_rfl) (by kernel_rfl) (by kernel_rfl) (fun _ _ _ h => h) (Or.inl ⟨by rfl, ?_⟩) hS ?_
  · intro W hW; skip; go_simp
  refine wpAnyH_take (i := 14) (v := .pointer (some ⟨r, 0, none⟩)) rfl (by kernel_rfl) (by kernel_rfl) (by kernel_rfl) (fun _ _ _ h => h) (Or.inl ⟨by rfl, ?_⟩) hS ?_
  · intro W hW; skip; go_simp
  refine wpAnyH_take (i := 15) (v := .pointer (some ⟨r, 0, none⟩)) rfl (by kernel_rfl) (by kernel_rfl) (by kernel_rfl) (fun _ _ _ h => h) (Or.inl ⟨by rfl, ?_⟩) hS ?_
  · intro W hW; skip; go_simp
  refine wpAnyH_take (i := 16) (v := .pointer (some ⟨r, 0, none⟩)) rfl (by kernel_rfl) (by kernel_rfl) (by kernel_rfl) (fun _ _ _ h => h) (Or.inl ⟨by rfl, ?_⟩) hS ?_
  · intro W hW; skip; go_simp
  refine wpAnyH_take (i := 17) (v := .slice pu n cu) rfl (by kernel_rfl) (by kernel_rfl) (by kernel_rfl) (fun _ _ _ h => h) (Or.inl ⟨by rfl, ?_⟩) hS ?_
  · intro W hW; have hrb := (HB.out.1.up hW).rbox.bx; rw [HB.out.2.2.2] at hrb; have e0 := hrb.c0; have e1 := hrb.c1; go_simp
  simp only [Act.put, List.getElem_toArray, List.getElem_cons_succ, List.getElem_cons_zero, List.setIfInBounds_toArray, List.set_cons_succ, List.set_cons_zero]
  refine wpAnyH_ready (rs := [13]) (by kernel_rfl) (by simp) (AllReadyH.cons rfl (fun K hK => ?_) AllReadyH.nil)
  go_simp
  refine (all_R _ b v L k HB.out.2.2.1 HB.out.2.1 (HB.out.1.up hS).box).mono ?_
  rintro en w8 ⟨a8, cp8, rfl, hr8, hu8⟩
  have hS8 : Upd [] w w8 := hS.trans hu8
  refine hK.out _ _ hS8 (fun _ => ?_)
  clear hK K hS hu8
  have hru : RowR w8 (.slice pu L.length cu) L := ⟨(HB.out.1.up hS8).rbox.row, (HB.out.1.up hS8).rbox.has⟩
  have hsm := sameT_fl w8 _ _ L HB.out.2.2.1 HB.out.2.1 hr8 hru
  rw [HB.out.2.2.2] at hsm ⊢
  have HSM : Hid (Unit → _) := fun () => hsm
  clear hsm hru hr8
  refine wpAnyH_ready (rs := [18]) (by kernel_rfl) (by simp) (AllReadyH.cons rfl (fun K hK => ?_) AllReadyH.nil)
  go_simp
  refine (HSM.out ()).mono ?_
  rintro en w9 ⟨rfl, hu9⟩
  have hS9 : Upd [] w w9 := hS8.trans hu9
  refine hK.out _ _ hS9 (fun _ => ?_)
  clear hK K hu9 hS8 HSM
  refine wpAnyH_take (i := 19) (v := .bool true) rfl (by kernel_rfl) (by kernel_rfl) (by kernel_rfl) (fun _ _ _ h => h) (Or.inl ⟨by rfl, ?_⟩) hS9 ?_
  · intro W hW; skip; go_simp
  refine wpAnyH_take (i := 20) (v := .bool true) rfl (by kernel_rfl) (by kernel_rfl) (by kernel_rfl) (fun _ _ _ h => h) (Or.inl ⟨by rfl, ?_⟩) hS9 ?_
  · intro W hW; skip; go_simp
  simp only [Act.put, List.getElem_toArray, List.getElem_cons_succ, List.getElem_cons_zero, List.setIfInBounds_toArray, List.set_cons_succ, List.set_cons_zero]
  refine wpAnyH_done (by kernel_rfl) ?_ _
  have H9 : Hid (Upd [] w w9) := hS9
  clear hS9
  go_wp2_with fail
  go_ret
  exact ⟨rfl, H9.out⟩

end Go.Proofs.Ytmdkhkeljpdbiaa
