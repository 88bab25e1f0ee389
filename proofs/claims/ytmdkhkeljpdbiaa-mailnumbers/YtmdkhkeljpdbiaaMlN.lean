/- Take. -/
import Derived.Test.YtmdkhkeljpdbiaaMlM
namespace Go.Proofs.Ytmdkhkeljpdbiaa
open Go.RowKit

theorem Tb.updB {w w' : World} {x b : Nat} {v v' : Value} {cs : Array Value} (h : Tb w x cs) (hu : UpdB b v w w' v') (hb : x ≠ b) (hv : v.ownBlock ≠ some x) : Tb w' x cs := (hu.block x h.lt hb hv).trans h
theorem BoxV.set2 {w : World} {b : Nat} {v : Value} {L : List (List Value)} {k : Nat} (h : BoxV w b v L k) : BoxV (w.setCell ⟨b, 2, none⟩ (.int .i64 0)) b v L 0 := by
  have hu : Upd [b] w (w.setCell ⟨b, 2, none⟩ (.int .i64 0)) := (Upd.refl [b] w).setCell (Or.inr (by simp)) _
  have hn : ∀ g, v.ownBlock = some g → g ∉ [b] := fun g hg hm => h.far (by rw [hg]; simp at hm; rw [hm])
  exact ⟨h.bx.set2 0, h.row.upd hu hn, h.has.upd h.row hu hn, h.far⟩

set_option maxHeartbeats 1000000 in
set_option maxRecDepth 100000 in
theorem take_no (w : World) (x : Value) (hm : ∀ w1, Upd [] w w1 → Calls Try.prog 23 #[x] w1 fun e w' => e = .returned (.bool false) ∧ w' = w1) : Calls Try.prog 9 #[x] w fun e w' => e = .returned (.tuple #[(.agg #[.int .u8 0, .bool false, .slice none 0 0, .string ⟨#[]⟩, .int .i64 0, .slice none 0 0, .slice none 0 0]), .int .i64 1]) ∧ Upd [] w w' := by
  have hm : Hid (Unit → _) := fun () => hm
  have U1 : Hid (Upd [] w (w.alloc (.cells #[.int .u8 0, .bool false, .slice none 0 0, .string ⟨#[]⟩, .int .i64 0, .slice none 0 0, .slice none 0 0] 26))) := (Upd.refl [] w).alloc _
  have TZ : Hid (Tb (w.alloc (.cells #[.int .u8 0, .bool false, .slice none 0 0, .string ⟨#[]⟩, .int .i64 0, .slice none 0 0, .slice none 0 0] 26)) w.heap.size #[.int .u8 0, .bool false, .slice none 0 0, .string ⟨#[]⟩, .int .i64 0, .slice none 0 0, .slice none 0 0]) := Tb.new _ _ _ rfl
  go_enter Try.func9, Try.ntmps9
  go_wp2_with fail
  refine Calls.mono (hm.out () _ U1.out) ?_
  rintro e w1 ⟨rfl, hw1⟩
  rw [hw1]
  clear hw1
  go_wp2_with (first | (refine store_T _ rfl _ _ rfl _ _ _ rfl rfl TZ.out rfl rfl (fl_one 0 false ⟨#[]⟩ 0) ?_; intro w3 hT3 hU3) | fail)
  exact ret_Tb rfl rfl _ _ _ rfl hT3 rfl rfl ⟨rfl, U1.out.then hU3 (by simp)⟩

set_option maxHeartbeats 1000000 in
set_option maxRecDepth 100000 in
theorem take_end (w : World) (b : Nat) (p : Option Addr) (n c : Nat) (k : Int) (hq : (k == (n : Int)) = true) (h : Bx w b (.slice p n c) k) : Calls Try.prog 9 #[.pointer (some ⟨b, 0, none⟩)] w fun e w' => e = .returned (.tuple #[(.agg #[.int .u8 0, .bool false, .slice none 0 0, .string ⟨#[]⟩, .int .i64 0, .slice none 0 0, .slice none 0 0]), .int .i64 6]) ∧ Upd [] w w' := by
  have U1 : Hid (Upd [] w (w.alloc (.cells #[.int .u8 0, .bool false, .slice none 0 0, .string ⟨#[]⟩, .int .i64 0, .slice none 0 0, .slice none 0 0] 26))) := (Upd.refl [] w).alloc _
  have TZ : Hid (Tb (w.alloc (.cells #[.int .u8 0, .bool false, .slice none 0 0, .string ⟨#[]⟩, .int .i64 0, .slice none 0 0, .slice none 0 0] 26)) w.heap.size #[.int .u8 0, .bool false, .slice none 0 0, .string ⟨#[]⟩, .int .i64 0, .slice none 0 0, .slice none 0 0]) := Tb.new _ _ _ rfl
  have HB : Hid (Bx w b (.slice p n c) k) := h
  clear h
  go_enter Try.func9, Try.ntmps9
  go_wp2_with fail
  refine Calls.mono (made_ok _ b _ k (HB.out.mono U1.out (by simp))) ?_
  rintro e w1 ⟨rfl, hw1⟩
  rw [hw1]
  clear hw1
  go_wp2_with fail
  refine Calls.mono (ended_in _ b p n c k true hq (HB.out.mono U1.out (by simp))) ?_
  rintro e w2 ⟨rfl, hu⟩
  have T2 : Hid (Tb w2 w.heap.size #[.int .u8 0, .bool false, .slice none 0 0, .string ⟨#[]⟩, .int .i64 0, .slice none 0 0, .slice none 0 0]) := TZ.out.mono hu (by simp)
  have U2 : Hid (Upd [] w w2) := U1.out.trans hu
  clear hu U1 TZ
  go_wp2_with (first | (refine store_T _ rfl _ _ rfl _ _ _ rfl rfl T2.out rfl rfl (fl_one 0 false ⟨#[]⟩ 0) ?_; intro w3 hT3 hU3) | fail)
  exact ret_Tb rfl rfl _ _ _ rfl hT3 rfl rfl ⟨rfl, U2.out.then hU3 (by simp)⟩

set_option maxHeartbeats 2000000 in
set_option maxRecDepth 100000 in
theorem take_on (w : World) (b : Nat) (v : Value) (L : List (List Value)) (k : Nat) (kk nn : Int) (bb : Bool) (ss : ByteArray) (hk : k < L.length) (hn : L.length ≤ 2000) (hs : Sev L) (h : BoxV w b v L k) (hc : L.getD k [] = (fl kk bb ss nn).toList) :
    Calls Try.prog 9 #[.pointer (some ⟨b, 0, none⟩)] w fun e w' => e = .returned (.tuple #[.agg (fl kk bb ss nn), .int .i64 0]) ∧ ∃ v', BoxV w' b v' (L.eraseIdx k) 0 ∧ UpdB b v w w' v' := by
  obtain ⟨m, hm⟩ : ∃ m, L.length = m + 1 := ⟨L.length - 1, by omega⟩
  rcases h.row with ⟨_, h2⟩ | ⟨g, cap, rfl, hgl, hc1, hc2, _⟩
  · omega
  obtain ⟨fs, hdesc⟩ := term_desc
  have hr : w.rangeAt g (k * 7) (fl kk bb ss nn).toList := by
    have := h.has.range (i := k) hk (by rw [hc]; rfl)
    rw [hc] at this
    exact this
  rw [hm] at hk hn h
  have hq : ((k : Int) == ((m + 1 : Nat) : Int)) = false := beq_eq_false_iff_ne.2 (by omega)
  have hgb : g ≠ b := by simpa [Value.ownBlock] using h.far
  have U1 : Hid (Upd [] w (w.alloc (.cells #[.int .u8 0, .bool false, .slice none 0 0, .string ⟨#[]⟩, .int .i64 0, .slice none 0 0, .slice none 0 0] 26))) := (Upd.refl [] w).alloc _
  have TZ : Hid (Tb (w.alloc (.cells #[.int .u8 0, .bool false, .slice none 0 0, .string ⟨#[]⟩, .int .i64 0, .slice none 0 0, .slice none 0 0] 26)) w.heap.size #[.int .u8 0, .bool false, .slice none 0 0, .string ⟨#[]⟩, .int .i64 0, .slice none 0 0, .slice none 0 0]) := Tb.new _ _ _ rfl
  have HB : Hid (BoxV w b (.slice (some ⟨g, 0, none⟩) (m + 1) cap) L k ∧ g < w.heap.size ∧ w.rangeAt g (k * 7) (fl kk bb ss nn).toList ∧ Sev L ∧ L.length = m + 1 ∧ b < w.heap.size) := ⟨h, hgl, hr, hs, hm, h.lt⟩
  rw [hm]
  clear h hgl hr hs hm hc hc1 hc2
  go_enter Try.func9, Try.ntmps9
  go_wp2_with fail
  refine Calls.mono (made_ok _ b _ k (HB.out.1.up U1.out).bx) ?_
  rintro e w1 ⟨rfl, hw1⟩
  rw [hw1]
  clear hw1
  go_wp2_with fail
  refine Calls.mono (ended_in _ b _ (m + 1) cap k false hq (HB.out.1.up U1.out).bx) ?_
  rintro e w2 ⟨rfl, hu⟩
  have T2 : Hid (Tb w2 w.heap.size #[.int .u8 0, .bool false, .slice none 0 0, .string ⟨#[]⟩, .int .i64 0, .slice none 0 0, .slice none 0 0]) := TZ.out.mono hu (by simp)
  have U2 : Hid (Upd [] w w2) := U1.out.trans hu
  clear hu U1 TZ
  go_wp2_with fail
  have hS0 : (fun W => Upd [] w W ∧ Tb W w.heap.size #[.int .u8 0, .bool false, .slice none 0 0, .string ⟨#[]⟩, .int .i64 0, .slice none 0 0, .slice none 0 0]) w2.drew := ⟨U2.out.drew, T2.out.mono (Upd.refl [] w2).drew (by simp)⟩
  refine wp_region_held_drew (S := fun W => Upd [] w W ∧ Tb W w.heap.size #[.int .u8 0, .bool false, .slice none 0 0, .string ⟨#[]⟩, .int .i64 0, .slice none 0 0, .slice none 0 0]) (by kernel_rfl) hS0 (fun hS => ?_)
  generalize World.drew _ = w3 at hS ⊢
  clear hS0 U2 T2
  refine wpAnyH_take (i := 0) (v := .pointer (some ⟨b, 0, none⟩)) rfl (by kernel_rfl) (by kernel_rfl) (by kernel_rfl) (fun _ _ _ h => h) (Or.inl ⟨by rfl, ?_⟩) hS ?_
  · intro W hW; have e0 := (HB.out.1.up hW.1).bx.c1; have e1 := (HB.out.1.up hW.1).bx.c2; go_simp
  refine wpAnyH_take (i := 1) (v := .pointer (some ⟨b, 0, none⟩)) rfl (by kernel_rfl) (by kernel_rfl) (by kernel_rfl) (fun _ _ _ h => h) (Or.inl ⟨by rfl, ?_⟩) hS ?_
  · intro W hW; have e0 := (HB.out.1.up hW.1).bx.c1; have e1 := (HB.out.1.up hW.1).bx.c2; go_simp
  refine wpAnyH_take (i := 2) (v := .pointer (some ⟨b, 1, none⟩)) rfl (by kernel_rfl) (by kernel_rfl) (by kernel_rfl) (fun _ _ _ h => h) (Or.inl ⟨by rfl, ?_⟩) hS ?_
  · intro W hW; have e0 := (HB.out.1.up hW.1).bx.c1; have e1 := (HB.out.1.up hW.1).bx.c2; go_simp
  refine wpAnyH_take (i := 3) (v := .slice (some ⟨g, 0, none⟩) (m + 1) cap) rfl (by kernel_rfl) (by kernel_rfl) (by kernel_rfl) (fun _ _ _ h => h) (Or.inl ⟨by rfl, ?_⟩) hS ?_
  · intro W hW; have e0 := (HB.out.1.up hW.1).bx.c1; have e1 := (HB.out.1.up hW.1).bx.c2; go_simp
  refine wpAnyH_take (i := 4) (v := .pointer (some ⟨b, 0, none⟩)) rfl (by kernel_rfl) (by kernel_rfl) (by kernel_rfl) (fun _ _ _ h => h) (Or.inl ⟨by rfl, ?_⟩) hS ?_
  · intro W hW; have e0 := (HB.out.1.up hW.1).bx.c1; have e1 := (HB.out.1.up hW.1).bx.c2; go_simp
  refine wpAnyH_take (i := 5) (v := .pointer (some ⟨b, 0, none⟩)) rfl (by kernel_rfl) (by kernel_rfl) (by kernel_rfl) (fun _ _ _ h => h) (Or.inl ⟨by rfl, ?_⟩) hS ?_
  · intro W hW; have e0 := (HB.out.1.up hW.1).bx.c1; have e1 := (HB.out.1.up hW.1).bx.c2; go_simp
  refine wpAnyH_take (i := 6) (v := .pointer (some ⟨b, 2, none⟩)) rfl (by kernel_rfl) (by kernel_rfl) (by kernel_rfl) (fun _ _ _ h => h) (Or.inl ⟨by rfl, ?_⟩) hS ?_
  · intro W hW; have e0 := (HB.out.1.up hW.1).bx.c1; have e1 := (HB.out.1.up hW.1).bx.c2; go_simp
  refine wpAnyH_take (i := 7) (v := .int .i64 k) rfl (by kernel_rfl) (by kernel_rfl) (by kernel_rfl) (fun _ _ _ h => h) (Or.inl ⟨by rfl, ?_⟩) hS ?_
  · intro W hW; have e0 := (HB.out.1.up hW.1).bx.c1; have e1 := (HB.out.1.up hW.1).bx.c2; go_simp
  refine wpAnyH_take (i := 8) (v := .pointer (some ⟨g, k * 7, none⟩)) rfl (by kernel_rfl) (by kernel_rfl) (by kernel_rfl) (fun _ _ _ h => h) (Or.inl ⟨by rfl, ?_⟩) hS ?_
  · intro W hW; have e0 := (HB.out.1.up hW.1).bx.c1; have e1 := (HB.out.1.up hW.1).bx.c2; have hk0 : (0 : Int) ≤ k := (by omega); go_simp; intro hx; omega
  simp only [Act.put, List.getElem_toArray, List.getElem_cons_succ, List.getElem_cons_zero, List.setIfInBounds_toArray, List.set_cons_succ, List.set_cons_zero]
  refine wpAnyH_take (i := 9) (v := .agg (fl kk bb ss nn)) rfl (by kernel_rfl) (by kernel_rfl) (by kernel_rfl) (fun _ _ _ h => h) (yieldsIf_load_mid rfl 26 (.tmp 20) rfl g (k * 7) rfl (fl kk bb ss nn).toList _ (fun W hW => range_upd HB.out.2.2.1 HB.out.2.1 hW.1 (by simp)) hdesc rfl (by rw [info_term]; rfl)) hS ?_
  simp only [Act.put, List.getElem_toArray, List.getElem_cons_succ, List.getElem_cons_zero, List.setIfInBounds_toArray, List.set_cons_succ, List.set_cons_zero]
  refine wpAnyH_ready (rs := [10, 11]) (by kernel_rfl) (by simp) (AllReadyH.cons rfl (fun K hK => ?_) (AllReadyH.cons rfl (fun K hK => ?_) AllReadyH.nil))
  · go_simp
    refine (copied_fl _ 65536 kk nn bb ss).mono ?_
    rintro en w4 ⟨rfl, hU⟩
    have hS4 : (fun W => Upd [] w W ∧ Tb W w.heap.size #[.int .u8 0, .bool false, .slice none 0 0, .string ⟨#[]⟩, .int .i64 0, .slice none 0 0, .slice none 0 0]) w4 := ⟨hS.1.trans hU, hS.2.mono hU (by simp)⟩
    refine hK.out _ _ hS4 (fun _ => ?_)
    clear hK K hU
    refine wpAnyH_ready (rs := [11]) (by kernel_rfl) (by simp) (AllReadyH.cons rfl (fun K hK => ?_) AllReadyH.nil)
    go_simp
    obtain ⟨gx, hgx⟩ : ∃ gx, gx = w4.heap.size := ⟨_, rfl⟩
    have hzx : Tb (w4.alloc (.cells #[.int .u8 0, .bool false, .slice none 0 0, .string ⟨#[]⟩, .int .i64 0, .slice none 0 0, .slice none 0 0] 26)) gx #[.int .u8 0, .bool false, .slice none 0 0, .string ⟨#[]⟩, .int .i64 0, .slice none 0 0, .slice none 0 0] := Tb.new _ _ _ hgx
    have hux : Upd [] w4 (w4.alloc (.cells #[.int .u8 0, .bool false, .slice none 0 0, .string ⟨#[]⟩, .int .i64 0, .slice none 0 0, .slice none 0 0] 26)) := (Upd.refl [] w4).alloc _
    have hgw : w.heap.size < gx := by rw [hgx]; exact hS4.2.lt
    rw [← hgx]
    generalize World.alloc w4 _ = w5 at hzx hux ⊢
    have hS5 : (fun W => Upd [] w W ∧ Tb W w.heap.size #[.int .u8 0, .bool false, .slice none 0 0, .string ⟨#[]⟩, .int .i64 0, .slice none 0 0, .slice none 0 0]) w5 := ⟨hS4.1.trans hux, hS4.2.mono hux (by simp)⟩
    refine hK.out _ _ hS5 (fun _ => ?_)
    clear hK K hgx hux
    refine wpAnyH_ready (rs := [12]) (by kernel_rfl) (by simp) (AllReadyH.cons rfl (fun K hK => ?_) AllReadyH.nil)
    rw [if_pos (by rfl)]
    refine wp_store_row 26 (.tmp 4) (.tmp 22) rfl gx (fl kk bb ss nn) rfl rfl 26 _ hzx (by rw [info_term]; rfl) rfl (fl_one kk bb ss nn) ?_
    have hT6 := setRow_tb hzx (fl kk bb ss nn)
    have hU6 := setRow_upd w5 gx (fl kk bb ss nn)
    have hS6 : (fun W => Upd [] w W ∧ Tb W w.heap.size #[.int .u8 0, .bool false, .slice none 0 0, .string ⟨#[]⟩, .int .i64 0, .slice none 0 0, .slice none 0 0]) (w5.setRow gx (fl kk bb ss nn)) := ⟨hS5.1.then hU6 (fun x hx => Or.inl (by simp only [List.mem_singleton] at hx; omega)), hS5.2.mono hU6 (by simp only [List.mem_singleton]; omega)⟩
    generalize World.setRow _ _ _ = w6 at hT6 hU6 hS6 ⊢
    refine hK.out _ _ hS6 (fun _ => ?_)
    clear hK K hU6 hzx
    refine wpAnyH_done (by kernel_rfl) ?_ _
    have HS6 : Hid ((fun W => Upd [] w W ∧ Tb W w.heap.size #[.int .u8 0, .bool false, .slice none 0 0, .string ⟨#[]⟩, .int .i64 0, .slice none 0 0, .slice none 0 0]) w6 ∧ Tb w6 gx (fl kk bb ss nn) ∧ w.heap.size < gx) := ⟨hS6, hT6, hgw⟩
    clear hS6 hT6 hgw hS5
    go_wp2_with fail
    refine Calls.mono (closeUp_in w6 b g cap k m L HB.out.2.2.2.2.1 hk (by omega) HB.out.2.2.2.1 (HB.out.1.up HS6.out.1.1)) ?_
    rintro e w7 ⟨rfl, hB7, hU7⟩
    have c2 := hB7.bx.c2
    have f2 := hB7.bx.f 2
    have hbl := HB.out.2.2.2.2.2
    have hgl := HB.out.2.1
    have t7 : Tb w7 gx (fl kk bb ss nn) := HS6.out.2.1.updB hU7 (by have := HS6.out.2.2; omega) (by simp [Value.ownBlock]; have := HS6.out.2.2; omega)
    have z7 : Tb w7 w.heap.size #[.int .u8 0, .bool false, .slice none 0 0, .string ⟨#[]⟩, .int .i64 0, .slice none 0 0, .slice none 0 0] := HS6.out.1.2.updB hU7 (by omega) (by simp [Value.ownBlock]; omega)
    have hu8 : Upd [b] w7 (w7.setCell ⟨b, 2, none⟩ (.int .i64 0)) := (Upd.refl [b] w7).setCell (Or.inr (by simp)) _
    have hB8 := hB7.set2
    have t8 : Tb (w7.setCell ⟨b, 2, none⟩ (.int .i64 0)) gx (fl kk bb ss nn) := t7.mono hu8 (by simp; have := HS6.out.2.2; omega)
    have z8 : Tb (w7.setCell ⟨b, 2, none⟩ (.int .i64 0)) w.heap.size #[.int .u8 0, .bool false, .slice none 0 0, .string ⟨#[]⟩, .int .i64 0, .slice none 0 0, .slice none 0 0] := z7.mono hu8 (by simp; omega)
    have hUB8 : UpdB b (.slice (some ⟨g, 0, none⟩) (m + 1) cap) w (w7.setCell ⟨b, 2, none⟩ (.int .i64 0)) (.slice (some ⟨g, 0, none⟩) m cap) := (UpdB.of0 HS6.out.1.1).trans (hU7.trans (UpdB.of hu8))
    obtain ⟨w8, hw8⟩ : ∃ w8, w8 = w7.setCell ⟨b, 2, none⟩ (.int .i64 0) := ⟨_, rfl⟩
    rw [← hw8] at hB8 t8 z8 hUB8
    have H8 : Hid (BoxV w8 b (.slice (some ⟨g, 0, none⟩) m cap) (L.eraseIdx k) 0 ∧ UpdB b (.slice (some ⟨g, 0, none⟩) (m + 1) cap) w w8 (.slice (some ⟨g, 0, none⟩) m cap) ∧ Tb w8 gx (fl kk bb ss nn) ∧ Tb w8 w.heap.size #[.int .u8 0, .bool false, .slice none 0 0, .string ⟨#[]⟩, .int .i64 0, .slice none 0 0, .slice none 0 0]) := ⟨hB8, hUB8, t8, z8⟩
    have HW8 : Hid (w8 = w7.setCell ⟨b, 2, none⟩ (.int .i64 0)) := hw8
    clear hB7 hU7 t7 z7 hu8 hB8 t8 z8 hUB8 hw8
    go_wp2_with (first
      | (rw [← HW8.out]; refine load_T _ rfl _ rfl _ _ rfl H8.out.2.2.1 rfl ?_)
      | (refine store_T _ rfl _ _ rfl _ _ _ rfl rfl H8.out.2.2.2 rfl rfl (fl_one kk bb ss nn) ?_; intro w9 hT9 hU9)
      | fail)
    have hbl := HB.out.2.2.2.2.2
    have hgl := HB.out.2.1
    refine ret_Tb rfl rfl _ _ _ rfl hT9 rfl rfl ⟨rfl, _, H8.out.1.upd hU9 (by simp only [List.mem_singleton]; omega) (fun x hx => by simp [Value.ownBlock] at hx; subst hx; simp; omega), ?_⟩
    have h8 := H8.out.2.1
    exact ⟨hU9.os.trans h8.os, hU9.tape.trans h8.tape, hU9.output.trans h8.output, Nat.le_trans h8.size hU9.size, fun i hi hib hiv => (hU9.block i (Nat.lt_of_lt_of_le hi h8.size) (by simp only [List.mem_singleton]; omega)).trans (h8.block i hi hib hiv), h8.own⟩
  · go_simp
    obtain ⟨gx, hgx⟩ : ∃ gx, gx = w3.heap.size := ⟨_, rfl⟩
    have hzx : Tb (w3.alloc (.cells #[.int .u8 0, .bool false, .slice none 0 0, .string ⟨#[]⟩, .int .i64 0, .slice none 0 0, .slice none 0 0] 26)) gx #[.int .u8 0, .bool false, .slice none 0 0, .string ⟨#[]⟩, .int .i64 0, .slice none 0 0, .slice none 0 0] := Tb.new _ _ _ hgx
    have hux : Upd [] w3 (w3.alloc (.cells #[.int .u8 0, .bool false, .slice none 0 0, .string ⟨#[]⟩, .int .i64 0, .slice none 0 0, .slice none 0 0] 26)) := (Upd.refl [] w3).alloc _
    have hgw : w.heap.size < gx := by rw [hgx]; exact hS.2.lt
    rw [← hgx]
    generalize World.alloc w3 _ = w4 at hzx hux ⊢
    have hS4 : (fun W => Upd [] w W ∧ Tb W w.heap.size #[.int .u8 0, .bool false, .slice none 0 0, .string ⟨#[]⟩, .int .i64 0, .slice none 0 0, .slice none 0 0]) w4 := ⟨hS.1.trans hux, hS.2.mono hux (by simp)⟩
    refine hK.out _ _ hS4 (fun _ => ?_)
    clear hK K hgx hux
    refine wpAnyH_ready (rs := [10]) (by kernel_rfl) (by simp) (AllReadyH.cons rfl (fun K hK => ?_) AllReadyH.nil)
    go_simp
    refine (copied_fl _ 65536 kk nn bb ss).mono ?_
    rintro en w5 ⟨rfl, hU⟩
    have hS5 : (fun W => Upd [] w W ∧ Tb W w.heap.size #[.int .u8 0, .bool false, .slice none 0 0, .string ⟨#[]⟩, .int .i64 0, .slice none 0 0, .slice none 0 0]) w5 := ⟨hS4.1.trans hU, hS4.2.mono hU (by simp)⟩
    have hzx := hzx.mono hU (by simp)
    refine hK.out _ _ hS5 (fun _ => ?_)
    clear hK K hU
    refine wpAnyH_ready (rs := [12]) (by kernel_rfl) (by simp) (AllReadyH.cons rfl (fun K hK => ?_) AllReadyH.nil)
    rw [if_pos (by rfl)]
    refine wp_store_row 26 (.tmp 4) (.tmp 22) rfl gx (fl kk bb ss nn) rfl rfl 26 _ hzx (by rw [info_term]; rfl) rfl (fl_one kk bb ss nn) ?_
    have hT6 := setRow_tb hzx (fl kk bb ss nn)
    have hU6 := setRow_upd w5 gx (fl kk bb ss nn)
    have hS6 : (fun W => Upd [] w W ∧ Tb W w.heap.size #[.int .u8 0, .bool false, .slice none 0 0, .string ⟨#[]⟩, .int .i64 0, .slice none 0 0, .slice none 0 0]) (w5.setRow gx (fl kk bb ss nn)) := ⟨hS5.1.then hU6 (fun x hx => Or.inl (by simp only [List.mem_singleton] at hx; omega)), hS5.2.mono hU6 (by simp only [List.mem_singleton]; omega)⟩
    generalize World.setRow _ _ _ = w6 at hT6 hU6 hS6 ⊢
    refine hK.out _ _ hS6 (fun _ => ?_)
    clear hK K hU6 hzx
    refine wpAnyH_done (by kernel_rfl) ?_ _
    have HS6 : Hid ((fun W => Upd [] w W ∧ Tb W w.heap.size #[.int .u8 0, .bool false, .slice none 0 0, .string ⟨#[]⟩, .int .i64 0, .slice none 0 0, .slice none 0 0]) w6 ∧ Tb w6 gx (fl kk bb ss nn) ∧ w.heap.size < gx) := ⟨hS6, hT6, hgw⟩
    clear hS6 hT6 hgw hS5
    go_wp2_with fail
    refine Calls.mono (closeUp_in w6 b g cap k m L HB.out.2.2.2.2.1 hk (by omega) HB.out.2.2.2.1 (HB.out.1.up HS6.out.1.1)) ?_
    rintro e w7 ⟨rfl, hB7, hU7⟩
    have c2 := hB7.bx.c2
    have f2 := hB7.bx.f 2
    have hbl := HB.out.2.2.2.2.2
    have hgl := HB.out.2.1
    have t7 : Tb w7 gx (fl kk bb ss nn) := HS6.out.2.1.updB hU7 (by have := HS6.out.2.2; omega) (by simp [Value.ownBlock]; have := HS6.out.2.2; omega)
    have z7 : Tb w7 w.heap.size #[.int .u8 0, .bool false, .slice none 0 0, .string ⟨#[]⟩, .int .i64 0, .slice none 0 0, .slice none 0 0] := HS6.out.1.2.updB hU7 (by omega) (by simp [Value.ownBlock]; omega)
    have hu8 : Upd [b] w7 (w7.setCell ⟨b, 2, none⟩ (.int .i64 0)) := (Upd.refl [b] w7).setCell (Or.inr (by simp)) _
    have hB8 := hB7.set2
    have t8 : Tb (w7.setCell ⟨b, 2, none⟩ (.int .i64 0)) gx (fl kk bb ss nn) := t7.mono hu8 (by simp; have := HS6.out.2.2; omega)
    have z8 : Tb (w7.setCell ⟨b, 2, none⟩ (.int .i64 0)) w.heap.size #[.int .u8 0, .bool false, .slice none 0 0, .string ⟨#[]⟩, .int .i64 0, .slice none 0 0, .slice none 0 0] := z7.mono hu8 (by simp; omega)
    have hUB8 : UpdB b (.slice (some ⟨g, 0, none⟩) (m + 1) cap) w (w7.setCell ⟨b, 2, none⟩ (.int .i64 0)) (.slice (some ⟨g, 0, none⟩) m cap) := (UpdB.of0 HS6.out.1.1).trans (hU7.trans (UpdB.of hu8))
    obtain ⟨w8, hw8⟩ : ∃ w8, w8 = w7.setCell ⟨b, 2, none⟩ (.int .i64 0) := ⟨_, rfl⟩
    rw [← hw8] at hB8 t8 z8 hUB8
    have H8 : Hid (BoxV w8 b (.slice (some ⟨g, 0, none⟩) m cap) (L.eraseIdx k) 0 ∧ UpdB b (.slice (some ⟨g, 0, none⟩) (m + 1) cap) w w8 (.slice (some ⟨g, 0, none⟩) m cap) ∧ Tb w8 gx (fl kk bb ss nn) ∧ Tb w8 w.heap.size #[.int .u8 0, .bool false, .slice none 0 0, .string ⟨#[]⟩, .int .i64 0, .slice none 0 0, .slice none 0 0]) := ⟨hB8, hUB8, t8, z8⟩
    have HW8 : Hid (w8 = w7.setCell ⟨b, 2, none⟩ (.int .i64 0)) := hw8
    clear hB7 hU7 t7 z7 hu8 hB8 t8 z8 hUB8 hw8
    go_wp2_with (first
      | (rw [← HW8.out]; refine load_T _ rfl _ rfl _ _ rfl H8.out.2.2.1 rfl ?_)
      | (refine store_T _ rfl _ _ rfl _ _ _ rfl rfl H8.out.2.2.2 rfl rfl (fl_one kk bb ss nn) ?_; intro w9 hT9 hU9)
      | fail)
    have hbl := HB.out.2.2.2.2.2
    have hgl := HB.out.2.1
    refine ret_Tb rfl rfl _ _ _ rfl hT9 rfl rfl ⟨rfl, _, H8.out.1.upd hU9 (by simp only [List.mem_singleton]; omega) (fun x hx => by simp [Value.ownBlock] at hx; subst hx; simp; omega), ?_⟩
    have h8 := H8.out.2.1
    exact ⟨hU9.os.trans h8.os, hU9.tape.trans h8.tape, hU9.output.trans h8.output, Nat.le_trans h8.size hU9.size, fun i hi hib hiv => (hU9.block i (Nat.lt_of_lt_of_le hi h8.size) (by simp only [List.mem_singleton]; omega)).trans (h8.block i hi hib hiv), h8.own⟩

end Go.Proofs.Ytmdkhkeljpdbiaa
