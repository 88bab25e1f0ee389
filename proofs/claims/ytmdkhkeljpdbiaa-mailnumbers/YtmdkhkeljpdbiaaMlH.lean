/- Next. -/
import Derived.Test.YtmdkhkeljpdbiaaMlG
import Derived.Deep.MidRow
namespace Go.Proofs.Ytmdkhkeljpdbiaa
open Go.RowKit

theorem Hs.range {w : World} {g l c p i : Nat} {C : Nat → List Value} (h : Hs w 7 (.slice (some ⟨g, 0, none⟩) l c) p C) (hi : i < p) (hc : (C i).length = 7) : w.rangeAt g (i * 7) (C i) := by
  intro j v hj
  have hlt := (List.getElem?_eq_some_iff.1 hj).1
  rw [h g l c rfl i j hi (by omega)]
  exact hj
theorem range_upd {S : List Nat} {w w' : World} {g o : Nat} {cs : List Value} (h : w.rangeAt g o cs) (hg : g < w.heap.size) (hu : Upd S w w') (hn : g ∉ S) : w'.rangeAt g o cs := fun j v hj => by
  rw [hu.cell (p := ⟨g, o + j, none⟩) hg hn]; exact h j v hj

set_option maxHeartbeats 1000000 in
set_option maxRecDepth 100000 in
theorem next_no (w : World) (x : Value) (hm : ∀ w1, Upd [] w w1 → Calls Try.prog 23 #[x] w1 fun e w' => e = .returned (.bool false) ∧ w' = w1) : Calls Try.prog 8 #[x] w fun e w' => e = .returned (.tuple #[(.agg #[.int .u8 0, .bool false, .slice none 0 0, .string ⟨#[]⟩, .int .i64 0, .slice none 0 0, .slice none 0 0]), .bool false]) ∧ Upd [] w w' := by
  have hm : Hid (Unit → _) := fun () => hm
  have U1 : Hid (Upd [] w (w.alloc (.cells #[.int .u8 0, .bool false, .slice none 0 0, .string ⟨#[]⟩, .int .i64 0, .slice none 0 0, .slice none 0 0] 26))) := (Upd.refl [] w).alloc _
  have TZ : Hid (Tb (w.alloc (.cells #[.int .u8 0, .bool false, .slice none 0 0, .string ⟨#[]⟩, .int .i64 0, .slice none 0 0, .slice none 0 0] 26)) w.heap.size #[.int .u8 0, .bool false, .slice none 0 0, .string ⟨#[]⟩, .int .i64 0, .slice none 0 0, .slice none 0 0]) := Tb.new _ _ _ rfl
  go_enter Try.func8, Try.ntmps8
  go_wp2_with fail
  refine Calls.mono (hm.out () _ U1.out) ?_
  rintro e w1 ⟨rfl, hw1⟩
  rw [hw1]
  clear hw1
  go_wp2_with (first | (refine store_T _ rfl _ _ rfl _ _ _ rfl rfl TZ.out rfl rfl (fl_one 0 false ⟨#[]⟩ 0) ?_; intro w3 hT3 hU3) | fail)
  exact ret_Tb rfl rfl _ _ _ rfl hT3 rfl rfl ⟨rfl, U1.out.then hU3 (by simp)⟩

set_option maxHeartbeats 1000000 in
set_option maxRecDepth 100000 in
theorem next_end (w : World) (b : Nat) (p : Option Addr) (n c : Nat) (k : Int) (hq : (k == (n : Int)) = true) (h : Bx w b (.slice p n c) k) : Calls Try.prog 8 #[.pointer (some ⟨b, 0, none⟩)] w fun e w' => e = .returned (.tuple #[(.agg #[.int .u8 0, .bool false, .slice none 0 0, .string ⟨#[]⟩, .int .i64 0, .slice none 0 0, .slice none 0 0]), .bool false]) ∧ Upd [] w w' := by
  have U1 : Hid (Upd [] w (w.alloc (.cells #[.int .u8 0, .bool false, .slice none 0 0, .string ⟨#[]⟩, .int .i64 0, .slice none 0 0, .slice none 0 0] 26))) := (Upd.refl [] w).alloc _
  have TZ : Hid (Tb (w.alloc (.cells #[.int .u8 0, .bool false, .slice none 0 0, .string ⟨#[]⟩, .int .i64 0, .slice none 0 0, .slice none 0 0] 26)) w.heap.size #[.int .u8 0, .bool false, .slice none 0 0, .string ⟨#[]⟩, .int .i64 0, .slice none 0 0, .slice none 0 0]) := Tb.new _ _ _ rfl
  have HB : Hid (Bx w b (.slice p n c) k) := h
  clear h
  go_enter Try.func8, Try.ntmps8
  go_wp2_with fail
  refine Calls.mono (made_ok _ b _ k (HB.out.mono U1.out (by simp))) ?_
  rintro e w1 ⟨rfl, hw1⟩
  rw [hw1]
  clear hw1
  go_wp2_with fail
  refine Calls.mono (ended_in _ b p n c k true hq (HB.out.mono U1.out (by simp))) ?_
  rintro e w2 ⟨rfl, hu⟩
  have T2 : Hid (Tb w2 w.heap.size #[.int .u8 0, .bool false, .slice none 0 0, .string ⟨#[]⟩, .int .i64 0, .slice none 0 0, .slice none 0 0]) := TZ.out.mono hu (by simp)
  have U2 : Hid (Upd [] w w2) := U1.out.trans hu
  clear hu U1 TZ
  go_wp2_with (first | (refine store_T _ rfl _ _ rfl _ _ _ rfl rfl T2.out rfl rfl (fl_one 0 false ⟨#[]⟩ 0) ?_; intro w3 hT3 hU3) | fail)
  exact ret_Tb rfl rfl _ _ _ rfl hT3 rfl rfl ⟨rfl, U2.out.then hU3 (by simp)⟩

set_option maxHeartbeats 1000000 in
set_option maxRecDepth 100000 in
theorem next_on (w : World) (b g n c k : Nat) (kk nn : Int) (bb : Bool) (ss : ByteArray) (hk : k < n) (_hn : n ≤ 2000) (h : Bx w b (.slice (some ⟨g, 0, none⟩) n c) k) (hgl : g < w.heap.size) (hr : w.rangeAt g (k * 7) (fl kk bb ss nn).toList) :
    Calls Try.prog 8 #[.pointer (some ⟨b, 0, none⟩)] w fun e w' => e = .returned (.tuple #[.agg (fl kk bb ss nn), .bool true]) ∧ Upd [] w w' := by
  obtain ⟨fs, hdesc⟩ := term_desc
  have hq : ((k : Int) == (n : Int)) = false := beq_eq_false_iff_ne.2 (by omega)
  have U1 : Hid (Upd [] w (w.alloc (.cells #[.int .u8 0, .bool false, .slice none 0 0, .string ⟨#[]⟩, .int .i64 0, .slice none 0 0, .slice none 0 0] 26))) := (Upd.refl [] w).alloc _
  have TZ : Hid (Tb (w.alloc (.cells #[.int .u8 0, .bool false, .slice none 0 0, .string ⟨#[]⟩, .int .i64 0, .slice none 0 0, .slice none 0 0] 26)) w.heap.size #[.int .u8 0, .bool false, .slice none 0 0, .string ⟨#[]⟩, .int .i64 0, .slice none 0 0, .slice none 0 0]) := Tb.new _ _ _ rfl
  have HB : Hid (Bx w b (.slice (some ⟨g, 0, none⟩) n c) k ∧ g < w.heap.size ∧ w.rangeAt g (k * 7) (fl kk bb ss nn).toList) := ⟨h, hgl, hr⟩
  clear h hgl hr
  go_enter Try.func8, Try.ntmps8
  go_wp2_with fail
  refine Calls.mono (made_ok _ b _ k (HB.out.1.mono U1.out (by simp))) ?_
  rintro e w1 ⟨rfl, hw1⟩
  rw [hw1]
  clear hw1
  go_wp2_with fail
  refine Calls.mono (ended_in _ b _ n c k false hq (HB.out.1.mono U1.out (by simp))) ?_
  rintro e w2 ⟨rfl, hu⟩
  have T2 : Hid (Tb w2 w.heap.size #[.int .u8 0, .bool false, .slice none 0 0, .string ⟨#[]⟩, .int .i64 0, .slice none 0 0, .slice none 0 0]) := TZ.out.mono hu (by simp)
  have U2 : Hid (Upd [] w w2) := U1.out.trans hu
  clear hu U1 TZ
  go_wp2_with fail
  have hS0 : (fun W => Bx W b (.slice (some ⟨g, 0, none⟩) n c) k ∧ W.rangeAt g (k * 7) (fl kk bb ss nn).toList ∧ ∃ cs : Array Value, Tb W w.heap.size cs ∧ cs.size = 7) w2.drew := ⟨HB.out.1.mono U2.out.drew (by simp), range_upd HB.out.2.2 HB.out.2.1 U2.out.drew (by simp), ⟨_, T2.out.mono (Upd.refl [] w2).drew (by simp), rfl⟩⟩
  refine wp_region_held_drew (S := fun W => Bx W b (.slice (some ⟨g, 0, none⟩) n c) k ∧ W.rangeAt g (k * 7) (fl kk bb ss nn).toList ∧ ∃ cs : Array Value, Tb W w.heap.size cs ∧ cs.size = 7) (by kernel_rfl) hS0 (fun hS => ?_)
  obtain ⟨w3, hwd⟩ : ∃ v, v = w2.drew := ⟨_, rfl⟩
  rw [← hwd] at hS ⊢
  have U3 : Hid (Upd [] w w3) := by rw [hwd]; exact U2.out.drew
  clear hwd
  clear U2 T2 hS0
  refine wpAnyH_take (i := 0) (v := .pointer (some ⟨b, 0, none⟩)) rfl (by kernel_rfl) (by kernel_rfl) (by kernel_rfl) (fun _ _ _ h => h) (Or.inl ⟨by rfl, ?_⟩) hS ?_
  · intro W hW; have e0 := hW.1.c1; have e1 := hW.1.c2; go_simp
  refine wpAnyH_take (i := 1) (v := .pointer (some ⟨b, 0, none⟩)) rfl (by kernel_rfl) (by kernel_rfl) (by kernel_rfl) (fun _ _ _ h => h) (Or.inl ⟨by rfl, ?_⟩) hS ?_
  · intro W hW; have e0 := hW.1.c1; have e1 := hW.1.c2; go_simp
  refine wpAnyH_take (i := 2) (v := .pointer (some ⟨b, 1, none⟩)) rfl (by kernel_rfl) (by kernel_rfl) (by kernel_rfl) (fun _ _ _ h => h) (Or.inl ⟨by rfl, ?_⟩) hS ?_
  · intro W hW; have e0 := hW.1.c1; have e1 := hW.1.c2; go_simp
  refine wpAnyH_take (i := 3) (v := .slice (some ⟨g, 0, none⟩) n c) rfl (by kernel_rfl) (by kernel_rfl) (by kernel_rfl) (fun _ _ _ h => h) (Or.inl ⟨by rfl, ?_⟩) hS ?_
  · intro W hW; have e0 := hW.1.c1; have e1 := hW.1.c2; go_simp
  refine wpAnyH_take (i := 4) (v := .pointer (some ⟨b, 0, none⟩)) rfl (by kernel_rfl) (by kernel_rfl) (by kernel_rfl) (fun _ _ _ h => h) (Or.inl ⟨by rfl, ?_⟩) hS ?_
  · intro W hW; have e0 := hW.1.c1; have e1 := hW.1.c2; go_simp
  refine wpAnyH_take (i := 5) (v := .pointer (some ⟨b, 0, none⟩)) rfl (by kernel_rfl) (by kernel_rfl) (by kernel_rfl) (fun _ _ _ h => h) (Or.inl ⟨by rfl, ?_⟩) hS ?_
  · intro W hW; have e0 := hW.1.c1; have e1 := hW.1.c2; go_simp
  refine wpAnyH_take (i := 6) (v := .pointer (some ⟨b, 2, none⟩)) rfl (by kernel_rfl) (by kernel_rfl) (by kernel_rfl) (fun _ _ _ h => h) (Or.inl ⟨by rfl, ?_⟩) hS ?_
  · intro W hW; have e0 := hW.1.c1; have e1 := hW.1.c2; go_simp
  refine wpAnyH_take (i := 7) (v := .int .i64 k) rfl (by kernel_rfl) (by kernel_rfl) (by kernel_rfl) (fun _ _ _ h => h) (Or.inl ⟨by rfl, ?_⟩) hS ?_
  · intro W hW; have e0 := hW.1.c1; have e1 := hW.1.c2; go_simp
  refine wpAnyH_take (i := 8) (v := .pointer (some ⟨g, k * 7, none⟩)) rfl (by kernel_rfl) (by kernel_rfl) (by kernel_rfl) (fun _ _ _ h => h) (Or.inl ⟨by rfl, ?_⟩) hS ?_
  · intro W hW; have e0 := hW.1.c1; have e1 := hW.1.c2; have hk0 : (0 : Int) ≤ k := (by omega); go_simp
  simp only [Act.put, List.getElem_toArray, List.getElem_cons_succ, List.getElem_cons_zero, List.setIfInBounds_toArray, List.set_cons_succ, List.set_cons_zero]
  refine wpAnyH_take (i := 9) (v := .agg (fl kk bb ss nn)) rfl (by kernel_rfl) (by kernel_rfl) (by kernel_rfl) (fun _ _ _ h => h) (yieldsIf_load_mid rfl 26 (.tmp 20) rfl g (k * 7) rfl (fl kk bb ss nn).toList _ (fun W hW => hW.2.1) hdesc rfl (by rw [info_term]; rfl)) hS ?_
  simp only [Act.put, List.getElem_toArray, List.getElem_cons_succ, List.getElem_cons_zero, List.setIfInBounds_toArray, List.set_cons_succ, List.set_cons_zero]
  refine wpAnyH_ready (rs := [10]) (by kernel_rfl) (by simp) (AllReadyH.cons rfl (fun K hK => ?_) AllReadyH.nil)
  go_simp
  refine (copied_fl _ 65536 kk nn bb ss).mono ?_
  rintro en w4 ⟨rfl, hU4⟩
  have hS1 : (fun W => Bx W b (.slice (some ⟨g, 0, none⟩) n c) k ∧ W.rangeAt g (k * 7) (fl kk bb ss nn).toList ∧ ∃ cs : Array Value, Tb W w.heap.size cs ∧ cs.size = 7) w4 := ⟨hS.1.mono hU4 (by simp), range_upd hS.2.1 (Nat.lt_of_lt_of_le HB.out.2.1 U3.out.size) hU4 (by simp), hS.2.2.elim fun cs hcs => ⟨cs, hcs.1.mono hU4 (by simp), hcs.2⟩⟩
  have U4 : Hid (Upd [] w w4) := U3.out.trans hU4
  refine hK.out _ _ hS1 (fun _ => ?_)
  clear hK K hU4 hS U3
  obtain ⟨cs, hT4, hcs⟩ := hS1.2.2
  refine wpAnyH_ready (rs := [11]) (by kernel_rfl) (by simp) (AllReadyH.cons rfl (fun K hK => ?_) AllReadyH.nil)
  rw [if_pos (by rfl)]
  refine wp_store_row 26 (.tmp 2) (.tmp 22) rfl w.heap.size (fl kk bb ss nn) rfl rfl 26 cs hT4 (by rw [info_term]; rfl) hcs (fl_one kk bb ss nn) ?_
  have hT5 := setRow_tb hT4 (fl kk bb ss nn)
  have hU5 := setRow_upd w4 w.heap.size (fl kk bb ss nn)
  have hgb : b ≠ w.heap.size := by have := HB.out.1.lt; omega
  have hgg : g ≠ w.heap.size := by have := HB.out.2.1; omega
  have hS2 : (fun W => Bx W b (.slice (some ⟨g, 0, none⟩) n c) k ∧ W.rangeAt g (k * 7) (fl kk bb ss nn).toList ∧ ∃ cs : Array Value, Tb W w.heap.size cs ∧ cs.size = 7) (w4.setRow w.heap.size (fl kk bb ss nn)) := ⟨hS1.1.mono hU5 (by simpa using hgb), range_upd hS1.2.1 (Nat.lt_of_lt_of_le HB.out.2.1 U4.out.size) hU5 (by simpa using hgg), ⟨_, hT5, rfl⟩⟩
  have U5 : Hid (Upd [] w (w4.setRow w.heap.size (fl kk bb ss nn))) := U4.out.then hU5 (by simp)
  have HT5 : Hid (Tb (w4.setRow w.heap.size (fl kk bb ss nn)) w.heap.size (fl kk bb ss nn)) := hT5
  refine hK.out _ _ hS2 (fun _ => ?_)
  clear hK K hT5 hU5 hS1 hT4 U4
  refine wpAnyH_take (i := 12) (v := .bool true) rfl (by kernel_rfl) (by kernel_rfl) (by kernel_rfl) (fun _ _ _ h => h) (Or.inl ⟨by rfl, ?_⟩) hS2 ?_
  · intro W hW; skip; go_simp
  simp only [Act.put, List.getElem_toArray, List.getElem_cons_succ, List.getElem_cons_zero, List.setIfInBounds_toArray, List.set_cons_succ, List.set_cons_zero]
  refine wpAnyH_done (by kernel_rfl) ?_ _
  go_wp2_with fail
  exact ret_Tb rfl rfl _ _ _ rfl HT5.out rfl rfl ⟨rfl, U5.out⟩

end Go.Proofs.Ytmdkhkeljpdbiaa
