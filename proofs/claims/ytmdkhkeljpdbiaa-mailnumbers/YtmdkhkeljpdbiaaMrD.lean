/- The reference's Take. -/
import Derived.Test.YtmdkhkeljpdbiaaMrC
namespace Go.Proofs.Ytmdkhkeljpdbiaa
open Go.RowKit

set_option maxHeartbeats 1000000 in
set_option maxRecDepth 100000 in
theorem rtake_Ve (w : World) (b : Nat) (v : Value) (L : List (List Value)) (k : Nat) (hk : k = L.length) (h : RBoxV w b v L k) : Calls Try.prog 20 #[.pointer (some ⟨b, 0, none⟩)] w fun e w' => e = .returned (.tuple #[(.agg #[.int .u8 0, .bool false, .slice none 0 0, .string ⟨#[]⟩, .int .i64 0, .slice none 0 0, .slice none 0 0]), .int .i64 6]) ∧ Upd [] w w' := by
  have U1 : Hid (Upd [] w (w.alloc (.cells #[.int .u8 0, .bool false, .slice none 0 0, .string ⟨#[]⟩, .int .i64 0, .slice none 0 0, .slice none 0 0] 26))) := (Upd.refl [] w).alloc _
  have TZ : Hid (Tb (w.alloc (.cells #[.int .u8 0, .bool false, .slice none 0 0, .string ⟨#[]⟩, .int .i64 0, .slice none 0 0, .slice none 0 0] 26)) w.heap.size #[.int .u8 0, .bool false, .slice none 0 0, .string ⟨#[]⟩, .int .i64 0, .slice none 0 0, .slice none 0 0]) := Tb.new _ _ _ rfl
  have HB : Hid (RBoxV w b v L k ∧ k = L.length) := ⟨h, hk⟩
  clear h hk
  go_enter Try.func20, Try.ntmps20
  go_wp2_with fail
  refine Calls.mono (rnext_Ve _ b v L k HB.out.2 (HB.out.1.up U1.out)) ?_
  rintro e w2 ⟨rfl, hu⟩
  have T2 : Hid (Tb w2 w.heap.size #[.int .u8 0, .bool false, .slice none 0 0, .string ⟨#[]⟩, .int .i64 0, .slice none 0 0, .slice none 0 0]) := TZ.out.mono hu (by simp)
  have U2 : Hid (Upd [] w w2) := U1.out.trans hu
  have HX : Hid (Tb (w2.alloc (.cells #[.int .u8 0, .bool false, .slice none 0 0, .string ⟨#[]⟩, .int .i64 0, .slice none 0 0, .slice none 0 0] 26)) w2.heap.size #[.int .u8 0, .bool false, .slice none 0 0, .string ⟨#[]⟩, .int .i64 0, .slice none 0 0, .slice none 0 0] ∧ Upd [] w2 (w2.alloc (.cells #[.int .u8 0, .bool false, .slice none 0 0, .string ⟨#[]⟩, .int .i64 0, .slice none 0 0, .slice none 0 0] 26))) := ⟨Tb.new _ _ _ rfl, (Upd.refl [] _).alloc _⟩
  clear hu U1 TZ
  go_wp2_with (first
    | (refine store_T _ rfl _ _ rfl _ _ _ rfl rfl HX.out.1 rfl rfl (fl_one 0 false ⟨#[]⟩ 0) ?_; intro w3 hT3 hU3
       have HT3 : Hid (Tb w3 w2.heap.size #[.int .u8 0, .bool false, .slice none 0 0, .string ⟨#[]⟩, .int .i64 0, .slice none 0 0, .slice none 0 0] ∧ Upd [w2.heap.size] (w2.alloc (.cells #[.int .u8 0, .bool false, .slice none 0 0, .string ⟨#[]⟩, .int .i64 0, .slice none 0 0, .slice none 0 0] 26)) w3 ∧ Tb w3 w.heap.size #[.int .u8 0, .bool false, .slice none 0 0, .string ⟨#[]⟩, .int .i64 0, .slice none 0 0, .slice none 0 0]) := ⟨hT3, hU3, (T2.out.mono HX.out.2 (by simp)).mono hU3 (by simp only [List.mem_singleton]; have := T2.out.lt; omega)⟩
       clear hT3 hU3)
    | (refine load_T _ rfl _ rfl _ _ rfl HT3.out.1 rfl ?_)
    | (refine store_T _ rfl _ _ rfl _ _ _ rfl rfl HT3.out.2.2 rfl rfl (fl_one 0 false ⟨#[]⟩ 0) ?_; intro w4 hT4 hU4)
    | fail)
  exact ret_Tb rfl rfl _ _ _ rfl hT4 rfl rfl ⟨rfl, (((U2.out.trans HX.out.2).then HT3.out.2.1 (fun x hx => Or.inl (by simp only [List.mem_singleton] at hx; have := U2.out.size; omega))).then hU4 (by simp))⟩

set_option maxHeartbeats 2000000 in
set_option maxRecDepth 100000 in
theorem rtake_V (w : World) (b : Nat) (v : Value) (L : List (List Value)) (k : Nat) (kk nn : Int) (bb : Bool) (ss : ByteArray) (hk : k < L.length) (hn : L.length ≤ 1024) (hs : Sev L) (h : RBoxV w b v L k) (hc : L.getD k [] = (fl kk bb ss nn).toList) :
    Calls Try.prog 20 #[.pointer (some ⟨b, 0, none⟩)] w fun e w' => e = .returned (.tuple #[.agg (fl kk bb ss nn), .int .i64 0]) ∧ ∃ v', RBoxV w' b v' (L.eraseIdx k) 0 ∧ UpdB b v w w' v' := by
  rcases h.row with ⟨_, h2⟩ | ⟨g, cap, rfl, hgl, hc1, hc2, _⟩
  · omega
  have hcm : cap ≤ 9223372036854775807 := by unfold maxLen at hc2; omega
  have U1 : Hid (Upd [] w (w.alloc (.cells #[.int .u8 0, .bool false, .slice none 0 0, .string ⟨#[]⟩, .int .i64 0, .slice none 0 0, .slice none 0 0] 26))) := (Upd.refl [] w).alloc _
  have TZ : Hid (Tb (w.alloc (.cells #[.int .u8 0, .bool false, .slice none 0 0, .string ⟨#[]⟩, .int .i64 0, .slice none 0 0, .slice none 0 0] 26)) w.heap.size #[.int .u8 0, .bool false, .slice none 0 0, .string ⟨#[]⟩, .int .i64 0, .slice none 0 0, .slice none 0 0]) := Tb.new _ _ _ rfl
  obtain ⟨n, hL⟩ : ∃ n, L.length = n := ⟨_, rfl⟩
  have HB : Hid (RBoxV w b (.slice (some ⟨g, 0, none⟩) L.length cap) L k ∧ Sev L ∧ L.getD k [] = (fl kk bb ss nn).toList ∧ L.length = n) := ⟨h, hs, hc, hL⟩
  rw [hL] at hk hn hc1 ⊢
  clear h hs hc hc2 hL
  go_enter Try.func20, Try.ntmps20
  go_wp2_with fail
  refine Calls.mono (rnext_V _ b _ L k kk nn bb ss (by rw [HB.out.2.2.2]; exact hk) (HB.out.1.up U1.out) HB.out.2.2.1) ?_
  rintro e w2 ⟨rfl, hu⟩
  have T2 : Hid (Tb w2 w.heap.size #[.int .u8 0, .bool false, .slice none 0 0, .string ⟨#[]⟩, .int .i64 0, .slice none 0 0, .slice none 0 0]) := TZ.out.mono hu (by simp)
  have U2 : Hid (Upd [] w w2) := U1.out.trans hu
  have HX : Hid (Tb (w2.alloc (.cells #[.int .u8 0, .bool false, .slice none 0 0, .string ⟨#[]⟩, .int .i64 0, .slice none 0 0, .slice none 0 0] 26)) w2.heap.size #[.int .u8 0, .bool false, .slice none 0 0, .string ⟨#[]⟩, .int .i64 0, .slice none 0 0, .slice none 0 0] ∧ Upd [] w2 (w2.alloc (.cells #[.int .u8 0, .bool false, .slice none 0 0, .string ⟨#[]⟩, .int .i64 0, .slice none 0 0, .slice none 0 0] 26))) := ⟨Tb.new _ _ _ rfl, (Upd.refl [] _).alloc _⟩
  clear hu U1 TZ
  go_wp2_with (first
    | (refine store_T _ rfl _ _ rfl _ _ _ rfl rfl HX.out.1 rfl rfl (fl_one kk bb ss nn) ?_; intro w3 hT3 hU3)
    | fail)
  have hx2 : w.heap.size < w2.heap.size := T2.out.lt
  have t3 : Tb w3 w.heap.size #[.int .u8 0, .bool false, .slice none 0 0, .string ⟨#[]⟩, .int .i64 0, .slice none 0 0, .slice none 0 0] := (T2.out.mono HX.out.2 (by simp)).mono hU3 (by simp only [List.mem_singleton]; omega)
  have u3 : Upd [] w w3 := (U2.out.trans HX.out.2).then hU3 (fun x hx => Or.inl (by simp only [List.mem_singleton] at hx; omega))
  obtain ⟨x, hx⟩ : ∃ x, x = w2.heap.size := ⟨_, rfl⟩
  rw [← hx] at hT3 hx2 ⊢
  have H3 : Hid (Tb w3 x (fl kk bb ss nn) ∧ Tb w3 w.heap.size #[.int .u8 0, .bool false, .slice none 0 0, .string ⟨#[]⟩, .int .i64 0, .slice none 0 0, .slice none 0 0] ∧ Upd [] w w3 ∧ w.heap.size < x) := ⟨hT3, t3, u3, hx2⟩
  have HB3 : Hid (RBoxV w3 b (.slice (some ⟨g, 0, none⟩) n cap) L k) := by have := HB.out.1.up u3; rw [HB.out.2.2.2] at this; exact this
  clear hT3 hU3 t3 u3 hx hx2 HX T2 U2
  refine wp_region_cut_drew (S := fun W => Upd [] w3 W) 23 (by kernel_rfl) (Upd.refl [] w3).drew (fun hS => ?_)
  generalize World.drew _ = w4 at hS ⊢
  refine wpAnyC_take (i := 0) (v := .pointer (some ⟨b, 0, none⟩)) rfl (by kernel_rfl) (by kernel_rfl) (by kernel_rfl) (by kernel_rfl) (fun _ _ _ h => h) (Or.inl ⟨by rfl, ?_⟩) hS ?_
  · intro W hW; have e0 := (HB3.out.up hW).bx.c0; have e1 := (HB3.out.up hW).bx.c1; go_simp
  refine wpAnyC_take (i := 2) (v := .pointer (some ⟨b, 0, none⟩)) rfl (by kernel_rfl) (by kernel_rfl) (by kernel_rfl) (by kernel_rfl) (fun _ _ _ h => h) (Or.inl ⟨by rfl, ?_⟩) hS ?_
  · intro W hW; have e0 := (HB3.out.up hW).bx.c0; have e1 := (HB3.out.up hW).bx.c1; go_simp
  refine wpAnyC_take (i := 3) (v := .pointer (some ⟨b, 0, none⟩)) rfl (by kernel_rfl) (by kernel_rfl) (by kernel_rfl) (by kernel_rfl) (fun _ _ _ h => h) (Or.inl ⟨by rfl, ?_⟩) hS ?_
  · intro W hW; have e0 := (HB3.out.up hW).bx.c0; have e1 := (HB3.out.up hW).bx.c1; go_simp
  refine wpAnyC_take (i := 4) (v := .pointer (some ⟨b, 0, none⟩)) rfl (by kernel_rfl) (by kernel_rfl) (by kernel_rfl) (by kernel_rfl) (fun _ _ _ h => h) (Or.inl ⟨by rfl, ?_⟩) hS ?_
  · intro W hW; have e0 := (HB3.out.up hW).bx.c0; have e1 := (HB3.out.up hW).bx.c1; go_simp
  refine wpAnyC_take (i := 5) (v := .slice (some ⟨g, 0, none⟩) n cap) rfl (by kernel_rfl) (by kernel_rfl) (by kernel_rfl) (by kernel_rfl) (fun _ _ _ h => h) (Or.inl ⟨by rfl, ?_⟩) hS ?_
  · intro W hW; have e0 := (HB3.out.up hW).bx.c0; have e1 := (HB3.out.up hW).bx.c1; go_simp
  refine wpAnyC_take (i := 6) (v := .pointer (some ⟨b, 0, none⟩)) rfl (by kernel_rfl) (by kernel_rfl) (by kernel_rfl) (by kernel_rfl) (fun _ _ _ h => h) (Or.inl ⟨by rfl, ?_⟩) hS ?_
  · intro W hW; have e0 := (HB3.out.up hW).bx.c0; have e1 := (HB3.out.up hW).bx.c1; go_simp
  refine wpAnyC_take (i := 7) (v := .pointer (some ⟨b, 0, none⟩)) rfl (by kernel_rfl) (by kernel_rfl) (by kernel_rfl) (by kernel_rfl) (fun _ _ _ h => h) (Or.inl ⟨by rfl, ?_⟩) hS ?_
  · intro W hW; have e0 := (HB3.out.up hW).bx.c0; have e1 := (HB3.out.up hW).bx.c1; go_simp
  refine wpAnyC_take (i := 8) (v := .pointer (some ⟨b, 1, none⟩)) rfl (by kernel_rfl) (by kernel_rfl) (by kernel_rfl) (by kernel_rfl) (fun _ _ _ h => h) (Or.inl ⟨by rfl, ?_⟩) hS ?_
  · intro W hW; have e0 := (HB3.out.up hW).bx.c0; have e1 := (HB3.out.up hW).bx.c1; go_simp
  refine wpAnyC_take (i := 9) (v := .int .i64 k) rfl (by kernel_rfl) (by kernel_rfl) (by kernel_rfl) (by kernel_rfl) (fun _ _ _ h => h) (Or.inl ⟨by rfl, ?_⟩) hS ?_
  · intro W hW; have e0 := (HB3.out.up hW).bx.c0; have e1 := (HB3.out.up hW).bx.c1; go_simp
  refine wpAnyC_take (i := 10) (v := .slice (some ⟨g, 0, none⟩) k cap) rfl (by kernel_rfl) (by kernel_rfl) (by kernel_rfl) (by kernel_rfl) (fun _ _ _ h => h) (Or.inl ⟨by rfl, ?_⟩) hS ?_
  · intro W hW; have e0 := (HB3.out.up hW).bx.c0; have e1 := (HB3.out.up hW).bx.c1; go_simp; intro hx; omega
  refine wpAnyC_take (i := 12) (v := .pointer (some ⟨b, 0, none⟩)) rfl (by kernel_rfl) (by kernel_rfl) (by kernel_rfl) (by kernel_rfl) (fun _ _ _ h => h) (Or.inl ⟨by rfl, ?_⟩) hS ?_
  · intro W hW; have e0 := (HB3.out.up hW).bx.c0; have e1 := (HB3.out.up hW).bx.c1; go_simp
  refine wpAnyC_take (i := 13) (v := .pointer (some ⟨b, 0, none⟩)) rfl (by kernel_rfl) (by kernel_rfl) (by kernel_rfl) (by kernel_rfl) (fun _ _ _ h => h) (Or.inl ⟨by rfl, ?_⟩) hS ?_
  · intro W hW; have e0 := (HB3.out.up hW).bx.c0; have e1 := (HB3.out.up hW).bx.c1; go_simp
  refine wpAnyC_take (i := 14) (v := .pointer (some ⟨b, 0, none⟩)) rfl (by kernel_rfl) (by kernel_rfl) (by kernel_rfl) (by kernel_rfl) (fun _ _ _ h => h) (Or.inl ⟨by rfl, ?_⟩) hS ?_
  · intro W hW; have e0 := (HB3.out.up hW).bx.c0; have e1 := (HB3.out.up hW).bx.c1; go_simp
  refine wpAnyC_take (i := 15) (v := .slice (some ⟨g, 0, none⟩) n cap) rfl (by kernel_rfl) (by kernel_rfl) (by kernel_rfl) (by kernel_rfl) (fun _ _ _ h => h) (Or.inl ⟨by rfl, ?_⟩) hS ?_
  · intro W hW; have e0 := (HB3.out.up hW).bx.c0; have e1 := (HB3.out.up hW).bx.c1; go_simp
  refine wpAnyC_take (i := 16) (v := .pointer (some ⟨b, 0, none⟩)) rfl (by kernel_rfl) (by kernel_rfl) (by kernel_rfl) (by kernel_rfl) (fun _ _ _ h => h) (Or.inl ⟨by rfl, ?_⟩) hS ?_
  · intro W hW; have e0 := (HB3.out.up hW).bx.c0; have e1 := (HB3.out.up hW).bx.c1; go_simp
  refine wpAnyC_take (i := 17) (v := .pointer (some ⟨b, 0, none⟩)) rfl (by kernel_rfl) (by kernel_rfl) (by kernel_rfl) (by kernel_rfl) (fun _ _ _ h => h) (Or.inl ⟨by rfl, ?_⟩) hS ?_
  · intro W hW; have e0 := (HB3.out.up hW).bx.c0; have e1 := (HB3.out.up hW).bx.c1; go_simp
  refine wpAnyC_take (i := 18) (v := .pointer (some ⟨b, 1, none⟩)) rfl (by kernel_rfl) (by kernel_rfl) (by kernel_rfl) (by kernel_rfl) (fun _ _ _ h => h) (Or.inl ⟨by rfl, ?_⟩) hS ?_
  · intro W hW; have e0 := (HB3.out.up hW).bx.c0; have e1 := (HB3.out.up hW).bx.c1; go_simp
  refine wpAnyC_take (i := 19) (v := .int .i64 k) rfl (by kernel_rfl) (by kernel_rfl) (by kernel_rfl) (by kernel_rfl) (fun _ _ _ h => h) (Or.inl ⟨by rfl, ?_⟩) hS ?_
  · intro W hW; have e0 := (HB3.out.up hW).bx.c0; have e1 := (HB3.out.up hW).bx.c1; go_simp
  refine wpAnyC_take (i := 20) (v := .int .i64 (k + 1)) rfl (by kernel_rfl) (by kernel_rfl) (by kernel_rfl) (by kernel_rfl) (fun _ _ _ h => h) (Or.inl ⟨by rfl, ?_⟩) hS ?_
  · intro W hW; have e0 := (HB3.out.up hW).bx.c0; have e1 := (HB3.out.up hW).bx.c1; have hwr : IntKind.i64.wrap ((k : Int) + 1) = (k : Int) + 1 := (by rw [IntKind.wrap_i64]; omega); go_simp
  simp only [Act.put, List.getElem_toArray, List.getElem_cons_succ, List.getElem_cons_zero, List.setIfInBounds_toArray, List.set_cons_succ, List.set_cons_zero]
  have hq : ∃ q : Option Addr, (0 < n - (k + 1) → q = some ⟨g, (k + 1) * 7, none⟩) ∧ q = (if cap = k + 1 then some ⟨g, 0, none⟩ else some ⟨g, (k + 1) * 7, none⟩) := ⟨_, fun h0 => if_neg (by omega), rfl⟩
  obtain ⟨q, hq1, hq2⟩ := hq
  have HQ : Hid (q = (if cap = k + 1 then some ⟨g, 0, none⟩ else some ⟨g, (k + 1) * 7, none⟩)) := hq2
  have HQ1 : Hid (0 < n - (k + 1) → q = some ⟨g, (k + 1) * 7, none⟩) := hq1
  clear hq2 hq1
  refine wpAnyC_take (i := 21) (v := .slice q (n - (k + 1)) (cap - (k + 1))) rfl (by kernel_rfl) (by kernel_rfl) (by kernel_rfl) (by kernel_rfl) (fun _ _ _ h => h) (Or.inl ⟨by rfl, ?_⟩) hS ?_
  · intro W hW; have e0 := (HB3.out.up hW).bx.c0; have e1 := (HB3.out.up hW).bx.c1; go_simp; rw [HQ.out, if_pos (by omega)]
  simp only [Act.put, List.getElem_toArray, List.getElem_cons_succ, List.getElem_cons_zero, List.setIfInBounds_toArray, List.set_cons_succ, List.set_cons_zero]
  have hlk : (L.take k).length = k := by rw [List.length_take, HB.out.2.2.2]; omega
  have hld : (L.drop (k + 1)).length = n - (k + 1) := by rw [List.length_drop, HB.out.2.2.2]
  have HH : Hid (∀ W, Upd [] w3 W → Hs W 7 (.slice (some ⟨g, 0, none⟩) L.length cap) L.length (fun i => L.getD i [])) := fun W hW => by
    have := (HB3.out.up hW).has
    rw [HB.out.2.2.2] at this ⊢
    exact this
  refine wpAnyC_ready (rs := [1]) (by kernel_rfl) (by simp) (AllReadyC.cons rfl (by decide) (fun K hK => ?_) AllReadyC.nil)
  go_simp
  have hz5 : FrR w3 (w4.alloc (.cells #[] 26)) (.slice (some ⟨w4.heap.size, 0, none⟩) 0 0) [] := ⟨Or.inr ⟨_, 0, rfl, by simp, Nat.le_refl _, by unfold maxLen; omega, fun j hj => by omega⟩, Hs.zero _ _ _ _, fun y hy => by simp [Value.ownBlock] at hy; subst hy; exact hS.size⟩
  have hu5 : Upd [] w3 (w4.alloc (.cells #[] 26)) := hS.alloc _
  generalize World.alloc w4 _ = w5 at hz5 hu5 ⊢
  refine hK.out _ _ hu5 (fun _ => ?_)
  clear hK K
  refine wpAnyC_ready (rs := [11]) (by kernel_rfl) (by simp) (AllReadyC.cons rfl (by decide) (fun K hK => ?_) AllReadyC.nil)
  rw [if_pos (by rfl)]
  refine wp_appF (.tmp 15) (.tmp 24) rfl (M := L.take k) (sp := some ⟨g, 0, none⟩) (m := k) (c := cap) rfl rfl hu5 hz5 (HB.out.2.1.take k) (by simp only [List.length_nil]; omega) hlk.symm (fun _ => ⟨_, rfl, take_src HB.out.2.1 (HH.out _ hu5) (by rw [HB.out.2.2.2]; omega)⟩) ?_
  intro v6 w6 hu6 hf6
  rw [List.nil_append] at hf6
  refine hK.out _ _ hu6 (fun _ => ?_)
  clear hK K hz5 hu5
  refine wpAnyC_ready (rs := [22]) (by kernel_rfl) (by simp) (AllReadyC.cons rfl (by decide) (fun K hK => ?_) AllReadyC.nil)
  rw [if_pos (by rfl)]
  refine wp_appF (.tmp 25) (.tmp 35) rfl (M := L.drop (k + 1)) (sp := q) (m := n - (k + 1)) (c := cap - (k + 1)) rfl rfl hu6 hf6 (HB.out.2.1.drop (k + 1)) (by omega) hld.symm (fun h0 => ⟨_, HQ1.out (by omega), close_src HB.out.2.1 (HH.out _ hu6)⟩) ?_
  intro v7 w7 hu7 hf7
  have her : L.take k ++ L.drop (k + 1) = L.eraseIdx k := (List.eraseIdx_eq_take_drop_succ L k).symm
  rw [her] at hf7
  refine hK.out _ _ hu7 (fun _ => ?_)
  clear hK K hu6 hf6 her
  obtain ⟨a7, m7, c7, hv7⟩ : ∃ a7 m7 c7, v7 = .slice a7 m7 c7 := by obtain ⟨a7, c7, e7, _⟩ := hf7.row.form; exact ⟨a7, _, c7, e7⟩
  subst hv7
  refine wpAnyC_cut (fun _ => True) (by kernel_rfl) rfl (fun K hK => ?_)
  go_simp
  refine hK.out _ _ trivial (fun _ => ?_)
  clear hK K
  refine wpAnyH_take (i := 24) (v := .pointer (some ⟨b, 0, none⟩)) rfl (by kernel_rfl) (by kernel_rfl) (by kernel_rfl) (fun _ _ _ h => h) (Or.inl ⟨by rfl, ?_⟩) trivial ?_
  · intro W hW; skip; go_simp
  simp only [Act.put, List.getElem_toArray, List.getElem_cons_succ, List.getElem_cons_zero, List.setIfInBounds_toArray, List.set_cons_succ, List.set_cons_zero]
  have hb7 := (HB3.out.up hu7).bx
  have c0 := hb7.c0
  have f0 := hb7.f 0
  have hbl : b < w3.heap.size := HB3.out.lt
  have hxl : x < w3.heap.size := H3.out.1.lt
  have H7 : Hid (RBx w7 b (.slice (some ⟨g, 0, none⟩) n cap) k ∧ Upd [] w3 w7 ∧ FrR w3 w7 (.slice a7 m7 c7) (L.eraseIdx k)) := ⟨hb7, hu7, hf7⟩
  refine wpAnyH_ready (rs := [25]) (by kernel_rfl) (by simp) (AllReadyH.cons rfl (fun K hK => ?_) AllReadyH.nil)
  go_simp
  refine hK.out _ _ trivial (fun _ => ?_)
  clear hK K hb7 c0 f0 hu7 hf7 hS
  refine wpAnyH_done (by kernel_rfl) ?_ _
  have hb8 := H7.out.1.set0 (.slice a7 m7 c7)
  have hu8 : Upd [b] w7 (w7.setCell ⟨b, 0, none⟩ (.slice a7 m7 c7)) := (Upd.refl [b] w7).setCell (Or.inr (by simp)) _
  obtain ⟨w8, hw8⟩ : ∃ w8, w8 = w7.setCell ⟨b, 0, none⟩ (.slice a7 m7 c7) := ⟨_, rfl⟩
  rw [← hw8] at hb8 hu8 ⊢
  have c1 := hb8.c1
  have f1 := hb8.f 1
  have hb9 := hb8.set1 0
  have hu9 : Upd [b] w8 (w8.setCell ⟨b, 1, none⟩ (.int .i64 0)) := (Upd.refl [b] w8).setCell (Or.inr (by simp)) _
  obtain ⟨w9, hw9⟩ : ∃ w9, w9 = w8.setCell ⟨b, 1, none⟩ (.int .i64 0) := ⟨_, rfl⟩
  rw [← hw9] at hb9 hu9
  have HW9 : Hid (w9 = w8.setCell ⟨b, 1, none⟩ (.int .i64 0)) := hw9
  have hxb : x ≠ b := by
    intro e
    have h1 := H3.out.1
    have h2 := HB3.out.bx
    rw [e] at h1
    have h3 := h1.symm.trans h2
    simp at h3
  have hwb : w.heap.size ≠ b := by
    intro e
    have h1 := H3.out.2.1
    have h2 := HB3.out.bx
    rw [e] at h1
    have h3 := h1.symm.trans h2
    simp at h3
  have hu39 : Upd [b] w3 w9 := ((Upd.refl [b] w3).then H7.out.2.1 (by simp)).trans (hu8.trans hu9)
  have t9 : Tb w9 x (fl kk bb ss nn) := H3.out.1.mono hu39 (by simpa using hxb)
  have z9 : Tb w9 w.heap.size #[.int .u8 0, .bool false, .slice none 0 0, .string ⟨#[]⟩, .int .i64 0, .slice none 0 0, .slice none 0 0] := H3.out.2.1.mono hu39 (by simpa using hwb)
  have hown : ∀ y, (Value.slice a7 m7 c7).ownBlock = some y → w3.heap.size ≤ y := H7.out.2.2.new
  have hf9 : RowG w9 7 (.slice a7 m7 c7) (L.eraseIdx k).length ∧ Hs w9 7 (.slice a7 m7 c7) (L.eraseIdx k).length (fun i => (L.eraseIdx k).getD i []) := by
    have hnb : ∀ y, (Value.slice a7 m7 c7).ownBlock = some y → y ∉ [b] := fun y hy hm => by have := hown y hy; simp at hm; omega
    exact ⟨H7.out.2.2.row.upd (hu8.trans hu9) hnb, H7.out.2.2.has.upd H7.out.2.2.row (hu8.trans hu9) hnb⟩
  have H9 : Hid (RBx w9 b (.slice a7 m7 c7) 0 ∧ Upd [b] w3 w9 ∧ Tb w9 x (fl kk bb ss nn) ∧ Tb w9 w.heap.size #[.int .u8 0, .bool false, .slice none 0 0, .string ⟨#[]⟩, .int .i64 0, .slice none 0 0, .slice none 0 0] ∧ (∀ y, (Value.slice a7 m7 c7).ownBlock = some y → w3.heap.size ≤ y) ∧ RowG w9 7 (.slice a7 m7 c7) (L.eraseIdx k).length ∧ Hs w9 7 (.slice a7 m7 c7) (L.eraseIdx k).length (fun i => (L.eraseIdx k).getD i []) ∧ w.heap.size ≠ b ∧ b < w3.heap.size) := ⟨hb9, hu39, t9, z9, hown, hf9.1, hf9.2, hwb, hbl⟩
  clear hw8 hw9 hb8 hu8 hb9 hu9 hxb hwb hu39 t9 z9 hown hf9 hbl hxl hlk hld
  go_wp2_with (first
    | (rw [← HW9.out]; refine load_T _ rfl _ rfl _ _ rfl H9.out.2.2.1 rfl ?_)
    | (refine store_T _ rfl _ _ rfl _ _ _ rfl rfl H9.out.2.2.2.1 rfl rfl (fl_one kk bb ss nn) ?_; intro w10 hT10 hU10)
    | fail)
  have h3 := H3.out.2.2.1
  have hb0 : b < w.heap.size := by
    rcases Nat.lt_or_ge b w.heap.size with h | h
    · exact h
    · exact absurd (HB.out.1.lt) (by omega)
  have hs3 := h3.size
  have hnew : ∀ y, (Value.slice a7 m7 c7).ownBlock = some y → y ∉ [w.heap.size] := fun y hy hm => by have := H9.out.2.2.2.2.1 y hy; have := H3.out.2.1.lt; simp at hm; omega
  refine ret_Tb rfl rfl _ _ _ rfl hT10 rfl rfl ⟨rfl, (.slice a7 m7 c7), ⟨H9.out.1.mono hU10 (by simp only [List.mem_singleton]; omega), H9.out.2.2.2.2.2.1.upd hU10 hnew, H9.out.2.2.2.2.2.2.1.upd H9.out.2.2.2.2.2.1 hU10 hnew, fun e => by have := H9.out.2.2.2.2.1 b e; omega⟩, ?_⟩
  have h9 := H9.out.2.1
  refine ⟨hU10.os.trans (h9.os.trans h3.os), hU10.tape.trans (h9.tape.trans h3.tape), hU10.output.trans (h9.output.trans h3.output), Nat.le_trans hs3 (Nat.le_trans h9.size hU10.size), fun i hi hib hiv => ?_, fun i hi hiv e => by have := H9.out.2.2.2.2.1 i e; omega⟩
  exact (hU10.block i (by have := h9.size; omega) (by simp only [List.mem_singleton]; omega)).trans ((h9.block i (by omega) (by simpa using hib)).trans (h3.block i hi (by simp)))

end Go.Proofs.Ytmdkhkeljpdbiaa
