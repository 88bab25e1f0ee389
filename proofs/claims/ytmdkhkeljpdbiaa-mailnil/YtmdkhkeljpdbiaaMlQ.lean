/- MailNil, walked. -/
import Derived.Test.YtmdkhkeljpdbiaaMlP
namespace Go.Proofs.Ytmdkhkeljpdbiaa
open Go.RowKit

set_option maxHeartbeats 8000000 in
set_option maxRecDepth 100000 in
theorem Nil_walk (w : World) (cs : Array Value) (hcs : cs.size = 7) : Calls Try.prog 3 #[.agg cs] w fun e w' => e = .returned (.bool true) ∧ Upd [] w w' := by
  have U0 : Hid (Upd [] w (w.alloc (.cells cs 26))) := (Upd.refl [] w).alloc _
  have T0 : Hid (Tb (w.alloc (.cells cs 26)) w.heap.size cs) := Tb.new _ _ _ rfl
  have HCS : Hid (cs.size = 7) := hcs
  clear hcs
  go_enter Try.func3, Try.ntmps3
  go_wp2_with fail
  refine Calls.mono (awake_any _) ?_
  rintro e w1 ⟨rfl, hu⟩
  have U1 : Hid (Upd [] w w1) := U0.out.trans hu
  have T1 : Hid (Tb w1 w.heap.size cs) := T0.out.mono hu (by simp)
  clear hu U0 T0
  go_wp2_with fail
  generalize hwl : World.alloc _ _ = wl
  have ul : Upd [] w1 wl := by rw [← hwl]; exact ((Upd.refl [] w1).alloc _).alloc _
  have hz : wl.heap[w1.heap.size]? = some (.cells #[.pointer none, .slice none 0 0, .int .i64 0] 30 (0, 0)) := by rw [← hwl]; exact alloc_at_old (by simp) (alloc_at_new rfl)
  have ha : wl.heap[w1.heap.size + 1]? = some (.cells #[.pointer none, .pointer (some ⟨w1.heap.size, 0, none⟩)] 28 (0, 0)) := by rw [← hwl]; exact alloc_at_new (by simp)
  obtain ⟨bz, hbz⟩ : ∃ bz, bz = w1.heap.size := ⟨_, rfl⟩
  rw [← hbz] at hz ha ⊢
  have UL : Hid (Upd [] w wl) := U1.out.trans ul
  have TL : Hid (Tb wl w.heap.size cs) := T1.out.mono ul (by simp)
  have HA : Hid (wl.heap[bz]? = some (.cells #[.pointer none, .slice none 0 0, .int .i64 0] 30 (0, 0)) ∧ wl.heap[bz + 1]? = some (.cells #[.pointer none, .pointer (some ⟨bz, 0, none⟩)] 28 (0, 0)) ∧ w.heap.size < wl.heap.size) := ⟨hz, ha, TL.out.lt⟩
  have HM0 : Hid (∀ W, Upd [] wl W → Calls Try.prog 23 #[.pointer none] W fun e w' => e = .returned (.bool false) ∧ w' = W) := fun W _ => made_nil W
  have HM1 : Hid (∀ W, Upd [] wl W → Calls Try.prog 23 #[.pointer (some ⟨bz, 0, none⟩)] W fun e w' => e = .returned (.bool false) ∧ w' = W) := fun W hu => made_zero W bz (by rw [cell_of_row _ _ _ _ _ _ ((hu.block _ (lt_of_block HA.out.1) (by simp)).trans HA.out.1)]; rfl)
  have V0 : Hid (Upd [] wl wl) := Upd.refl _ _
  clear hwl ul hz ha hbz U1 T1
  refine wp_loop_rounds 3 ?_
  have q0 : wl.cell? ⟨bz + 1, 0, none⟩ = some (.pointer none) := by rw [cell_of_row _ _ _ _ _ _ ((V0.out.block _ (lt_of_block HA.out.2.1) (by simp)).trans HA.out.2.1)]; rfl
  rw [rounds_succ]
  go_wp2_with fail
  refine Calls.mono (begin_no _ _ (HM0.out _ V0.out)) ?_
  rintro e wa ⟨rfl, hw⟩
  rw [hw]
  clear hw wa q0
  go_wp2_with fail
  refine Calls.mono (next_no _ _ (fun W hu => HM0.out W (V0.out.trans hu))) ?_
  rintro e wv1 ⟨rfl, hu⟩
  have V1 : Hid (Upd [] wl wv1) := V0.out.trans hu
  clear hu V0 
  have HX : Hid (Tb (wv1.alloc (.cells #[.int .u8 0, .bool false, .slice none 0 0, .string ⟨#[]⟩, .int .i64 0, .slice none 0 0, .slice none 0 0] 26)) wv1.heap.size #[.int .u8 0, .bool false, .slice none 0 0, .string ⟨#[]⟩, .int .i64 0, .slice none 0 0, .slice none 0 0] ∧ Upd [] wv1 (wv1.alloc (.cells #[.int .u8 0, .bool false, .slice none 0 0, .string ⟨#[]⟩, .int .i64 0, .slice none 0 0, .slice none 0 0] 26))) := ⟨Tb.new _ _ _ rfl, (Upd.refl [] _).alloc _⟩
  go_wp2_with (first | (refine store_T _ rfl _ _ rfl _ _ _ rfl rfl HX.out.1 rfl rfl (fl_one 0 false ⟨#[]⟩ 0) ?_; intro wv2 hT hU0) | fail)
  have V2 : Hid (Upd [] wl wv2) := (V1.out.trans HX.out.2).then hU0 (fun x hx => Or.inl (by simp only [List.mem_singleton] at hx; have := V1.out.size; omega))
  obtain ⟨x0, hx⟩ : ∃ x, x = wv1.heap.size := ⟨_, rfl⟩
  rw [← hx] at hT ⊢
  have Tx02 : Hid (Tb wv2 x0 #[.int .u8 0, .bool false, .slice none 0 0, .string ⟨#[]⟩, .int .i64 0, .slice none 0 0, .slice none 0 0]) := hT
  clear HX hT hU0 hx V1 
  refine Calls.mono (take_no _ _ (fun W hu => HM0.out W (V2.out.trans hu))) ?_
  rintro e wv3 ⟨rfl, hu⟩
  have V3 : Hid (Upd [] wl wv3) := V2.out.trans hu
  have Tx03 : Hid (Tb wv3 x0 #[.int .u8 0, .bool false, .slice none 0 0, .string ⟨#[]⟩, .int .i64 0, .slice none 0 0, .slice none 0 0]) := Tx02.out.mono hu (by simp)
  clear hu V2 Tx02
  have HX : Hid (Tb (wv3.alloc (.cells #[.int .u8 0, .bool false, .slice none 0 0, .string ⟨#[]⟩, .int .i64 0, .slice none 0 0, .slice none 0 0] 26)) wv3.heap.size #[.int .u8 0, .bool false, .slice none 0 0, .string ⟨#[]⟩, .int .i64 0, .slice none 0 0, .slice none 0 0] ∧ Upd [] wv3 (wv3.alloc (.cells #[.int .u8 0, .bool false, .slice none 0 0, .string ⟨#[]⟩, .int .i64 0, .slice none 0 0, .slice none 0 0] 26))) := ⟨Tb.new _ _ _ rfl, (Upd.refl [] _).alloc _⟩
  go_wp2_with (first | (refine store_T _ rfl _ _ rfl _ _ _ rfl rfl HX.out.1 rfl rfl (fl_one 0 false ⟨#[]⟩ 0) ?_; intro wv4 hT hU0; have tt : Tb wv4 w.heap.size cs := (TL.out.mono V3.out (by simp)).mono (HX.out.2) (by simp) |>.mono hU0 (by simp only [List.mem_singleton]; have := V3.out.size; have := HA.out.2.2; omega); have TT : Hid (Tb wv4 w.heap.size cs) := tt; clear tt) | (refine load_T _ rfl _ rfl _ _ rfl TT.out HCS.out ?_) | fail)
  have V4 : Hid (Upd [] wl wv4) := (V3.out.trans HX.out.2).then hU0 (fun x hx => Or.inl (by simp only [List.mem_singleton] at hx; have := V3.out.size; omega))
  have Tx04 : Hid (Tb wv4 x0 #[.int .u8 0, .bool false, .slice none 0 0, .string ⟨#[]⟩, .int .i64 0, .slice none 0 0, .slice none 0 0]) := (Tx03.out.mono HX.out.2 (by simp)).mono hU0 (by simp only [List.mem_singleton]; have := Tx03.out.lt; omega)
  obtain ⟨y0, hx⟩ : ∃ x, x = wv3.heap.size := ⟨_, rfl⟩
  rw [← hx] at hT ⊢
  have Ty04 : Hid (Tb wv4 y0 #[.int .u8 0, .bool false, .slice none 0 0, .string ⟨#[]⟩, .int .i64 0, .slice none 0 0, .slice none 0 0]) := hT
  clear HX hT hU0 hx V3 Tx03
  clear TT
  refine Calls.mono (put_no _ _ cs (fun W hu => HM0.out W (V4.out.trans hu))) ?_
  rintro e wv5 ⟨rfl, hu⟩
  have V5 : Hid (Upd [] wl wv5) := V4.out.trans hu
  have Tx05 : Hid (Tb wv5 x0 #[.int .u8 0, .bool false, .slice none 0 0, .string ⟨#[]⟩, .int .i64 0, .slice none 0 0, .slice none 0 0]) := Tx04.out.mono hu (by simp)
  have Ty05 : Hid (Tb wv5 y0 #[.int .u8 0, .bool false, .slice none 0 0, .string ⟨#[]⟩, .int .i64 0, .slice none 0 0, .slice none 0 0]) := Ty04.out.mono hu (by simp)
  clear hu V4 Tx04 Ty04
  go_wp2_with (first | (refine load_G _ _ rfl _ _ rfl Tx05.out rfl rfl ?_) | fail)
  refine Calls.mono (same_fl _ 0 0 false ⟨#[]⟩) ?_
  rintro e wv6 ⟨rfl, hu⟩
  have V6 : Hid (Upd [] wl wv6) := V5.out.trans hu
  have Tx06 : Hid (Tb wv6 x0 #[.int .u8 0, .bool false, .slice none 0 0, .string ⟨#[]⟩, .int .i64 0, .slice none 0 0, .slice none 0 0]) := Tx05.out.mono hu (by simp)
  have Ty06 : Hid (Tb wv6 y0 #[.int .u8 0, .bool false, .slice none 0 0, .string ⟨#[]⟩, .int .i64 0, .slice none 0 0, .slice none 0 0]) := Ty05.out.mono hu (by simp)
  clear hu V5 Tx05 Ty05
  go_wp2_with (first | (refine load_G _ _ rfl _ _ rfl Ty06.out rfl rfl ?_) | fail)
  refine Calls.mono (same_fl _ 0 0 false ⟨#[]⟩) ?_
  rintro e wv7 ⟨rfl, hu⟩
  have V7 : Hid (Upd [] wl wv7) := V6.out.trans hu
  have Tx07 : Hid (Tb wv7 x0 #[.int .u8 0, .bool false, .slice none 0 0, .string ⟨#[]⟩, .int .i64 0, .slice none 0 0, .slice none 0 0]) := Tx06.out.mono hu (by simp)
  have Ty07 : Hid (Tb wv7 y0 #[.int .u8 0, .bool false, .slice none 0 0, .string ⟨#[]⟩, .int .i64 0, .slice none 0 0, .slice none 0 0]) := Ty06.out.mono hu (by simp)
  clear hu V6 Tx06 Ty06
  go_wp2_with fail
  refine Calls.mono (skip_no _ _ (HM0.out _ V7.out)) ?_
  rintro e wa ⟨rfl, hw⟩
  rw [hw]
  clear hw wa
  go_wp2_with fail
  refine Calls.mono (len_no _ _ (HM0.out _ V7.out)) ?_
  rintro e wa ⟨rfl, hw⟩
  rw [hw]
  clear hw wa
  go_wp2_with fail
  refine Calls.mono (all_no _ _ (HM0.out _ V7.out)) ?_
  rintro e wa ⟨rfl, hw⟩
  rw [hw]
  clear hw wa
  go_wp2_with fail
  refine Calls.mono (copy_no _ _ (HM0.out _ V7.out)) ?_
  rintro e wa ⟨rfl, hw⟩
  rw [hw]
  clear hw wa
  go_wp2_with fail
  clear Tx07 Ty07
  have q7 : wv7.cell? ⟨bz + 1, 1, none⟩ = some (.pointer (some ⟨bz, 0, none⟩)) := by rw [cell_of_row _ _ _ _ _ _ ((V7.out.block _ (lt_of_block HA.out.2.1) (by simp)).trans HA.out.2.1)]; rfl
  rw [rounds_succ]
  go_wp2_with fail
  refine Calls.mono (begin_no _ _ (HM1.out _ V7.out)) ?_
  rintro e wa ⟨rfl, hw⟩
  rw [hw]
  clear hw wa q7
  go_wp2_with fail
  refine Calls.mono (next_no _ _ (fun W hu => HM1.out W (V7.out.trans hu))) ?_
  rintro e wv8 ⟨rfl, hu⟩
  have V8 : Hid (Upd [] wl wv8) := V7.out.trans hu
  clear hu V7 
  have HX : Hid (Tb (wv8.alloc (.cells #[.int .u8 0, .bool false, .slice none 0 0, .string ⟨#[]⟩, .int .i64 0, .slice none 0 0, .slice none 0 0] 26)) wv8.heap.size #[.int .u8 0, .bool false, .slice none 0 0, .string ⟨#[]⟩, .int .i64 0, .slice none 0 0, .slice none 0 0] ∧ Upd [] wv8 (wv8.alloc (.cells #[.int .u8 0, .bool false, .slice none 0 0, .string ⟨#[]⟩, .int .i64 0, .slice none 0 0, .slice none 0 0] 26))) := ⟨Tb.new _ _ _ rfl, (Upd.refl [] _).alloc _⟩
  go_wp2_with (first | (refine store_T _ rfl _ _ rfl _ _ _ rfl rfl HX.out.1 rfl rfl (fl_one 0 false ⟨#[]⟩ 0) ?_; intro wv9 hT hU0) | fail)
  have V9 : Hid (Upd [] wl wv9) := (V8.out.trans HX.out.2).then hU0 (fun x hx => Or.inl (by simp only [List.mem_singleton] at hx; have := V8.out.size; omega))
  obtain ⟨x1, hx⟩ : ∃ x, x = wv8.heap.size := ⟨_, rfl⟩
  rw [← hx] at hT ⊢
  have Tx19 : Hid (Tb wv9 x1 #[.int .u8 0, .bool false, .slice none 0 0, .string ⟨#[]⟩, .int .i64 0, .slice none 0 0, .slice none 0 0]) := hT
  clear HX hT hU0 hx V8 
  refine Calls.mono (take_no _ _ (fun W hu => HM1.out W (V9.out.trans hu))) ?_
  rintro e wv10 ⟨rfl, hu⟩
  have V10 : Hid (Upd [] wl wv10) := V9.out.trans hu
  have Tx110 : Hid (Tb wv10 x1 #[.int .u8 0, .bool false, .slice none 0 0, .string ⟨#[]⟩, .int .i64 0, .slice none 0 0, .slice none 0 0]) := Tx19.out.mono hu (by simp)
  clear hu V9 Tx19
  have HX : Hid (Tb (wv10.alloc (.cells #[.int .u8 0, .bool false, .slice none 0 0, .string ⟨#[]⟩, .int .i64 0, .slice none 0 0, .slice none 0 0] 26)) wv10.heap.size #[.int .u8 0, .bool false, .slice none 0 0, .string ⟨#[]⟩, .int .i64 0, .slice none 0 0, .slice none 0 0] ∧ Upd [] wv10 (wv10.alloc (.cells #[.int .u8 0, .bool false, .slice none 0 0, .string ⟨#[]⟩, .int .i64 0, .slice none 0 0, .slice none 0 0] 26))) := ⟨Tb.new _ _ _ rfl, (Upd.refl [] _).alloc _⟩
  go_wp2_with (first | (refine store_T _ rfl _ _ rfl _ _ _ rfl rfl HX.out.1 rfl rfl (fl_one 0 false ⟨#[]⟩ 0) ?_; intro wv11 hT hU0; have tt : Tb wv11 w.heap.size cs := (TL.out.mono V10.out (by simp)).mono (HX.out.2) (by simp) |>.mono hU0 (by simp only [List.mem_singleton]; have := V10.out.size; have := HA.out.2.2; omega); have TT : Hid (Tb wv11 w.heap.size cs) := tt; clear tt) | (refine load_T _ rfl _ rfl _ _ rfl TT.out HCS.out ?_) | fail)
  have V11 : Hid (Upd [] wl wv11) := (V10.out.trans HX.out.2).then hU0 (fun x hx => Or.inl (by simp only [List.mem_singleton] at hx; have := V10.out.size; omega))
  have Tx111 : Hid (Tb wv11 x1 #[.int .u8 0, .bool false, .slice none 0 0, .string ⟨#[]⟩, .int .i64 0, .slice none 0 0, .slice none 0 0]) := (Tx110.out.mono HX.out.2 (by simp)).mono hU0 (by simp only [List.mem_singleton]; have := Tx110.out.lt; omega)
  obtain ⟨y1, hx⟩ : ∃ x, x = wv10.heap.size := ⟨_, rfl⟩
  rw [← hx] at hT ⊢
  have Ty111 : Hid (Tb wv11 y1 #[.int .u8 0, .bool false, .slice none 0 0, .string ⟨#[]⟩, .int .i64 0, .slice none 0 0, .slice none 0 0]) := hT
  clear HX hT hU0 hx V10 Tx110
  clear TT
  refine Calls.mono (put_no _ _ cs (fun W hu => HM1.out W (V11.out.trans hu))) ?_
  rintro e wv12 ⟨rfl, hu⟩
  have V12 : Hid (Upd [] wl wv12) := V11.out.trans hu
  have Tx112 : Hid (Tb wv12 x1 #[.int .u8 0, .bool false, .slice none 0 0, .string ⟨#[]⟩, .int .i64 0, .slice none 0 0, .slice none 0 0]) := Tx111.out.mono hu (by simp)
  have Ty112 : Hid (Tb wv12 y1 #[.int .u8 0, .bool false, .slice none 0 0, .string ⟨#[]⟩, .int .i64 0, .slice none 0 0, .slice none 0 0]) := Ty111.out.mono hu (by simp)
  clear hu V11 Tx111 Ty111
  go_wp2_with (first | (refine load_G _ _ rfl _ _ rfl Tx112.out rfl rfl ?_) | fail)
  refine Calls.mono (same_fl _ 0 0 false ⟨#[]⟩) ?_
  rintro e wv13 ⟨rfl, hu⟩
  have V13 : Hid (Upd [] wl wv13) := V12.out.trans hu
  have Tx113 : Hid (Tb wv13 x1 #[.int .u8 0, .bool false, .slice none 0 0, .string ⟨#[]⟩, .int .i64 0, .slice none 0 0, .slice none 0 0]) := Tx112.out.mono hu (by simp)
  have Ty113 : Hid (Tb wv13 y1 #[.int .u8 0, .bool false, .slice none 0 0, .string ⟨#[]⟩, .int .i64 0, .slice none 0 0, .slice none 0 0]) := Ty112.out.mono hu (by simp)
  clear hu V12 Tx112 Ty112
  go_wp2_with (first | (refine load_G _ _ rfl _ _ rfl Ty113.out rfl rfl ?_) | fail)
  refine Calls.mono (same_fl _ 0 0 false ⟨#[]⟩) ?_
  rintro e wv14 ⟨rfl, hu⟩
  have V14 : Hid (Upd [] wl wv14) := V13.out.trans hu
  have Tx114 : Hid (Tb wv14 x1 #[.int .u8 0, .bool false, .slice none 0 0, .string ⟨#[]⟩, .int .i64 0, .slice none 0 0, .slice none 0 0]) := Tx113.out.mono hu (by simp)
  have Ty114 : Hid (Tb wv14 y1 #[.int .u8 0, .bool false, .slice none 0 0, .string ⟨#[]⟩, .int .i64 0, .slice none 0 0, .slice none 0 0]) := Ty113.out.mono hu (by simp)
  clear hu V13 Tx113 Ty113
  go_wp2_with fail
  refine Calls.mono (skip_no _ _ (HM1.out _ V14.out)) ?_
  rintro e wa ⟨rfl, hw⟩
  rw [hw]
  clear hw wa
  go_wp2_with fail
  refine Calls.mono (len_no _ _ (HM1.out _ V14.out)) ?_
  rintro e wa ⟨rfl, hw⟩
  rw [hw]
  clear hw wa
  go_wp2_with fail
  refine Calls.mono (all_no _ _ (HM1.out _ V14.out)) ?_
  rintro e wa ⟨rfl, hw⟩
  rw [hw]
  clear hw wa
  go_wp2_with fail
  refine Calls.mono (copy_no _ _ (HM1.out _ V14.out)) ?_
  rintro e wa ⟨rfl, hw⟩
  rw [hw]
  clear hw wa
  go_wp2_with fail
  clear Tx114 Ty114
  rw [rounds_succ]
  go_wp2_with fail
  go_ret
  exact ⟨rfl, UL.out.trans V14.out⟩

end Go.Proofs.Ytmdkhkeljpdbiaa
