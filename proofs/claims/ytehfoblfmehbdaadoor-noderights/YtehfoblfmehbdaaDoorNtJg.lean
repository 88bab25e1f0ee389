/- The reference's Item, kind by kind. -/
import Derived.Test.YtehfoblfmehbdaaDoorNtH
import Derived.Test.YtehfoblfmehbdaaDoorJAM
namespace Go.Proofs.YtehfoblfmehbdaaDoor
open Go.RowKit

set_option maxHeartbeats 2000000 in
set_option maxRecDepth 100000 in
theorem it_16 (d : Nat) (ih : ItS d) (w : World) (a : Option Addr) (c : Nat) (s : ByteArray) (num pos : Int) (K : List Nd) (hK : RowN (NIn w d) w a K) (_hc1 : K.length ≤ c) (_hc2 : c ≤ 9223372036854775807) (hz : nszs K ≤ 20000) (hx : nxzs K ≤ 1000000) (_hs : s.size ≤ 1000000) (hpos : decide (pos < 0) = false) :
    Calls Tryd.prog 25 #[.agg #[.int .u8 16, .string s, .int .i64 num, .int .i64 pos, .slice a K.length c]] w fun e w' => e = .returned (.bool ((s.toList.isEmpty && (num == 0)) && (ctB K))) ∧ Upd [] w w' := by
  have hl : K.length ≤ 20000 := Nat.le_trans (nszs_len K) hz
  have HU0 : Hid (Upd [] w (w.alloc (.cells #[.int .u8 16, .string s, .int .i64 num, .int .i64 pos, .slice a K.length c] 25))) := (Upd.refl [] w).alloc _
  have tb0 : Tb (w.alloc (.cells #[.int .u8 16, .string s, .int .i64 num, .int .i64 pos, .slice a K.length c] 25)) w.heap.size #[.int .u8 16, .string s, .int .i64 num, .int .i64 pos, .slice a K.length c] := Tb.new _ _ _ rfl
  have H_caught : Hid (∀ W, Upd [] w W → Calls Tryd.prog 54 #[.slice a K.length c] W fun e w' => e = .returned (.bool (ctB K)) ∧ Upd [] W w') := fun W hu => rcaught d ih W a c K (hK.imp hu (NIn.mono hu d)) hz hx
  generalize ctB K = z_caught at H_caught ⊢
  clear hK hz hx ih
  cases h_e : s.toList.isEmpty with
  | false =>
    go_enter Tryd.func25, Tryd.ntmps25
    go_wp2
    go_ret
    exact ⟨rfl, HU0.out⟩
  | true =>
    cases h_n : (num == 0) with
    | false =>
      go_enter Tryd.func25, Tryd.ntmps25
      go_wp2
      go_ret
      exact ⟨rfl, HU0.out⟩
    | true =>
      go_enter Tryd.func25, Tryd.ntmps25
      go_wp2_with fail
      refine (H_caught.out _ HU0.out).mono ?_
      rintro e w1 ⟨rfl, hu⟩
      have HU1 : Hid (Upd [] w w1) := HU0.out.trans hu
      have tb1 := tb0.mono hu (by simp)
      have e1_1 : w1.cell? ⟨w.heap.size, 1, none⟩ = some (.string s) := tb1.cell 1
      have e2_1 : w1.cell? ⟨w.heap.size, 2, none⟩ = some (.int .i64 num) := tb1.cell 2
      have e4_1 : w1.cell? ⟨w.heap.size, 4, none⟩ = some (.slice a K.length c) := tb1.cell 4
      clear hu
      cases z_caught with
      | false =>
        go_wp2
        go_ret
        exact ⟨rfl, HU1.out⟩
      | true =>
        go_wp2
        go_ret
        exact ⟨rfl, HU1.out⟩

set_option maxHeartbeats 2000000 in
set_option maxRecDepth 100000 in
theorem it_17 (d : Nat) (ih : ItS d) (w : World) (a : Option Addr) (c : Nat) (s : ByteArray) (num pos : Int) (K : List Nd) (hK : RowN (NIn w d) w a K) (_hc1 : K.length ≤ c) (_hc2 : c ≤ 9223372036854775807) (hz : nszs K ≤ 20000) (hx : nxzs K ≤ 1000000) (_hs : s.size ≤ 1000000) (hpos : decide (pos < 0) = false) :
    Calls Tryd.prog 25 #[.agg #[.int .u8 17, .string s, .int .i64 num, .int .i64 pos, .slice a K.length c]] w fun e w' => e = .returned (.bool ((s.toList.isEmpty && (num == 0)) && (decide (∀ i (h : i < K.length), cmP i K[i] = true) && decide (2 ≤ K.length)))) ∧ Upd [] w w' := by
  have hl : K.length ≤ 20000 := Nat.le_trans (nszs_len K) hz
  have HU0 : Hid (Upd [] w (w.alloc (.cells #[.int .u8 17, .string s, .int .i64 num, .int .i64 pos, .slice a K.length c] 25))) := (Upd.refl [] w).alloc _
  have tb0 : Tb (w.alloc (.cells #[.int .u8 17, .string s, .int .i64 num, .int .i64 pos, .slice a K.length c] 25)) w.heap.size #[.int .u8 17, .string s, .int .i64 num, .int .i64 pos, .slice a K.length c] := Tb.new _ _ _ rfl
  have H_comp : Hid (∀ W, Upd [] w W → Calls Tryd.prog 55 #[.slice a K.length c] W fun e w' => e = .returned (.bool (decide (∀ i (h : i < K.length), cmP i K[i] = true) && decide (2 ≤ K.length))) ∧ Upd [] W w') := fun W hu => rcomp d ih W a c K (hK.imp hu (NIn.mono hu d)) hz hx
  generalize (decide (∀ i (h : i < K.length), cmP i K[i] = true) && decide (2 ≤ K.length)) = z_comp at H_comp ⊢
  clear hK hz hx ih
  cases h_e : s.toList.isEmpty with
  | false =>
    go_enter Tryd.func25, Tryd.ntmps25
    go_wp2
    go_ret
    exact ⟨rfl, HU0.out⟩
  | true =>
    cases h_n : (num == 0) with
    | false =>
      go_enter Tryd.func25, Tryd.ntmps25
      go_wp2
      go_ret
      exact ⟨rfl, HU0.out⟩
    | true =>
      go_enter Tryd.func25, Tryd.ntmps25
      go_wp2_with fail
      refine (H_comp.out _ HU0.out).mono ?_
      rintro e w1 ⟨rfl, hu⟩
      have HU1 : Hid (Upd [] w w1) := HU0.out.trans hu
      have tb1 := tb0.mono hu (by simp)
      have e1_1 : w1.cell? ⟨w.heap.size, 1, none⟩ = some (.string s) := tb1.cell 1
      have e2_1 : w1.cell? ⟨w.heap.size, 2, none⟩ = some (.int .i64 num) := tb1.cell 2
      have e4_1 : w1.cell? ⟨w.heap.size, 4, none⟩ = some (.slice a K.length c) := tb1.cell 4
      clear hu
      cases z_comp with
      | false =>
        go_wp2
        go_ret
        exact ⟨rfl, HU1.out⟩
      | true =>
        go_wp2
        go_ret
        exact ⟨rfl, HU1.out⟩

set_option maxHeartbeats 2000000 in
set_option maxRecDepth 100000 in
theorem it_19 (d : Nat) (ih : ItS d) (w : World) (a : Option Addr) (c : Nat) (s : ByteArray) (num pos : Int) (K : List Nd) (hK : RowN (NIn w d) w a K) (hc1 : K.length ≤ c) (hc2 : c ≤ 9223372036854775807) (hz : nszs K ≤ 20000) (hx : nxzs K ≤ 1000000) (hs : s.size ≤ 1000000) (hpos : decide (pos < 0) = false) :
    Calls Tryd.prog 25 #[.agg #[.int .u8 19, .string s, .int .i64 num, .int .i64 pos, .slice a K.length c]] w fun e w' => e = .returned (.bool ((blkB 1 (.mk 19 s num pos K)))) ∧ Upd [] w w' := by
  have hl : K.length ≤ 20000 := Nat.le_trans (nszs_len K) hz
  have HU0 : Hid (Upd [] w (w.alloc (.cells #[.int .u8 19, .string s, .int .i64 num, .int .i64 pos, .slice a K.length c] 25))) := (Upd.refl [] w).alloc _
  have tb0 : Tb (w.alloc (.cells #[.int .u8 19, .string s, .int .i64 num, .int .i64 pos, .slice a K.length c] 25)) w.heap.size #[.int .u8 19, .string s, .int .i64 num, .int .i64 pos, .slice a K.length c] := Tb.new _ _ _ rfl
  have H_block : Hid (∀ W, Upd [] w W → Calls Tryd.prog 56 #[.agg #[.int .u8 19, .string s, .int .i64 num, .int .i64 pos, .slice a K.length c], .int .i64 1] W fun e w' => e = .returned (.bool (blkB 1 (.mk 19 s num pos K))) ∧ Upd [] W w') := fun W hu => rblock d ih W _ (.mk 19 s num pos K) 1 ⟨a, c, rfl, hK.imp hu (NIn.mono hu d), hc1, hc2⟩ (by simpa only [nsz] using hz) (by simp only [nxz]; omega)
  generalize blkB 1 (.mk 19 s num pos K) = z_block at H_block ⊢
  clear hK hz hx ih
  cases h_e : s.toList.isEmpty with
  | false =>
    go_enter Tryd.func25, Tryd.ntmps25
    go_wp2_with (first | (refine load_G _ _ rfl _ _ rfl tb0 rfl rfl ?_) | (refine load_T _ rfl _ rfl _ _ rfl tb0 rfl ?_) | fail)
    refine (H_block.out _ HU0.out).mono ?_
    rintro e w1 ⟨rfl, hu⟩
    have HU1 : Hid (Upd [] w w1) := HU0.out.trans hu
    have tb1 := tb0.mono hu (by simp)
    have e1_1 : w1.cell? ⟨w.heap.size, 1, none⟩ = some (.string s) := tb1.cell 1
    have e2_1 : w1.cell? ⟨w.heap.size, 2, none⟩ = some (.int .i64 num) := tb1.cell 2
    have e4_1 : w1.cell? ⟨w.heap.size, 4, none⟩ = some (.slice a K.length c) := tb1.cell 4
    clear hu
    cases z_block with
    | false =>
      go_wp2
      go_ret
      exact ⟨rfl, HU1.out⟩
    | true =>
      go_wp2
      go_ret
      exact ⟨rfl, HU1.out⟩
  | true =>
    cases h_n : (num == 0) with
    | false =>
      go_enter Tryd.func25, Tryd.ntmps25
      go_wp2_with (first | (refine load_G _ _ rfl _ _ rfl tb0 rfl rfl ?_) | (refine load_T _ rfl _ rfl _ _ rfl tb0 rfl ?_) | fail)
      refine (H_block.out _ HU0.out).mono ?_
      rintro e w1 ⟨rfl, hu⟩
      have HU1 : Hid (Upd [] w w1) := HU0.out.trans hu
      have tb1 := tb0.mono hu (by simp)
      have e1_1 : w1.cell? ⟨w.heap.size, 1, none⟩ = some (.string s) := tb1.cell 1
      have e2_1 : w1.cell? ⟨w.heap.size, 2, none⟩ = some (.int .i64 num) := tb1.cell 2
      have e4_1 : w1.cell? ⟨w.heap.size, 4, none⟩ = some (.slice a K.length c) := tb1.cell 4
      clear hu
      cases z_block with
      | false =>
        go_wp2
        go_ret
        exact ⟨rfl, HU1.out⟩
      | true =>
        go_wp2
        go_ret
        exact ⟨rfl, HU1.out⟩
    | true =>
      go_enter Tryd.func25, Tryd.ntmps25
      go_wp2_with (first | (refine load_G _ _ rfl _ _ rfl tb0 rfl rfl ?_) | (refine load_T _ rfl _ rfl _ _ rfl tb0 rfl ?_) | fail)
      refine (H_block.out _ HU0.out).mono ?_
      rintro e w1 ⟨rfl, hu⟩
      have HU1 : Hid (Upd [] w w1) := HU0.out.trans hu
      have tb1 := tb0.mono hu (by simp)
      have e1_1 : w1.cell? ⟨w.heap.size, 1, none⟩ = some (.string s) := tb1.cell 1
      have e2_1 : w1.cell? ⟨w.heap.size, 2, none⟩ = some (.int .i64 num) := tb1.cell 2
      have e4_1 : w1.cell? ⟨w.heap.size, 4, none⟩ = some (.slice a K.length c) := tb1.cell 4
      clear hu
      cases z_block with
      | false =>
        go_wp2
        go_ret
        exact ⟨rfl, HU1.out⟩
      | true =>
        go_wp2
        go_ret
        exact ⟨rfl, HU1.out⟩

end Go.Proofs.YtehfoblfmehbdaaDoor
