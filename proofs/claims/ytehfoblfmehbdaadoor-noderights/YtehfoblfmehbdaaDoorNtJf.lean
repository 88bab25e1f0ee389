/- The reference's Item, kind by kind. -/
import Derived.Test.YtehfoblfmehbdaaDoorNtH
import Derived.Test.YtehfoblfmehbdaaDoorJAM
namespace Go.Proofs.YtehfoblfmehbdaaDoor
open Go.RowKit

set_option maxHeartbeats 2000000 in
set_option maxRecDepth 100000 in
theorem it_10 (d : Nat) (ih : ItS d) (w : World) (a : Option Addr) (c : Nat) (s : ByteArray) (num pos : Int) (K : List Nd) (hK : RowN (NIn w d) w a K) (_hc1 : K.length ≤ c) (_hc2 : c ≤ 9223372036854775807) (hz : nszs K ≤ 20000) (hx : nxzs K ≤ 1000000) (_hs : s.size ≤ 1000000) (hpos : decide (pos < 0) = false) :
    Calls Tryd.prog 25 #[.agg #[.int .u8 10, .string s, .int .i64 num, .int .i64 pos, .slice a K.length c]] w fun e w' => e = .returned (.bool ((s.toList.isEmpty && (num == 0)) && (allF (clB (-1)) 0 K && decide (0 < K.length)))) ∧ Upd [] w w' := by
  have hl : K.length ≤ 20000 := Nat.le_trans (nszs_len K) hz
  have HU0 : Hid (Upd [] w (w.alloc (.cells #[.int .u8 10, .string s, .int .i64 num, .int .i64 pos, .slice a K.length c] 25))) := (Upd.refl [] w).alloc _
  have tb0 : Tb (w.alloc (.cells #[.int .u8 10, .string s, .int .i64 num, .int .i64 pos, .slice a K.length c] 25)) w.heap.size #[.int .u8 10, .string s, .int .i64 num, .int .i64 pos, .slice a K.length c] := Tb.new _ _ _ rfl
  have H_clm : Hid (∀ W, Upd [] w W → Calls Tryd.prog 51 #[.slice a K.length c, .int .i64 0, .int .i64 (-1)] W fun e w' => e = .returned (.bool (allF (clB (-1)) 0 K && decide (0 < K.length))) ∧ Upd [] W w') := fun W hu => rclauses d ih W a c 0 (-1) K (by omega) (hK.imp hu (NIn.mono hu d)) hz hx
  generalize (allF (clB (-1)) 0 K && decide (0 < K.length)) = z_clm at H_clm ⊢
  clear hK hz hx ih
  cases h_e : s.toList.isEmpty with
  | false =>
    go_enter Tryd.func25, Tryd.ntmps25
    go_wp2
    go_ret
    exact ⟨rfl, HU0.out⟩
  | true =>
    cases h_n : (num == 0) with
    | false =>
      go_enter Tryd.func25, Tryd.ntmps25
      go_wp2
      go_ret
      exact ⟨rfl, HU0.out⟩
    | true =>
      go_enter Tryd.func25, Tryd.ntmps25
      go_wp2_with fail
      refine (H_clm.out _ HU0.out).mono ?_
      rintro e w1 ⟨rfl, hu⟩
      have HU1 : Hid (Upd [] w w1) := HU0.out.trans hu
      have tb1 := tb0.mono hu (by simp)
      have e1_1 : w1.cell? ⟨w.heap.size, 1, none⟩ = some (.string s) := tb1.cell 1
      have e2_1 : w1.cell? ⟨w.heap.size, 2, none⟩ = some (.int .i64 num) := tb1.cell 2
      have e4_1 : w1.cell? ⟨w.heap.size, 4, none⟩ = some (.slice a K.length c) := tb1.cell 4
      clear hu
      cases z_clm with
      | false =>
        go_wp2
        go_ret
        exact ⟨rfl, HU1.out⟩
      | true =>
        go_wp2
        go_ret
        exact ⟨rfl, HU1.out⟩

set_option maxHeartbeats 2000000 in
set_option maxRecDepth 100000 in
theorem it_14 (d : Nat) (ih : ItS d) (w : World) (a : Option Addr) (c : Nat) (s : ByteArray) (num pos : Int) (K : List Nd) (hK : RowN (NIn w d) w a K) (hc1 : K.length ≤ c) (hc2 : c ≤ 9223372036854775807) (hz : nszs K ≤ 20000) (hx : nxzs K ≤ 1000000) (_hs : s.size ≤ 1000000) (hpos : decide (pos < 0) = false) :
    Calls Tryd.prog 25 #[.agg #[.int .u8 14, .string s, .int .i64 num, .int .i64 pos, .slice a K.length c]] w fun e w' => e = .returned (.bool (s.toList.isEmpty && (rcB num K))) ∧ Upd [] w w' := by
  have hl : K.length ≤ 20000 := Nat.le_trans (nszs_len K) hz
  have HU0 : Hid (Upd [] w (w.alloc (.cells #[.int .u8 14, .string s, .int .i64 num, .int .i64 pos, .slice a K.length c] 25))) := (Upd.refl [] w).alloc _
  have tb0 : Tb (w.alloc (.cells #[.int .u8 14, .string s, .int .i64 num, .int .i64 pos, .slice a K.length c] 25)) w.heap.size #[.int .u8 14, .string s, .int .i64 num, .int .i64 pos, .slice a K.length c] := Tb.new _ _ _ rfl
  have H_receive : Hid (∀ W, Upd [] w W → Calls Tryd.prog 53 #[.agg #[.int .u8 14, .string s, .int .i64 num, .int .i64 pos, .slice a K.length c]] W fun e w' => e = .returned (.bool (rcB num K)) ∧ Upd [] W w') := fun W hu => rreceive d ih W a c 14 s num pos K (hK.imp hu (NIn.mono hu d)) hc1 hc2 hz hx
  generalize rcB num K = z_receive at H_receive ⊢
  clear hK hz hx ih
  cases h_e : s.toList.isEmpty with
  | false =>
    go_enter Tryd.func25, Tryd.ntmps25
    go_wp2
    go_ret
    exact ⟨rfl, HU0.out⟩
  | true =>
    cases h_n : (num == 0) with
    | false =>
      go_enter Tryd.func25, Tryd.ntmps25
      go_wp2_with (first | (refine load_G _ _ rfl _ _ rfl tb0 rfl rfl ?_) | (refine load_T _ rfl _ rfl _ _ rfl tb0 rfl ?_) | fail)
      refine (H_receive.out _ HU0.out).mono ?_
      rintro e w1 ⟨rfl, hu⟩
      have HU1 : Hid (Upd [] w w1) := HU0.out.trans hu
      have tb1 := tb0.mono hu (by simp)
      have e1_1 : w1.cell? ⟨w.heap.size, 1, none⟩ = some (.string s) := tb1.cell 1
      have e2_1 : w1.cell? ⟨w.heap.size, 2, none⟩ = some (.int .i64 num) := tb1.cell 2
      have e4_1 : w1.cell? ⟨w.heap.size, 4, none⟩ = some (.slice a K.length c) := tb1.cell 4
      clear hu
      cases z_receive with
      | false =>
        go_wp2
        go_ret
        exact ⟨rfl, HU1.out⟩
      | true =>
        go_wp2
        go_ret
        exact ⟨rfl, HU1.out⟩
    | true =>
      go_enter Tryd.func25, Tryd.ntmps25
      go_wp2_with (first | (refine load_G _ _ rfl _ _ rfl tb0 rfl rfl ?_) | (refine load_T _ rfl _ rfl _ _ rfl tb0 rfl ?_) | fail)
      refine (H_receive.out _ HU0.out).mono ?_
      rintro e w1 ⟨rfl, hu⟩
      have HU1 : Hid (Upd [] w w1) := HU0.out.trans hu
      have tb1 := tb0.mono hu (by simp)
      have e1_1 : w1.cell? ⟨w.heap.size, 1, none⟩ = some (.string s) := tb1.cell 1
      have e2_1 : w1.cell? ⟨w.heap.size, 2, none⟩ = some (.int .i64 num) := tb1.cell 2
      have e4_1 : w1.cell? ⟨w.heap.size, 4, none⟩ = some (.slice a K.length c) := tb1.cell 4
      clear hu
      cases z_receive with
      | false =>
        go_wp2
        go_ret
        exact ⟨rfl, HU1.out⟩
      | true =>
        go_wp2
        go_ret
        exact ⟨rfl, HU1.out⟩

end Go.Proofs.YtehfoblfmehbdaaDoor
