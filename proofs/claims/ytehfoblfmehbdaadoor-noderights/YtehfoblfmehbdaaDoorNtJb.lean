/- The reference's Item, kind by kind. -/
import Derived.Test.YtehfoblfmehbdaaDoorNtH
import Derived.Test.YtehfoblfmehbdaaDoorJAM
namespace Go.Proofs.YtehfoblfmehbdaaDoor
open Go.RowKit

set_option maxHeartbeats 2000000 in
set_option maxRecDepth 100000 in
theorem it_2 (d : Nat) (_ih : ItS d) (w : World) (a : Option Addr) (c : Nat) (s : ByteArray) (num pos : Int) (K : List Nd) (_hK : RowN (NIn w d) w a K) (_hc1 : K.length ≤ c) (_hc2 : c ≤ 9223372036854775807) (hz : nszs K ≤ 20000) (_hx : nxzs K ≤ 1000000) (_hs : s.size ≤ 1000000) (hpos : decide (pos < 0) = false) :
    Calls Tryd.prog 25 #[.agg #[.int .u8 2, .string s, .int .i64 num, .int .i64 pos, .slice a K.length c]] w fun e w' => e = .returned (.bool (decide ((s.size : Int) ≤ 40) && ((num == 0) && ((K.length : Int) == 0)))) ∧ Upd [] w w' := by
  have hl : K.length ≤ 20000 := Nat.le_trans (nszs_len K) hz
  have HU0 : Hid (Upd [] w (w.alloc (.cells #[.int .u8 2, .string s, .int .i64 num, .int .i64 pos, .slice a K.length c] 25))) := (Upd.refl [] w).alloc _
  have tb0 : Tb (w.alloc (.cells #[.int .u8 2, .string s, .int .i64 num, .int .i64 pos, .slice a K.length c] 25)) w.heap.size #[.int .u8 2, .string s, .int .i64 num, .int .i64 pos, .slice a K.length c] := Tb.new _ _ _ rfl
  clear _hK hz _hx _ih
  cases h_e : s.toList.isEmpty with
  | false =>
    cases h_s40 : decide ((s.size : Int) ≤ 40) with
    | false =>
      go_enter Tryd.func25, Tryd.ntmps25
      go_wp2
      go_ret
      exact ⟨rfl, HU0.out⟩
    | true =>
      cases h_n : (num == 0) with
      | false =>
        go_enter Tryd.func25, Tryd.ntmps25
        go_wp2
        go_ret
        exact ⟨rfl, HU0.out⟩
      | true =>
        cases h_l0 : ((K.length : Int) == 0) with
        | false =>
          go_enter Tryd.func25, Tryd.ntmps25
          go_wp2
          go_ret
          exact ⟨rfl, HU0.out⟩
        | true =>
          go_enter Tryd.func25, Tryd.ntmps25
          go_wp2
          go_ret
          exact ⟨rfl, HU0.out⟩
  | true =>
    cases h_n : (num == 0) with
    | false =>
      cases h_s40 : decide ((s.size : Int) ≤ 40) with
      | false =>
        go_enter Tryd.func25, Tryd.ntmps25
        go_wp2
        go_ret
        exact ⟨rfl, HU0.out⟩
      | true =>
        go_enter Tryd.func25, Tryd.ntmps25
        go_wp2
        go_ret
        exact ⟨rfl, HU0.out⟩
    | true =>
      cases h_s40 : decide ((s.size : Int) ≤ 40) with
      | false =>
        go_enter Tryd.func25, Tryd.ntmps25
        go_wp2
        go_ret
        exact ⟨rfl, HU0.out⟩
      | true =>
        cases h_l0 : ((K.length : Int) == 0) with
        | false =>
          go_enter Tryd.func25, Tryd.ntmps25
          go_wp2
          go_ret
          exact ⟨rfl, HU0.out⟩
        | true =>
          go_enter Tryd.func25, Tryd.ntmps25
          go_wp2
          go_ret
          exact ⟨rfl, HU0.out⟩

set_option maxHeartbeats 2000000 in
set_option maxRecDepth 100000 in
theorem it_4 (d : Nat) (_ih : ItS d) (w : World) (a : Option Addr) (c : Nat) (s : ByteArray) (num pos : Int) (K : List Nd) (_hK : RowN (NIn w d) w a K) (_hc1 : K.length ≤ c) (_hc2 : c ≤ 9223372036854775807) (hz : nszs K ≤ 20000) (_hx : nxzs K ≤ 1000000) (_hs : s.size ≤ 1000000) (hpos : decide (pos < 0) = false) :
    Calls Tryd.prog 25 #[.agg #[.int .u8 4, .string s, .int .i64 num, .int .i64 pos, .slice a K.length c]] w fun e w' => e = .returned (.bool (decide ((s.size : Int) ≤ 400) && ((num == 0) && ((K.length : Int) == 0)))) ∧ Upd [] w w' := by
  have hl : K.length ≤ 20000 := Nat.le_trans (nszs_len K) hz
  have HU0 : Hid (Upd [] w (w.alloc (.cells #[.int .u8 4, .string s, .int .i64 num, .int .i64 pos, .slice a K.length c] 25))) := (Upd.refl [] w).alloc _
  have tb0 : Tb (w.alloc (.cells #[.int .u8 4, .string s, .int .i64 num, .int .i64 pos, .slice a K.length c] 25)) w.heap.size #[.int .u8 4, .string s, .int .i64 num, .int .i64 pos, .slice a K.length c] := Tb.new _ _ _ rfl
  clear _hK hz _hx _ih
  cases h_e : s.toList.isEmpty with
  | false =>
    cases h_s400 : decide ((s.size : Int) ≤ 400) with
    | false =>
      go_enter Tryd.func25, Tryd.ntmps25
      go_wp2
      go_ret
      exact ⟨rfl, HU0.out⟩
    | true =>
      cases h_n : (num == 0) with
      | false =>
        go_enter Tryd.func25, Tryd.ntmps25
        go_wp2
        go_ret
        exact ⟨rfl, HU0.out⟩
      | true =>
        cases h_l0 : ((K.length : Int) == 0) with
        | false =>
          go_enter Tryd.func25, Tryd.ntmps25
          go_wp2
          go_ret
          exact ⟨rfl, HU0.out⟩
        | true =>
          go_enter Tryd.func25, Tryd.ntmps25
          go_wp2
          go_ret
          exact ⟨rfl, HU0.out⟩
  | true =>
    cases h_n : (num == 0) with
    | false =>
      cases h_s400 : decide ((s.size : Int) ≤ 400) with
      | false =>
        go_enter Tryd.func25, Tryd.ntmps25
        go_wp2
        go_ret
        exact ⟨rfl, HU0.out⟩
      | true =>
        go_enter Tryd.func25, Tryd.ntmps25
        go_wp2
        go_ret
        exact ⟨rfl, HU0.out⟩
    | true =>
      cases h_s400 : decide ((s.size : Int) ≤ 400) with
      | false =>
        go_enter Tryd.func25, Tryd.ntmps25
        go_wp2
        go_ret
        exact ⟨rfl, HU0.out⟩
      | true =>
        cases h_l0 : ((K.length : Int) == 0) with
        | false =>
          go_enter Tryd.func25, Tryd.ntmps25
          go_wp2
          go_ret
          exact ⟨rfl, HU0.out⟩
        | true =>
          go_enter Tryd.func25, Tryd.ntmps25
          go_wp2
          go_ret
          exact ⟨rfl, HU0.out⟩

set_option maxHeartbeats 2000000 in
set_option maxRecDepth 100000 in
theorem it_11 (d : Nat) (_ih : ItS d) (w : World) (a : Option Addr) (c : Nat) (s : ByteArray) (num pos : Int) (K : List Nd) (_hK : RowN (NIn w d) w a K) (_hc1 : K.length ≤ c) (_hc2 : c ≤ 9223372036854775807) (hz : nszs K ≤ 20000) (_hx : nxzs K ≤ 1000000) (_hs : s.size ≤ 1000000) (hpos : decide (pos < 0) = false) :
    Calls Tryd.prog 25 #[.agg #[.int .u8 11, .string s, .int .i64 num, .int .i64 pos, .slice a K.length c]] w fun e w' => e = .returned (.bool (decide ((s.size : Int) ≤ 40) && (decide ((0 : Int) ≤ num) && (decide (num ≤ (255 : Int)) && ((K.length : Int) == 0))))) ∧ Upd [] w w' := by
  have hl : K.length ≤ 20000 := Nat.le_trans (nszs_len K) hz
  have HU0 : Hid (Upd [] w (w.alloc (.cells #[.int .u8 11, .string s, .int .i64 num, .int .i64 pos, .slice a K.length c] 25))) := (Upd.refl [] w).alloc _
  have tb0 : Tb (w.alloc (.cells #[.int .u8 11, .string s, .int .i64 num, .int .i64 pos, .slice a K.length c] 25)) w.heap.size #[.int .u8 11, .string s, .int .i64 num, .int .i64 pos, .slice a K.length c] := Tb.new _ _ _ rfl
  clear _hK hz _hx _ih
  cases h_e : s.toList.isEmpty with
  | false =>
    cases h_s40 : decide ((s.size : Int) ≤ 40) with
    | false =>
      go_enter Tryd.func25, Tryd.ntmps25
      go_wp2
      go_ret
      exact ⟨rfl, HU0.out⟩
    | true =>
      cases h_p0 : decide ((0 : Int) ≤ num) with
      | false =>
        go_enter Tryd.func25, Tryd.ntmps25
        go_wp2
        go_ret
        exact ⟨rfl, HU0.out⟩
      | true =>
        cases h_p255 : decide (num ≤ (255 : Int)) with
        | false =>
          go_enter Tryd.func25, Tryd.ntmps25
          go_wp2
          go_ret
          exact ⟨rfl, HU0.out⟩
        | true =>
          cases h_l0 : ((K.length : Int) == 0) with
          | false =>
            go_enter Tryd.func25, Tryd.ntmps25
            go_wp2
            go_ret
            exact ⟨rfl, HU0.out⟩
          | true =>
            go_enter Tryd.func25, Tryd.ntmps25
            go_wp2
            go_ret
            exact ⟨rfl, HU0.out⟩
  | true =>
    cases h_n : (num == 0) with
    | false =>
      cases h_s40 : decide ((s.size : Int) ≤ 40) with
      | false =>
        go_enter Tryd.func25, Tryd.ntmps25
        go_wp2
        go_ret
        exact ⟨rfl, HU0.out⟩
      | true =>
        cases h_p0 : decide ((0 : Int) ≤ num) with
        | false =>
          go_enter Tryd.func25, Tryd.ntmps25
          go_wp2
          go_ret
          exact ⟨rfl, HU0.out⟩
        | true =>
          cases h_p255 : decide (num ≤ (255 : Int)) with
          | false =>
            go_enter Tryd.func25, Tryd.ntmps25
            go_wp2
            go_ret
            exact ⟨rfl, HU0.out⟩
          | true =>
            cases h_l0 : ((K.length : Int) == 0) with
            | false =>
              go_enter Tryd.func25, Tryd.ntmps25
              go_wp2
              go_ret
              exact ⟨rfl, HU0.out⟩
            | true =>
              go_enter Tryd.func25, Tryd.ntmps25
              go_wp2
              go_ret
              exact ⟨rfl, HU0.out⟩
    | true =>
      cases h_s40 : decide ((s.size : Int) ≤ 40) with
      | false =>
        go_enter Tryd.func25, Tryd.ntmps25
        go_wp2
        go_ret
        exact ⟨rfl, HU0.out⟩
      | true =>
        cases h_p0 : decide ((0 : Int) ≤ num) with
        | false =>
          go_enter Tryd.func25, Tryd.ntmps25
          go_wp2
          go_ret
          exact ⟨rfl, HU0.out⟩
        | true =>
          cases h_p255 : decide (num ≤ (255 : Int)) with
          | false =>
            go_enter Tryd.func25, Tryd.ntmps25
            go_wp2
            go_ret
            exact ⟨rfl, HU0.out⟩
          | true =>
            cases h_l0 : ((K.length : Int) == 0) with
            | false =>
              go_enter Tryd.func25, Tryd.ntmps25
              go_wp2
              go_ret
              exact ⟨rfl, HU0.out⟩
            | true =>
              go_enter Tryd.func25, Tryd.ntmps25
              go_wp2
              go_ret
              exact ⟨rfl, HU0.out⟩

end Go.Proofs.YtehfoblfmehbdaaDoor
