/- The reference's Item, kind by kind. -/
import Derived.Test.YtehfoblfmehbdaaDoorNtH
import Derived.Test.YtehfoblfmehbdaaDoorJAM
namespace Go.Proofs.YtehfoblfmehbdaaDoor
open Go.RowKit

set_option maxHeartbeats 2000000 in
set_option maxRecDepth 100000 in
theorem it_1 (d : Nat) (_ih : ItS d) (w : World) (a : Option Addr) (c : Nat) (s : ByteArray) (num pos : Int) (K : List Nd) (_hK : RowN (NIn w d) w a K) (_hc1 : K.length ≤ c) (_hc2 : c ≤ 9223372036854775807) (hz : nszs K ≤ 20000) (_hx : nxzs K ≤ 1000000) (hs : s.size ≤ 1000000) (hpos : decide (pos < 0) = false) :
    Calls Tryd.prog 25 #[.agg #[.int .u8 1, .string s, .int .i64 num, .int .i64 pos, .slice a K.length c]] w fun e w' => e = .returned (.bool ((numS s) && ((num == 0) && ((K.length : Int) == 0)))) ∧ Upd [] w w' := by
  have hl : K.length ≤ 20000 := Nat.le_trans (nszs_len K) hz
  have HU0 : Hid (Upd [] w (w.alloc (.cells #[.int .u8 1, .string s, .int .i64 num, .int .i64 pos, .slice a K.length c] 25))) := (Upd.refl [] w).alloc _
  have tb0 : Tb (w.alloc (.cells #[.int .u8 1, .string s, .int .i64 num, .int .i64 pos, .slice a K.length c] 25)) w.heap.size #[.int .u8 1, .string s, .int .i64 num, .int .i64 pos, .slice a K.length c] := Tb.new _ _ _ rfl
  have H_digits : Hid (∀ W, Calls Tryd.prog 46 #[.string s] W fun e w' => e = .returned (.bool (numS s)) ∧ w' = W) := fun W => rdigits s W (by omega)
  generalize numS s = z_digits at H_digits ⊢
  clear _hK hz _hx _ih
  cases h_e : s.toList.isEmpty with
  | false =>
    cases h_n : (num == 0) with
    | false =>
      go_enter Tryd.func25, Tryd.ntmps25
      go_wp2_with fail
      refine (H_digits.out _).mono ?_
      rintro e w1 ⟨rfl, rfl⟩
      cases z_digits with
      | false =>
        go_wp2
        go_ret
        exact ⟨rfl, HU0.out⟩
      | true =>
        go_wp2
        go_ret
        exact ⟨rfl, HU0.out⟩
    | true =>
      cases h_l0 : ((K.length : Int) == 0) with
      | false =>
        go_enter Tryd.func25, Tryd.ntmps25
        go_wp2_with fail
        refine (H_digits.out _).mono ?_
        rintro e w1 ⟨rfl, rfl⟩
        cases z_digits with
        | false =>
          go_wp2
          go_ret
          exact ⟨rfl, HU0.out⟩
        | true =>
          go_wp2
          go_ret
          exact ⟨rfl, HU0.out⟩
      | true =>
        go_enter Tryd.func25, Tryd.ntmps25
        go_wp2_with fail
        refine (H_digits.out _).mono ?_
        rintro e w1 ⟨rfl, rfl⟩
        cases z_digits with
        | false =>
          go_wp2
          go_ret
          exact ⟨rfl, HU0.out⟩
        | true =>
          go_wp2
          go_ret
          exact ⟨rfl, HU0.out⟩
  | true =>
    cases h_n : (num == 0) with
    | false =>
      go_enter Tryd.func25, Tryd.ntmps25
      go_wp2_with fail
      refine (H_digits.out _).mono ?_
      rintro e w1 ⟨rfl, rfl⟩
      cases z_digits with
      | false =>
        go_wp2
        go_ret
        exact ⟨rfl, HU0.out⟩
      | true =>
        go_wp2
        go_ret
        exact ⟨rfl, HU0.out⟩
    | true =>
      cases h_l0 : ((K.length : Int) == 0) with
      | false =>
        go_enter Tryd.func25, Tryd.ntmps25
        go_wp2_with fail
        refine (H_digits.out _).mono ?_
        rintro e w1 ⟨rfl, rfl⟩
        cases z_digits with
        | false =>
          go_wp2
          go_ret
          exact ⟨rfl, HU0.out⟩
        | true =>
          go_wp2
          go_ret
          exact ⟨rfl, HU0.out⟩
      | true =>
        go_enter Tryd.func25, Tryd.ntmps25
        go_wp2_with fail
        refine (H_digits.out _).mono ?_
        rintro e w1 ⟨rfl, rfl⟩
        cases z_digits with
        | false =>
          go_wp2
          go_ret
          exact ⟨rfl, HU0.out⟩
        | true =>
          go_wp2
          go_ret
          exact ⟨rfl, HU0.out⟩

set_option maxHeartbeats 2000000 in
set_option maxRecDepth 100000 in
theorem it_3 (d : Nat) (_ih : ItS d) (w : World) (a : Option Addr) (c : Nat) (s : ByteArray) (num pos : Int) (K : List Nd) (_hK : RowN (NIn w d) w a K) (_hc1 : K.length ≤ c) (_hc2 : c ≤ 9223372036854775807) (hz : nszs K ≤ 20000) (_hx : nxzs K ≤ 1000000) (hs : s.size ≤ 1000000) (hpos : decide (pos < 0) = false) :
    Calls Tryd.prog 25 #[.agg #[.int .u8 3, .string s, .int .i64 num, .int .i64 pos, .slice a K.length c]] w fun e w' => e = .returned (.bool ((varS s) && ((num == 0) && ((K.length : Int) == 0)))) ∧ Upd [] w w' := by
  have hl : K.length ≤ 20000 := Nat.le_trans (nszs_len K) hz
  have HU0 : Hid (Upd [] w (w.alloc (.cells #[.int .u8 3, .string s, .int .i64 num, .int .i64 pos, .slice a K.length c] 25))) := (Upd.refl [] w).alloc _
  have tb0 : Tb (w.alloc (.cells #[.int .u8 3, .string s, .int .i64 num, .int .i64 pos, .slice a K.length c] 25)) w.heap.size #[.int .u8 3, .string s, .int .i64 num, .int .i64 pos, .slice a K.length c] := Tb.new _ _ _ rfl
  have H_variable : Hid (∀ W, Calls Tryd.prog 47 #[.string s] W fun e w' => e = .returned (.bool (varS s)) ∧ w' = W) := fun W => rvariable s W (by omega)
  generalize varS s = z_variable at H_variable ⊢
  clear _hK hz _hx _ih
  cases h_e : s.toList.isEmpty with
  | false =>
    cases h_n : (num == 0) with
    | false =>
      go_enter Tryd.func25, Tryd.ntmps25
      go_wp2_with fail
      refine (H_variable.out _).mono ?_
      rintro e w1 ⟨rfl, rfl⟩
      cases z_variable with
      | false =>
        go_wp2
        go_ret
        exact ⟨rfl, HU0.out⟩
      | true =>
        go_wp2
        go_ret
        exact ⟨rfl, HU0.out⟩
    | true =>
      cases h_l0 : ((K.length : Int) == 0) with
      | false =>
        go_enter Tryd.func25, Tryd.ntmps25
        go_wp2_with fail
        refine (H_variable.out _).mono ?_
        rintro e w1 ⟨rfl, rfl⟩
        cases z_variable with
        | false =>
          go_wp2
          go_ret
          exact ⟨rfl, HU0.out⟩
        | true =>
          go_wp2
          go_ret
          exact ⟨rfl, HU0.out⟩
      | true =>
        go_enter Tryd.func25, Tryd.ntmps25
        go_wp2_with fail
        refine (H_variable.out _).mono ?_
        rintro e w1 ⟨rfl, rfl⟩
        cases z_variable with
        | false =>
          go_wp2
          go_ret
          exact ⟨rfl, HU0.out⟩
        | true =>
          go_wp2
          go_ret
          exact ⟨rfl, HU0.out⟩
  | true =>
    cases h_n : (num == 0) with
    | false =>
      go_enter Tryd.func25, Tryd.ntmps25
      go_wp2_with fail
      refine (H_variable.out _).mono ?_
      rintro e w1 ⟨rfl, rfl⟩
      cases z_variable with
      | false =>
        go_wp2
        go_ret
        exact ⟨rfl, HU0.out⟩
      | true =>
        go_wp2
        go_ret
        exact ⟨rfl, HU0.out⟩
    | true =>
      cases h_l0 : ((K.length : Int) == 0) with
      | false =>
        go_enter Tryd.func25, Tryd.ntmps25
        go_wp2_with fail
        refine (H_variable.out _).mono ?_
        rintro e w1 ⟨rfl, rfl⟩
        cases z_variable with
        | false =>
          go_wp2
          go_ret
          exact ⟨rfl, HU0.out⟩
        | true =>
          go_wp2
          go_ret
          exact ⟨rfl, HU0.out⟩
      | true =>
        go_enter Tryd.func25, Tryd.ntmps25
        go_wp2_with fail
        refine (H_variable.out _).mono ?_
        rintro e w1 ⟨rfl, rfl⟩
        cases z_variable with
        | false =>
          go_wp2
          go_ret
          exact ⟨rfl, HU0.out⟩
        | true =>
          go_wp2
          go_ret
          exact ⟨rfl, HU0.out⟩

end Go.Proofs.YtehfoblfmehbdaaDoor
