/- Parse of the reference, where it is no integer's text. -/
import Derived.Test.YtpeganecbjefoaaDoorRefPa
namespace Go.Proofs.YtpeganecbjefoaaDoor
open Go.RowKit

set_option maxHeartbeats 1000000 in
set_option maxRecDepth 100000 in
theorem rNo_empty (w : World) :
    Calls Tryd.prog 29 #[.string ⟨#[]⟩] w fun e w' => e = .returned (.tuple #[(.agg #[.int .u8 0, .bool false, .slice none 0 0, .string ⟨#[]⟩, .int .i64 0, .slice none 0 0, .slice none 0 0]), .bool false]) ∧ Upd [] w w' := by
  have u0 := (Upd.refl [] w).alloc (.cells #[.int .u8 0, .bool false, .slice none 0 0, .string ⟨#[]⟩, .int .i64 0, .slice none 0 0, .slice none 0 0] 26)
  have t0 := Tb.new w #[.int .u8 0, .bool false, .slice none 0 0, .string ⟨#[]⟩, .int .i64 0, .slice none 0 0, .slice none 0 0] _ rfl
  go_enter Tryd.func29, Tryd.ntmps29
  go_wp2_with (refine store_V _ rfl _ _ rfl _ _ _ _ _ _ _ _ _ _ _ _ _ _ _ rfl rfl t0 rfl ?_; intro w3 hT3 hU3)
  exact ret_Tb Tryd.results29 rfl _ _ _ rfl hT3 rfl rfl ⟨rfl, u0.then hU3 (by simp)⟩

set_option maxHeartbeats 1000000 in
set_option maxRecDepth 100000 in
theorem rNo_minus (s : ByteArray) (w : World) (hss : s.size = 1) (hs0 : 0 < s.size) (hc : (s[0]'hs0).toNat = 45) (hsd : s.extract 1 s.size = ⟨#[]⟩) :
    Calls Tryd.prog 29 #[.string s] w fun e w' => e = .returned (.tuple #[(.agg #[.int .u8 0, .bool false, .slice none 0 0, .string ⟨#[]⟩, .int .i64 0, .slice none 0 0, .slice none 0 0]), .bool false]) ∧ Upd [] w w' := by
  have hl : s.size ≤ 1000 := by omega
  have u0 := (Upd.refl [] w).alloc (.cells #[.int .u8 0, .bool false, .slice none 0 0, .string ⟨#[]⟩, .int .i64 0, .slice none 0 0, .slice none 0 0] 26)
  have t0 := Tb.new w #[.int .u8 0, .bool false, .slice none 0 0, .string ⟨#[]⟩, .int .i64 0, .slice none 0 0, .slice none 0 0] _ rfl
  clear hss
  go_enter Tryd.func29, Tryd.ntmps29
  go_wp2_with (refine store_V _ rfl _ _ rfl _ _ _ _ _ _ _ _ _ _ _ _ _ _ _ rfl rfl t0 rfl ?_; intro w3 hT3 hU3)
  exact ret_Tb Tryd.results29 rfl _ _ _ rfl hT3 rfl rfl ⟨rfl, u0.then hU3 (by simp)⟩

set_option maxHeartbeats 1000000 in
set_option maxRecDepth 100000 in
theorem rNo_longP (d : ByteArray) (w : World) (x0 : Nat) (hl : 400 < d.size) (hl2 : d.size ≤ 1000) (hs0 : 0 < d.size) (hx0 : (d[0]'hs0).toNat = x0) (h45 : x0 ≠ 45) :
    Calls Tryd.prog 29 #[.string d] w fun e w' => e = .returned (.tuple #[(.agg #[.int .u8 0, .bool false, .slice none 0 0, .string ⟨#[]⟩, .int .i64 0, .slice none 0 0, .slice none 0 0]), .bool false]) ∧ Upd [] w w' := by
  have hf45 : ((x0 : Int) == 45) = false := by simp; omega
  have hd0 : ((d.size : Int) == 0) = false := by rw [beq_eq_false_iff_ne]; omega
  have hd4 : decide ((d.size : Int) > 400) = true := by simp; omega
  have u0 := (Upd.refl [] w).alloc (.cells #[.int .u8 0, .bool false, .slice none 0 0, .string ⟨#[]⟩, .int .i64 0, .slice none 0 0, .slice none 0 0] 26)
  have t0 := Tb.new w #[.int .u8 0, .bool false, .slice none 0 0, .string ⟨#[]⟩, .int .i64 0, .slice none 0 0, .slice none 0 0] _ rfl
  go_enter Tryd.func29, Tryd.ntmps29
  go_wp2_with (refine store_V _ rfl _ _ rfl _ _ _ _ _ _ _ _ _ _ _ _ _ _ _ rfl rfl t0 rfl ?_; intro w3 hT3 hU3)
  exact ret_Tb Tryd.results29 rfl _ _ _ rfl hT3 rfl rfl ⟨rfl, u0.then hU3 (by simp)⟩

set_option maxHeartbeats 1000000 in
set_option maxRecDepth 100000 in
theorem rNo_longN (s d : ByteArray) (w : World) (hl : 400 < d.size) (hl2 : d.size ≤ 1000) (hss : s.size ≤ 1000) (hs0 : 0 < s.size) (hc : (s[0]'hs0).toNat = 45) (hsd : s.extract 1 s.size = d) :
    Calls Tryd.prog 29 #[.string s] w fun e w' => e = .returned (.tuple #[(.agg #[.int .u8 0, .bool false, .slice none 0 0, .string ⟨#[]⟩, .int .i64 0, .slice none 0 0, .slice none 0 0]), .bool false]) ∧ Upd [] w w' := by
  have hd0 : ((d.size : Int) == 0) = false := by rw [beq_eq_false_iff_ne]; omega
  have hd4 : decide ((d.size : Int) > 400) = true := by simp; omega
  have u0 := (Upd.refl [] w).alloc (.cells #[.int .u8 0, .bool false, .slice none 0 0, .string ⟨#[]⟩, .int .i64 0, .slice none 0 0, .slice none 0 0] 26)
  have t0 := Tb.new w #[.int .u8 0, .bool false, .slice none 0 0, .string ⟨#[]⟩, .int .i64 0, .slice none 0 0, .slice none 0 0] _ rfl
  go_enter Tryd.func29, Tryd.ntmps29
  go_wp2_with (refine store_V _ rfl _ _ rfl _ _ _ _ _ _ _ _ _ _ _ _ _ _ _ rfl rfl t0 rfl ?_; intro w3 hT3 hU3)
  exact ret_Tb Tryd.results29 rfl _ _ _ rfl hT3 rfl rfl ⟨rfl, u0.then hU3 (by simp)⟩

set_option maxHeartbeats 1000000 in
set_option maxRecDepth 100000 in
theorem rNo_leadP (d : ByteArray) (w : World) (hl : 1 < d.size) (hl2 : d.size ≤ 400) (hs0 : 0 < d.size) (hx0 : (d[0]'hs0).toNat = 48) :
    Calls Tryd.prog 29 #[.string d] w fun e w' => e = .returned (.tuple #[(.agg #[.int .u8 0, .bool false, .slice none 0 0, .string ⟨#[]⟩, .int .i64 0, .slice none 0 0, .slice none 0 0]), .bool false]) ∧ Upd [] w w' := by
  have hd0 : ((d.size : Int) == 0) = false := by rw [beq_eq_false_iff_ne]; omega
  have hd4 : decide ((d.size : Int) > 400) = false := by simp; omega
  have hd1 : decide ((d.size : Int) > 1) = true := by simp; omega
  have u0 := (Upd.refl [] w).alloc (.cells #[.int .u8 0, .bool false, .slice none 0 0, .string ⟨#[]⟩, .int .i64 0, .slice none 0 0, .slice none 0 0] 26)
  have t0 := Tb.new w #[.int .u8 0, .bool false, .slice none 0 0, .string ⟨#[]⟩, .int .i64 0, .slice none 0 0, .slice none 0 0] _ rfl
  go_enter Tryd.func29, Tryd.ntmps29
  go_wp2_with (refine store_V _ rfl _ _ rfl _ _ _ _ _ _ _ _ _ _ _ _ _ _ _ rfl rfl t0 rfl ?_; intro w3 hT3 hU3)
  exact ret_Tb Tryd.results29 rfl _ _ _ rfl hT3 rfl rfl ⟨rfl, u0.then hU3 (by simp)⟩

set_option maxHeartbeats 1000000 in
set_option maxRecDepth 100000 in
theorem rNo_leadN (s d : ByteArray) (w : World) (hl2 : d.size ≤ 400) (hd0' : 0 < d.size) (hx0 : (d[0]'hd0').toNat = 48) (hss : s.size ≤ 1000) (hs0 : 0 < s.size) (hc : (s[0]'hs0).toNat = 45) (hsd : s.extract 1 s.size = d) :
    Calls Tryd.prog 29 #[.string s] w fun e w' => e = .returned (.tuple #[(.agg #[.int .u8 0, .bool false, .slice none 0 0, .string ⟨#[]⟩, .int .i64 0, .slice none 0 0, .slice none 0 0]), .bool false]) ∧ Upd [] w w' := by
  have hd0 : ((d.size : Int) == 0) = false := by rw [beq_eq_false_iff_ne]; omega
  have hd4 : decide ((d.size : Int) > 400) = false := by simp; omega
  have u0 := (Upd.refl [] w).alloc (.cells #[.int .u8 0, .bool false, .slice none 0 0, .string ⟨#[]⟩, .int .i64 0, .slice none 0 0, .slice none 0 0] 26)
  have t0 := Tb.new w #[.int .u8 0, .bool false, .slice none 0 0, .string ⟨#[]⟩, .int .i64 0, .slice none 0 0, .slice none 0 0] _ rfl
  by_cases h1 : 1 < d.size
  · have hd1 : decide ((d.size : Int) > 1) = true := by simp; omega
    go_enter Tryd.func29, Tryd.ntmps29
    go_wp2_with (refine store_V _ rfl _ _ rfl _ _ _ _ _ _ _ _ _ _ _ _ _ _ _ rfl rfl t0 rfl ?_; intro w3 hT3 hU3)
    exact ret_Tb Tryd.results29 rfl _ _ _ rfl hT3 rfl rfl ⟨rfl, u0.then hU3 (by simp)⟩
  · have hd1 : decide ((d.size : Int) > 1) = false := by simp; omega
    go_enter Tryd.func29, Tryd.ntmps29
    go_wp2_with (refine store_V _ rfl _ _ rfl _ _ _ _ _ _ _ _ _ _ _ _ _ _ _ rfl rfl t0 rfl ?_; intro w3 hT3 hU3)
    exact ret_Tb Tryd.results29 rfl _ _ _ rfl hT3 rfl rfl ⟨rfl, u0.then hU3 (by simp)⟩

end Go.Proofs.YtpeganecbjefoaaDoor
