/- An atom's bytes, as they are written: isLower, inName, byteText, by their contracts. -/
import Derived.Test.YtaoipmmeialpnaaGreatDoorJAB
import Derived.Test.YtaoipmmeialpnaaGreatDoorSizD
namespace Go.Proofs.YtaoipmmeialpnaaGreatDoor
open Go.RowKit

/-- A row of bytes as a string; a string's bytes. -/
def str (l : List UInt8) : ByteArray := ⟨l.toArray⟩
def byt (s : ByteArray) : List UInt8 := s.data.toList
theorem byt_str (l : List UInt8) : byt (str l) = l := rfl
theorem str_byt (s : ByteArray) : str (byt s) = s := by show ByteArray.mk s.data.toList.toArray = s; rw [Array.toArray_toList]
theorem byt_len (s : ByteArray) : (byt s).length = s.size := by show s.data.toList.length = s.data.size; rw [Array.length_toList]

def lowB (c : UInt8) : Bool := decide ((97 : Int) ≤ c.toNat) && decide ((c.toNat : Int) ≤ 122)
def nameB (c : UInt8) : Bool := lowB c || (decide ((65 : Int) ≤ c.toNat) && decide ((c.toNat : Int) ≤ 90)) || (decide ((48 : Int) ≤ c.toNat) && decide ((c.toNat : Int) ≤ 57)) || (c.toNat : Int) == 95 || (c.toNat : Int) == 64
def hexD (n : Nat) : UInt8 := [48, 49, 50, 51, 52, 53, 54, 55, 56, 57, 97, 98, 99, 100, 101, 102].getD n 0
/-- A byte as it stands between quotes. -/
def byteTx (c : UInt8) : List UInt8 := if c.toNat = 92 ∨ c.toNat = 39 then [92, c] else if c.toNat = 10 then [92, 110] else if c.toNat < 32 ∨ 126 < c.toNat then [92, 120, hexD (c.toNat / 16), hexD (c.toNat % 16)] else [c]

set_option maxHeartbeats 400000 in
theorem isLower_any (c : UInt8) (w : World) : Calls Tryz.prog 140 #[.int .u8 c.toNat] w fun e w' => e = .returned (.bool (lowB c)) ∧ w' = w := by
  go_enter Tryz.func140, Tryz.ntmps140
  go_wp2
  all_goals
    go_ret
    refine ⟨ret_bool ?_, rfl⟩
    rw [Bool.eq_iff_iff]
    simp [lowB] at * <;> omega

set_option maxHeartbeats 1000000 in
theorem inName_any (c : UInt8) (w : World) : Calls Tryz.prog 141 #[.int .u8 c.toNat] w fun e w' => e = .returned (.bool (nameB c)) ∧ w' = w := by
  go_enter Tryz.func141, Tryz.ntmps141
  go_wp2_with (go_at_call 140; refine (isLower_any _ _).mono ?_; rintro e w' ⟨rfl, rfl⟩)
  all_goals
    go_ret
    refine ⟨ret_bool ?_, rfl⟩
    rw [Bool.eq_iff_iff]
    simp [nameB, lowB] at * <;> omega

theorem hex_at (k : Nat) (hk : k < 16) (w : World) : (Instr.index 9 (.string ⟨#[48, 49, 50, 51, 52, 53, 54, 55, 56, 57, 97, 98, 99, 100, 101, 102]⟩) (.int .u8 (k : Int))).run Tryz.prog w = .ok (.int .u8 (hexD k).toNat) w := by
  obtain rfl | rfl | rfl | rfl | rfl | rfl | rfl | rfl | rfl | rfl | rfl | rfl | rfl | rfl | rfl | rfl : k = 0 ∨ k = 1 ∨ k = 2 ∨ k = 3 ∨ k = 4 ∨ k = 5 ∨ k = 6 ∨ k = 7 ∨ k = 8 ∨ k = 9 ∨ k = 10 ∨ k = 11 ∨ k = 12 ∨ k = 13 ∨ k = 14 ∨ k = 15 := by omega
  all_goals kernel_rfl

/-- A new row of bytes, as a string. -/
theorem conv_new (w : World) (l : List UInt8) (n : Nat) (hn : l.length = n) (cs : Array Value) (hc : cs = (Lib.byteCells l).toArray) :
    (convert 46 9 (.slice (some ⟨w.heap.size, 0, none⟩) n n)).run Tryz.prog (w.alloc (.cells cs 5)) = .ok (.string (str l)) (w.alloc (.cells cs 5)) := by
  subst hn hc
  refine run_convert_bytes_back (P := Tryz.prog) _ 46 9 5 ⟨w.heap.size, 0, none⟩ l.length l Tryz.underlying46 Tryz.underlying5 Tryz.underlying9 (fun j hj => ?_)
  rw [Addr.add_lit, Nat.zero_add, Lib.cell_of_heap (heap_alloc_new w (.cells (Lib.byteCells l).toArray 5)) j]
  simp [Lib.byteCells, hj]

theorem byteTx_1 (c : UInt8) (h : c.toNat = 92 ∨ c.toNat = 39) : byteTx c = [92, c] := by unfold byteTx; rw [if_pos h]
theorem byteTx_2 (c : UInt8) (h : c.toNat = 10) : byteTx c = [92, 110] := by unfold byteTx; rw [if_neg (by omega), if_pos h]
theorem byteTx_3 (c : UInt8) (h : ¬ (c.toNat = 92 ∨ c.toNat = 39)) (h2 : c.toNat ≠ 10) (h3 : c.toNat < 32 ∨ 126 < c.toNat) : byteTx c = [92, 120, hexD (c.toNat / 16), hexD (c.toNat % 16)] := by unfold byteTx; rw [if_neg h, if_neg h2, if_pos h3]
theorem byteTx_4 (c : UInt8) (h : ¬ (c.toNat = 92 ∨ c.toNat = 39)) (h2 : c.toNat ≠ 10) (h3 : ¬ (c.toNat < 32 ∨ 126 < c.toNat)) : byteTx c = [c] := by unfold byteTx; rw [if_neg h, if_neg h2, if_neg h3]

set_option maxHeartbeats 1000000 in
set_option maxRecDepth 100000 in
theorem byteText_1 (c : UInt8) (w : World) (h : c.toNat = 92 ∨ c.toNat = 39) : Calls Tryz.prog 84 #[.int .u8 c.toNat] w fun e w' => e = .returned (.string (str [92, c])) ∧ Upd [] w w' := by
  by_cases h1 : c.toNat = 92
  · have d1 : ((c.toNat : Int) == 92) = true := by simp; omega
    clear h h1
    have hcv := conv_new w [92, c] 2 rfl #[.int .u8 92, .int .u8 c.toNat] rfl
    go_enter Tryz.func84, Tryz.ntmps84
    go_wp2
    go_ret
    exact ⟨rfl, Upd.alloc (Upd.refl _ _) _⟩
  · have d1 : ((c.toNat : Int) == 92) = false := by simp; omega
    have d2 : ((c.toNat : Int) == 39) = true := by simp; omega
    clear h h1
    have hcv := conv_new w [92, c] 2 rfl #[.int .u8 92, .int .u8 c.toNat] rfl
    go_enter Tryz.func84, Tryz.ntmps84
    go_wp2
    go_ret
    exact ⟨rfl, Upd.alloc (Upd.refl _ _) _⟩

set_option maxHeartbeats 1000000 in
set_option maxRecDepth 100000 in
theorem byteText_2 (c : UInt8) (w : World) (h : c.toNat = 10) : Calls Tryz.prog 84 #[.int .u8 c.toNat] w fun e w' => e = .returned (.string (str [92, 110])) ∧ Upd [] w w' := by
  have d1 : ((c.toNat : Int) == 92) = false := by simp; omega
  have d2 : ((c.toNat : Int) == 39) = false := by simp; omega
  have d3 : ((c.toNat : Int) == 10) = true := by simp; omega
  go_enter Tryz.func84, Tryz.ntmps84
  go_wp2
  go_ret
  exact ⟨rfl, Upd.refl _ _⟩

set_option maxHeartbeats 1000000 in
set_option maxRecDepth 100000 in
theorem byteText_4 (c : UInt8) (w : World) (h : ¬ (c.toNat = 92 ∨ c.toNat = 39)) (h2 : c.toNat ≠ 10) (h3 : ¬ (c.toNat < 32 ∨ 126 < c.toNat)) : Calls Tryz.prog 84 #[.int .u8 c.toNat] w fun e w' => e = .returned (.string (str [c])) ∧ Upd [] w w' := by
  have d1 : ((c.toNat : Int) == 92) = false := by simp; omega
  have d2 : ((c.toNat : Int) == 39) = false := by simp; omega
  have d3 : ((c.toNat : Int) == 10) = false := by simp; omega
  have d4 : decide ((c.toNat : Int) < 32) = false := by simp; omega
  have d5 : decide ((c.toNat : Int) > 126) = false := by simp; omega
  have d6 : decide ((126 : Int) < (c.toNat : Int)) = false := by simp; omega
  have hcv := conv_new w [c] 1 rfl #[.int .u8 c.toNat] rfl
  go_enter Tryz.func84, Tryz.ntmps84
  go_wp2
  go_ret
  exact ⟨rfl, Upd.alloc (Upd.refl _ _) _⟩

set_option maxHeartbeats 1000000 in
set_option maxRecDepth 100000 in
theorem byteText_3 (c : UInt8) (w : World) (_h : ¬ (c.toNat = 92 ∨ c.toNat = 39)) (h2 : c.toNat ≠ 10) (h3 : c.toNat < 32 ∨ 126 < c.toNat) : Calls Tryz.prog 84 #[.int .u8 c.toNat] w fun e w' => e = .returned (.string (str [92, 120, hexD (c.toNat / 16), hexD (c.toNat % 16)])) ∧ Upd [] w w' := by
  have d1 : ((c.toNat : Int) == 92) = false := by simp; omega
  have d2 : ((c.toNat : Int) == 39) = false := by simp; omega
  have d3 : ((c.toNat : Int) == 10) = false := by simp; omega
  have hcl := c.toNat_lt
  have i1 : ∀ w, (Instr.index 9 (.string ⟨#[48, 49, 50, 51, 52, 53, 54, 55, 56, 57, 97, 98, 99, 100, 101, 102]⟩) (.int .u8 ((c.toNat : Int) / 16))).run Tryz.prog w = .ok (.int .u8 (hexD (c.toNat / 16)).toNat) w := fun w => by
    have := hex_at (c.toNat / 16) (by omega) w
    simpa using this
  have i2 : ∀ w, (Instr.index 9 (.string ⟨#[48, 49, 50, 51, 52, 53, 54, 55, 56, 57, 97, 98, 99, 100, 101, 102]⟩) (.int .u8 ((c.toNat : Int) % 16))).run Tryz.prog w = .ok (.int .u8 (hexD (c.toNat % 16)).toNat) w := fun w => by
    have := hex_at (c.toNat % 16) (by omega) w
    simpa using this
  have hcv : (convert 46 9 (.slice (some ⟨w.heap.size, 0, none⟩) 4 4)).run Tryz.prog (w.alloc (.cells #[.int .u8 92, .int .u8 120, .int .u8 (hexD (c.toNat / 16)).toNat, .int .u8 (hexD (c.toNat % 16)).toNat] 5)).drew = .ok (.string (str [92, 120, hexD (c.toNat / 16), hexD (c.toNat % 16)])) (w.alloc (.cells #[.int .u8 92, .int .u8 120, .int .u8 (hexD (c.toNat / 16)).toNat, .int .u8 (hexD (c.toNat % 16)).toNat] 5)).drew := conv_new w.drew [92, 120, hexD (c.toNat / 16), hexD (c.toNat % 16)] 4 rfl _ rfl
  go_enter Tryz.func84, Tryz.ntmps84
  go_wp2_with fail
  all_goals
    go_region
    go_wp2
    go_ret
    exact ⟨rfl, Upd.drew (Upd.alloc (Upd.refl _ _) _)⟩

theorem byteText_any (c : UInt8) (w : World) : Calls Tryz.prog 84 #[.int .u8 c.toNat] w fun e w' => e = .returned (.string (str (byteTx c))) ∧ Upd [] w w' := by
  by_cases h1 : c.toNat = 92 ∨ c.toNat = 39
  · rw [byteTx_1 c h1]; exact byteText_1 c w h1
  · by_cases h2 : c.toNat = 10
    · rw [byteTx_2 c h2]; exact byteText_2 c w h2
    · by_cases h3 : c.toNat < 32 ∨ 126 < c.toNat
      · rw [byteTx_3 c h1 h2 h3]; exact byteText_3 c w h1 h2 h3
      · rw [byteTx_4 c h1 h2 h3]; exact byteText_4 c w h1 h2 h3
end Go.Proofs.YtaoipmmeialpnaaGreatDoor
