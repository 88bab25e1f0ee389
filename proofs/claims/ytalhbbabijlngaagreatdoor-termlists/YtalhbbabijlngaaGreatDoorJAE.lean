/- An atom's bytes, as they are written: isLower, inName, byteText, by their contracts. -/
import Derived.Test.YtalhbbabijlngaaGreatDoorJAB
import Derived.Test.YtalhbbabijlngaaGreatDoorJAD
import Derived.Test.YtalhbbabijlngaaGreatDoorJAA
import Derived.Deep.LoopGhost
namespace Go.Proofs.YtalhbbabijlngaaGreatDoor
open Go.RowKit
def str (l : List UInt8) : ByteArray := ⟨l.toArray⟩
def byt (s : ByteArray) : List UInt8 := s.data.toList
theorem byt_str (l : List UInt8) : byt (str l) = l := rfl
theorem str_byt (s : ByteArray) : str (byt s) = s := by show ByteArray.mk s.data.toList.toArray = s; rw [Array.toArray_toList]
theorem byt_len (s : ByteArray) : (byt s).length = s.size := by show s.data.toList.length = s.data.size; rw [Array.length_toList]
def lowB (c : UInt8) : Bool := decide ((97 : Int) ≤ c.toNat) && decide ((c.toNat : Int) ≤ 122)
def nameB (c : UInt8) : Bool := lowB c || (decide ((65 : Int) ≤ c.toNat) && decide ((c.toNat : Int) ≤ 90)) || (decide ((48 : Int) ≤ c.toNat) && decide ((c.toNat : Int) ≤ 57)) || (c.toNat : Int) == 95 || (c.toNat : Int) == 64
def hexD (n : Nat) : UInt8 := [48, 49, 50, 51, 52, 53, 54, 55, 56, 57, 97, 98, 99, 100, 101, 102].getD n 0
def byteTx (c : UInt8) : List UInt8 := if c.toNat = 92 ∨ c.toNat = 39 then [92, c] else if c.toNat = 10 then [92, 110] else if c.toNat < 32 ∨ 126 < c.toNat then [92, 120, hexD (c.toNat / 16), hexD (c.toNat % 16)] else [c]
set_option maxHeartbeats 400000 in
theorem isLower_any (c : UInt8) (w : World) : Calls Tryz.prog 134 #[.int .u8 c.toNat] w fun e w' => e = .returned (.bool (lowB c)) ∧ w' = w := by
 go_enter Tryz.func134, Tryz.ntmps134
 go_wp2
 all_goals
  go_ret
  refine ⟨ret_bool ?_, rfl⟩
  rw [Bool.eq_iff_iff]
  simp [lowB] at * <;> omega
set_option maxHeartbeats 1000000 in
theorem inName_any (c : UInt8) (w : World) : Calls Tryz.prog 135 #[.int .u8 c.toNat] w fun e w' => e = .returned (.bool (nameB c)) ∧ w' = w := by
 go_enter Tryz.func135, Tryz.ntmps135
 go_wp2_with (go_at_call 134; refine (isLower_any _ _).mono ?_; rintro e w' ⟨rfl, rfl⟩)
 all_goals
  go_ret
  refine ⟨ret_bool ?_, rfl⟩
  rw [Bool.eq_iff_iff]
  simp [nameB, lowB] at * <;> omega
theorem hex_at (k : Nat) (hk : k < 16) (w : World) : (Instr.index 9 (.string ⟨#[48, 49, 50, 51, 52, 53, 54, 55, 56, 57, 97, 98, 99, 100, 101, 102]⟩) (.int .u8 (k : Int))).run Tryz.prog w = .ok (.int .u8 (hexD k).toNat) w := by
 obtain rfl | rfl | rfl | rfl | rfl | rfl | rfl | rfl | rfl | rfl | rfl | rfl | rfl | rfl | rfl | rfl : k = 0 ∨ k = 1 ∨ k = 2 ∨ k = 3 ∨ k = 4 ∨ k = 5 ∨ k = 6 ∨ k = 7 ∨ k = 8 ∨ k = 9 ∨ k = 10 ∨ k = 11 ∨ k = 12 ∨ k = 13 ∨ k = 14 ∨ k = 15 := by omega
 all_goals kernel_rfl
theorem conv_new (w : World) (l : List UInt8) (n : Nat) (hn : l.length = n) (cs : Array Value) (hc : cs = (Lib.byteCells l).toArray) :
  (convert 52 9 (.slice (some ⟨w.heap.size, 0, none⟩) n n)).run Tryz.prog (w.alloc (.cells cs 5)) = .ok (.string (str l)) (w.alloc (.cells cs 5)) := by
 subst hn hc
 refine run_convert_bytes_back (P := Tryz.prog) _ 52 9 5 ⟨w.heap.size, 0, none⟩ l.length l Tryz.underlying52 Tryz.underlying5 Tryz.underlying9 (fun j hj => ?_)
 rw [Addr.add_lit, Nat.zero_add, Lib.cell_of_heap (heap_alloc_new w (.cells (Lib.byteCells l).toArray 5)) j]
 simp [Lib.byteCells, hj]
theorem byteTx_1 (c : UInt8) (h : c.toNat = 92 ∨ c.toNat = 39) : byteTx c = [92, c] := by unfold byteTx; rw [if_pos h]
theorem byteTx_2 (c : UInt8) (h : c.toNat = 10) : byteTx c = [92, 110] := by unfold byteTx; rw [if_neg (by omega), if_pos h]
theorem byteTx_3 (c : UInt8) (h : ¬ (c.toNat = 92 ∨ c.toNat = 39)) (h2 : c.toNat ≠ 10) (h3 : c.toNat < 32 ∨ 126 < c.toNat) : byteTx c = [92, 120, hexD (c.toNat / 16), hexD (c.toNat % 16)] := by unfold byteTx; rw [if_neg h, if_neg h2, if_pos h3]
theorem byteTx_4 (c : UInt8) (h : ¬ (c.toNat = 92 ∨ c.toNat = 39)) (h2 : c.toNat ≠ 10) (h3 : ¬ (c.toNat < 32 ∨ 126 < c.toNat)) : byteTx c = [c] := by unfold byteTx; rw [if_neg h, if_neg h2, if_neg h3]
set_option maxHeartbeats 1000000 in
set_option maxRecDepth 100000 in
theorem byteText_1 (c : UInt8) (w : World) (h : c.toNat = 92 ∨ c.toNat = 39) : Calls Tryz.prog 80 #[.int .u8 c.toNat] w fun e w' => e = .returned (.string (str [92, c])) ∧ Upd [] w w' := by
 by_cases h1 : c.toNat = 92
 ·have d1 : ((c.toNat : Int) == 92) = true := by simp; omega
  clear h h1
  have hcv := conv_new w [92, c] 2 rfl #[.int .u8 92, .int .u8 c.toNat] rfl
  go_enter Tryz.func80, Tryz.ntmps80
  go_wp2
  go_ret
  exact ⟨rfl, Upd.alloc (Upd.refl _ _) _⟩
 ·have d1 : ((c.toNat : Int) == 92) = false := by simp; omega
  have d2 : ((c.toNat : Int) == 39) = true := by simp; omega
  clear h h1
  have hcv := conv_new w [92, c] 2 rfl #[.int .u8 92, .int .u8 c.toNat] rfl
  go_enter Tryz.func80, Tryz.ntmps80
  go_wp2
  go_ret
  exact ⟨rfl, Upd.alloc (Upd.refl _ _) _⟩
set_option maxHeartbeats 1000000 in
set_option maxRecDepth 100000 in
theorem byteText_2 (c : UInt8) (w : World) (h : c.toNat = 10) : Calls Tryz.prog 80 #[.int .u8 c.toNat] w fun e w' => e = .returned (.string (str [92, 110])) ∧ Upd [] w w' := by
 have d1 : ((c.toNat : Int) == 92) = false := by simp; omega
 have d2 : ((c.toNat : Int) == 39) = false := by simp; omega
 have d3 : ((c.toNat : Int) == 10) = true := by simp; omega
 go_enter Tryz.func80, Tryz.ntmps80
 go_wp2
 go_ret
 exact ⟨rfl, Upd.refl _ _⟩
set_option maxHeartbeats 1000000 in
set_option maxRecDepth 100000 in
theorem byteText_4 (c : UInt8) (w : World) (h : ¬ (c.toNat = 92 ∨ c.toNat = 39)) (h2 : c.toNat ≠ 10) (h3 : ¬ (c.toNat < 32 ∨ 126 < c.toNat)) : Calls Tryz.prog 80 #[.int .u8 c.toNat] w fun e w' => e = .returned (.string (str [c])) ∧ Upd [] w w' := by
 have d1 : ((c.toNat : Int) == 92) = false := by simp; omega
 have d2 : ((c.toNat : Int) == 39) = false := by simp; omega
 have d3 : ((c.toNat : Int) == 10) = false := by simp; omega
 have d4 : decide ((c.toNat : Int) < 32) = false := by simp; omega
 have d5 : decide ((c.toNat : Int) > 126) = false := by simp; omega
 have d6 : decide ((126 : Int) < (c.toNat : Int)) = false := by simp; omega
 have hcv := conv_new w [c] 1 rfl #[.int .u8 c.toNat] rfl
 go_enter Tryz.func80, Tryz.ntmps80
 go_wp2
 go_ret
 exact ⟨rfl, Upd.alloc (Upd.refl _ _) _⟩
set_option maxHeartbeats 1000000 in
set_option maxRecDepth 100000 in
theorem byteText_3 (c : UInt8) (w : World) (_h : ¬ (c.toNat = 92 ∨ c.toNat = 39)) (h2 : c.toNat ≠ 10) (h3 : c.toNat < 32 ∨ 126 < c.toNat) : Calls Tryz.prog 80 #[.int .u8 c.toNat] w fun e w' => e = .returned (.string (str [92, 120, hexD (c.toNat / 16), hexD (c.toNat % 16)])) ∧ Upd [] w w' := by
 have d1 : ((c.toNat : Int) == 92) = false := by simp; omega
 have d2 : ((c.toNat : Int) == 39) = false := by simp; omega
 have d3 : ((c.toNat : Int) == 10) = false := by simp; omega
 have hcl := c.toNat_lt
 have i1 : ∀ w, (Instr.index 9 (.string ⟨#[48, 49, 50, 51, 52, 53, 54, 55, 56, 57, 97, 98, 99, 100, 101, 102]⟩) (.int .u8 ((c.toNat : Int) / 16))).run Tryz.prog w = .ok (.int .u8 (hexD (c.toNat / 16)).toNat) w := fun w => by
  have := hex_at (c.toNat / 16) (by omega) w
  simpa using this
 have i2 : ∀ w, (Instr.index 9 (.string ⟨#[48, 49, 50, 51, 52, 53, 54, 55, 56, 57, 97, 98, 99, 100, 101, 102]⟩) (.int .u8 ((c.toNat : Int) % 16))).run Tryz.prog w = .ok (.int .u8 (hexD (c.toNat % 16)).toNat) w := fun w => by
  have := hex_at (c.toNat % 16) (by omega) w
  simpa using this
 have hcv : (convert 52 9 (.slice (some ⟨w.heap.size, 0, none⟩) 4 4)).run Tryz.prog (w.alloc (.cells #[.int .u8 92, .int .u8 120, .int .u8 (hexD (c.toNat / 16)).toNat, .int .u8 (hexD (c.toNat % 16)).toNat] 5)).drew = .ok (.string (str [92, 120, hexD (c.toNat / 16), hexD (c.toNat % 16)])) (w.alloc (.cells #[.int .u8 92, .int .u8 120, .int .u8 (hexD (c.toNat / 16)).toNat, .int .u8 (hexD (c.toNat % 16)).toNat] 5)).drew := conv_new w.drew [92, 120, hexD (c.toNat / 16), hexD (c.toNat % 16)] 4 rfl _ rfl
 go_enter Tryz.func80, Tryz.ntmps80
 go_wp2_with fail
 all_goals
  go_region
  go_wp2
  go_ret
  exact ⟨rfl, Upd.drew (Upd.alloc (Upd.refl _ _) _)⟩
theorem byteText_any (c : UInt8) (w : World) : Calls Tryz.prog 80 #[.int .u8 c.toNat] w fun e w' => e = .returned (.string (str (byteTx c))) ∧ Upd [] w w' := by
 by_cases h1 : c.toNat = 92 ∨ c.toNat = 39
 ·rw [byteTx_1 c h1]; exact byteText_1 c w h1
 ·by_cases h2 : c.toNat = 10
  ·rw [byteTx_2 c h2]; exact byteText_2 c w h2
  ·by_cases h3 : c.toNat < 32 ∨ 126 < c.toNat
   ·rw [byteTx_3 c h1 h2 h3]; exact byteText_3 c w h1 h2 h3
   ·rw [byteTx_4 c h1 h2 h3]; exact byteText_4 c w h1 h2 h3
end Go.Proofs.YtalhbbabijlngaaGreatDoor
namespace Go.Proofs.YtalhbbabijlngaaGreatDoor
open Go.RowKit
def resW : List (List UInt8) := [[97, 102, 116, 101, 114], [97, 110, 100], [97, 110, 100, 97, 108, 115, 111], [98, 101, 103, 105, 110], [99, 97, 115, 101], [100, 105, 118], [101, 110, 100], [102, 117, 110], [105, 102], [110, 111, 116], [111, 102], [111, 114], [111, 114, 101, 108, 115, 101], [114, 101, 99, 101, 105, 118, 101], [114, 101, 109], [116, 114, 121], [99, 97, 116, 99, 104], [119, 104, 101, 110], [120, 111, 114]]
def plainB (l : List UInt8) : Bool := !l.isEmpty && lowB (l.headD 0) && l.all nameB && !(resW.contains l)
def Wds (w : World) : Prop := ∃ bw o c, w.cell? ⟨0, 0, none⟩ = some (.slice (some ⟨bw, o, none⟩) 19 c) ∧ 19 ≤ c ∧ ∀ i, i < 19 → w.cell? ⟨bw, o + i, none⟩ = some (.string (str (resW.getD i [])))
theorem lt_of_cell {w : World} {a : Addr} {v : Value} (h : w.cell? a = some v) : a.block < w.heap.size := by
 rcases Nat.lt_or_ge a.block w.heap.size with h' | h'
 ·exact h'
 ·simp [World.cell?, Array.getElem?_eq_none h'] at h
theorem Wds.mono {w w' : World} (h : Wds w) (hu : Upd [] w w') : Wds w' := by
 obtain ⟨bw, o, c, h1, h2, h3⟩ := h
 exact ⟨bw, o, c, (hu.cell (lt_of_cell h1) (by simp)).trans h1, h2, fun i hi => (hu.cell (lt_of_cell (h3 i hi)) (by simp)).trans (h3 i hi)⟩
theorem beq_str (s t : ByteArray) : (s.toList == t.toList) = (byt s == byt t) := by rw [Lib.toList_data, Lib.toList_data]; rfl
theorem getD_getD (l : List (List UInt8)) (k : Nat) : l[k]?.getD [] = l.getD k [] := by simp [List.getD]
theorem headD_get (l : List UInt8) (h : 0 < l.length) : l.headD 0 = l[0] := by
 cases l with
 | nil => simp at h
 | cons c r => rfl
theorem head_byt (s : ByteArray) (h : 0 < s.size) : (byt s).headD 0 = s[0] := by
 rw [headD_get _ (by rw [byt_len]; exact h)]
 rfl
theorem not_word (s : List UInt8) (h : ∀ j, j < 19 → (s == resW.getD j []) = false) : resW.contains s = false := by
 rw [Bool.eq_false_iff]
 intro hc
 simp only [List.contains_iff_mem] at hc
 obtain ⟨i, hi, e⟩ := List.mem_iff_getElem.1 hc
 have := h i hi
 simp only [List.getD, hi, List.getElem?_eq_getElem, Option.getD_some, e] at this
 simp at this
theorem is_word (s : List UInt8) (k : Nat) (hk : k < 19) (h : (s == resW.getD k []) = true) : resW.contains s = true := by
 simp only [List.contains_iff_mem]
 rw [beq_iff_eq] at h
 rw [h]
 have hk' : k < resW.length := hk
 simp only [List.getD, List.getElem?_eq_getElem hk', Option.getD_some]
 exact List.getElem_mem hk'
theorem plainB_nil (s : ByteArray) (h : s.size = 0) : plainB (byt s) = false := by
 have : byt s = [] := List.eq_nil_of_length_eq_zero (by rw [byt_len]; exact h)
 rw [this]; rfl
theorem plainB_low (s : ByteArray) (h0 : 0 < s.size) (h : lowB s[0] = false) : plainB (byt s) = false := by
 unfold plainB; rw [head_byt s h0, h]; simp
theorem plainB_name (s : ByteArray) (k : Nat) (hk : k < s.size) (h : nameB s[k] = false) : plainB (byt s) = false := by
 have : (byt s).all nameB = false := by
  rw [List.all_eq_false]
  have hk' : k < (byt s).length := by rw [byt_len]; exact hk
  have e : nameB (byt s)[k] = false := h
  exact ⟨(byt s)[k], List.getElem_mem hk', by rw [e]; simp⟩
 unfold plainB; rw [this]; simp
theorem plainB_word (s : ByteArray) (h : resW.contains (byt s) = true) : plainB (byt s) = false := by unfold plainB; rw [h]; simp
theorem plainB_all (s : ByteArray) (h0 : 0 < s.size) (h1 : lowB s[0] = true) (h2 : ∀ k (hk : k < s.size), nameB s[k] = true) (h3 : resW.contains (byt s) = false) : plainB (byt s) = true := by
 have e1 : (byt s).isEmpty = false := by
  cases e : byt s with
  | nil => have := byt_len s; rw [e] at this; simp at this; omega
  | cons => rfl
 have e2 : (byt s).all nameB = true := by
  rw [List.all_eq_true]
  intro x hx
  obtain ⟨i, hi, e⟩ := List.mem_iff_getElem.1 hx
  rw [← e]
  exact h2 i (by rw [← byt_len]; exact hi)
 unfold plainB; rw [head_byt s h0, h1, h3, e1, e2]; rfl
set_option maxHeartbeats 1000000 in
set_option maxRecDepth 100000 in
theorem plain_any (s : ByteArray) (w : World) (hs : s.size ≤ 1000000000) (hg : Wds w) : Calls Tryz.prog 78 #[.string s] w fun e w' => e = .returned (.bool (plainB (byt s))) ∧ w' = w := by
 obtain ⟨bw, o, c, g1, g2, g3⟩ := hg
 have G3 : Hid (∀ i, i < 19 → w.cell? ⟨bw, o + i, none⟩ = some (.string (str (resW.getD i [])))) := g3
 clear g3
 have hE := empty_of s
 by_cases h0 : s.size = 0
 ·rw [plainB_nil s h0]
  rw [decide_eq_true h0] at hE
  go_enter Tryz.func78, Tryz.ntmps78
  go_wp2
  go_ret
  exact ⟨rfl, rfl⟩
 ·have h0' : 0 < s.size := by omega
  rw [decide_eq_false h0] at hE
  cases hl : lowB s[0] with
  | false =>
   rw [plainB_low s h0' hl]
   go_enter Tryz.func78, Tryz.ntmps78
   go_wp2_with (go_at_call 134; refine (isLower_any _ _).mono ?_; rintro e w' ⟨rfl, rfl⟩)
   go_ret
   exact ⟨rfl, rfl⟩
  | true =>
   go_enter Tryz.func78, Tryz.ntmps78
   go_wp2_with (go_at_call 134; refine (isLower_any _ _).mono ?_; rintro e w' ⟨rfl, rfl⟩)
   go_loop [16] (fun i => ∃ k : Nat, k ≤ s.size ∧ i = .int .i64 k ∧ ∀ j (hj : j < s.size), j < k → nameB s[j] = true) (fun i => s.size - (intOf i).toNat)
   case atStart => exact ⟨0, Nat.zero_le _, rfl, fun j _ hj => by omega⟩
   case round =>
    obtain ⟨k, hk, rfl, he⟩ := hrel
    have HE : Hid _ := he
    clear he
    by_cases hlt : k < s.size
    ·cases hn : nameB s[k] with
     | false =>
      go_wp2_with (go_at_call 135; refine (inName_any _ _).mono ?_; rintro e w' ⟨rfl, rfl⟩)
      go_ret
      exact ⟨ret_bool (plainB_name s k hlt hn).symm, rfl⟩
     | true =>
      go_wp2_with (go_at_call 135; refine (inName_any _ _).mono ?_; rintro e w' ⟨rfl, rfl⟩)
      go_round
      case rel => exact ⟨k + 1, by omega, by go_num, fun j hj hjk => by
       by_cases h : j = k
       ·subst h; exact hn
       ·exact HE.out j hj (by omega)⟩
      case measure => simp [intOf]; omega
    ·have hd : decide ((k : Int) < s.size) = false := by simp; omega
     have hall : ∀ j (hj : j < s.size), nameB s[j] = true := fun j hj => HE.out j hj (by omega)
     have HA : Hid (∀ j (hj : j < s.size), nameB s[j] = true) := hall
     clear hall HE
     go_wp2
     clear hd hlt hk
     go_loop [27] (fun i => ∃ k : Nat, k ≤ 19 ∧ i = .int .i64 k ∧ ∀ j, j < k → (byt s == resW.getD j []) = false) (fun i => 19 - (intOf i).toNat)
     case atStart => exact ⟨0, Nat.zero_le _, rfl, fun j hj => by omega⟩
     case round =>
      obtain ⟨k, hk, rfl, he⟩ := hrel
      have HE : Hid _ := he
      clear he
      by_cases hlt : k < 19
      ·have hc := G3.out k hlt
       have hj1 : ((k : Int) < 19) := by omega
       go_wp2
       ·have hc : (s.toList == (str (resW[k]?.getD [])).toList) = true := by assumption
        rw [beq_str, byt_str, getD_getD] at hc
        go_ret
        exact ⟨ret_bool (plainB_word s (is_word _ k hlt hc)).symm, rfl⟩
       ·have hc : (s.toList == (str (resW[k]?.getD [])).toList) = false := by assumption
        rw [beq_str, byt_str, getD_getD] at hc
        go_round
        case rel => exact ⟨k + 1, by omega, by go_num, fun j hj => by
         by_cases h : j = k
         ·rw [h]; exact hc
         ·exact HE.out j (by omega)⟩
        case measure => simp [intOf]; omega
      ·have hk19 : decide ((k : Int) < 19) = false := by simp; omega
       go_wp2
       go_ret
       exact ⟨ret_bool (plainB_all s h0' hl HA.out (not_word _ (fun j hj => HE.out j (by omega)))).symm, rfl⟩
end Go.Proofs.YtalhbbabijlngaaGreatDoor
namespace Go.Proofs.YtalhbbabijlngaaGreatDoor
open Go.RowKit
def atomTx (l : List UInt8) : List UInt8 := if plainB l then l else 39 :: (l.flatMap byteTx ++ [39])
theorem byteTx_len (c : UInt8) : (byteTx c).length ≤ 4 := by unfold byteTx; repeat' split
                                                             all_goals simp
theorem flat_len (l : List UInt8) : (l.flatMap byteTx).length ≤ 4 * l.length := by
 induction l with
 | nil => simp
 | cons c r ih => simp only [List.flatMap_cons, List.length_append, List.length_cons]; have := byteTx_len c; omega
theorem Bd.upd {w w' : World} {b : Nat} {bs : List Value} (h : Bd w b bs) (hu : Upd [] w w') : Bd w' b bs := by
 have key : ∀ p, Lib.BuilderAtF 54 5 b b p bs w → Lib.BuilderAtF 54 5 b b p bs w' := by
  intro p h
  have hlt := h.lt
  obtain ⟨hB, v, hb, hown, hne⟩ := h
  exact ⟨hB, v, (hu.block b hlt (by simp)).trans hb, hown.kept (row := none) ⟨hu.os, hu.tape, hu.output, hu.size, fun k hk _ => hu.block k hk (by simp)⟩ (by cases hv : v.ownBlock <;> simp), hne⟩
 exact h.elim (fun x => Or.inl (key _ x)) (fun x => Or.inr (key _ x))
theorem Bd.lt {w : World} {b : Nat} {bs : List Value} (h : Bd w b bs) : b < w.heap.size := by rcases h with h | h <;> exact h.lt
theorem Bd.fresh (w : World) : Bd (w.alloc (.cells #[.pointer none, .slice none 0 0] 54)) w.heap.size [] := Lib.IsBuilderF.of (Lib.fresh_isBuilder _ _ w)
theorem Upd.kp {b : Nat} {w w1 w' : World} (h : Upd [] w w1) (hb : w.heap.size ≤ b) (k : Kp b w1 w') : Upd [] w w' :=
 ⟨k.below.os.trans h.os, k.below.tape.trans h.tape, k.below.output.trans h.output, Nat.le_trans h.size k.below.size, fun i hi hn => (k.below.block i (by omega)).trans (h.block i hi hn)⟩
theorem flat_take (l : List UInt8) (k : Nat) (hk : k < l.length) : (l.take (k + 1)).flatMap byteTx = (l.take k).flatMap byteTx ++ byteTx l[k] := by
 rw [List.take_succ_eq_append_getElem hk, List.flatMap_append]; simp
theorem cells_add (l : List UInt8) (m : List UInt8) : Lib.byteCells l ++ Lib.strCells (str m) = Lib.byteCells (l ++ m) := by rw [Lib.byteCells_append]; rfl
theorem Bd.cast39 {w : World} {b : Nat} {l : List UInt8} (h : Bd w b (Lib.byteCells l ++ [.int .u8 39])) : Bd w b (Lib.byteCells (l ++ [39])) := by rw [Lib.byteCells_append]; exact h
theorem str_size (l : List UInt8) : (str l).size = l.length := by rw [← byt_len, byt_str]
set_option maxHeartbeats 1000000 in
set_option maxRecDepth 100000 in
theorem atomText_any (s : ByteArray) (w : World) (hs : s.size ≤ 1000000000) (hg : Wds w) : Calls Tryz.prog 47 #[.string s] w fun e w' => e = .returned (.string (str (atomTx (byt s)))) ∧ Upd [] w w' := by
 cases hp : plainB (byt s) with
 | true =>
  have e : atomTx (byt s) = byt s := by unfold atomTx; rw [hp]; rfl
  rw [e, str_byt]
  go_enter Tryz.func47, Tryz.ntmps47
  go_wp2_with (go_at_call 78; refine (plain_any _ _ hs hg).mono ?_; rintro e w' ⟨rfl, rfl⟩)
  go_ret
  exact ⟨rfl, Upd.refl _ _⟩
 | false =>
  have HG : Hid (Wds w) := hg
  clear hg
  go_enter Tryz.func47, Tryz.ntmps47
  go_wp2_with (first
   | (go_at_call 78; refine (plain_any _ _ hs HG.out).mono ?_; rintro e w' ⟨rfl, rfl⟩)
   | (go_at_call 79; refine (WriteByte_any _ _ _ _ (Bd.fresh _) (by simp)).mono ?_; rintro e w1 ⟨rfl, hB1, hK1⟩))
  have hU1 : Upd [] w' w1 := Upd.kp (Upd.alloc (Upd.refl _ _) _) (Nat.le_refl _) hK1
  have hB1' : Bd w1 w'.heap.size (Lib.byteCells (39 :: ((byt s).take 0).flatMap byteTx)) := hB1
  have HB1 : Hid (Bd w1 w'.heap.size (Lib.byteCells (39 :: ((byt s).take 0).flatMap byteTx))) := hB1'
  have HU1 : Hid (Upd [] w' w1) := hU1
  clear hB1 hK1 hU1 hB1' HG
  generalize hb : w'.heap.size = b at *
  have Hb : Hid (w'.heap.size = b) := hb
  clear hb
  go_loopw [11] (fun i wr => ∃ k : Nat, k ≤ s.size ∧ i = .int .i64 k ∧ Bd wr b (Lib.byteCells (39 :: ((byt s).take k).flatMap byteTx)) ∧ Upd [] w' wr) (fun i _ => s.size - (intOf i).toNat)
  case atStart => exact ⟨0, Nat.zero_le _, rfl, HB1.out, HU1.out⟩
  case round =>
   obtain ⟨k, hk, rfl, hB, hU⟩ := hrel
   have HB : Hid (Bd wr b (Lib.byteCells (39 :: ((byt s).take k).flatMap byteTx))) := hB
   have HU : Hid (Upd [] w' wr) := hU
   clear hB hU
   have hfl : (39 :: ((byt s).take k).flatMap byteTx).length ≤ 4 * s.size + 1 := by
    have h1 := flat_len ((byt s).take k)
    have h2 : ((byt s).take k).length ≤ (byt s).length := by rw [List.length_take]; omega
    rw [byt_len] at h2
    rw [List.length_cons]; omega
   by_cases hlt : k < s.size
   ·have hlen : (Lib.byteCells (39 :: ((byt s).take k).flatMap byteTx)).length + (str (byteTx s[k])).size ≤ 140737488355328 := by
     rw [Lib.byteCells_length, str_size]; have := byteTx_len s[k]; omega
    have HL : Hid _ := hlen
    clear hlen
    go_wp2_with (first
     | (go_at_call 43; have _ := uw2; refine (WriteString_any _ _ _ _ (HB.out.upd uw2) HL.out).mono ?_; rintro e w3 ⟨rfl, hB3, hK3⟩)
     | (go_at_call 80; refine (byteText_any _ _).mono ?_; rintro e w2 ⟨rfl, uw2⟩))
    have hk2 : k < (byt s).length := by rw [byt_len]; exact hlt
    have e : Lib.byteCells (39 :: ((byt s).take k).flatMap byteTx) ++ Lib.strCells (str (byteTx s[k])) = Lib.byteCells (39 :: ((byt s).take (k + 1)).flatMap byteTx) := by
     rw [cells_add, flat_take _ _ hk2]; rfl
    have hB3' : Bd w3 b (Lib.byteCells (39 :: ((byt s).take (k + 1)).flatMap byteTx)) := by rw [← e]; exact hB3
    refine ⟨⟨k + 1, by omega, by go_num, hB3', Upd.kp (HU.out.trans uw2) (by have := Hb.out; omega) hK3⟩, ?_⟩
    simp [intOf]; omega
   ·have hd : decide ((k : Int) < s.size) = false := by simp; omega
    go_wp2_with (first
     | (go_at_call 49; have _ := hK4; refine (String_any _ _ _ hB4).mono ?_; rintro e w5 ⟨rfl, hB5, hK5⟩)
     | (go_at_call 79; refine (WriteByte_any _ _ _ _ HB.out (by rw [Lib.byteCells_length]; omega)).mono ?_; rintro e w4 ⟨rfl, hB4, hK4⟩; have hB4 := hB4.cast39))
    go_ret
    have e : (byt s).take k = byt s := List.take_of_length_le (by rw [byt_len]; omega)
    have e2 : atomTx (byt s) = 39 :: (List.flatMap byteTx (List.take k (byt s)) ++ [39]) := by unfold atomTx; rw [hp, e]; rfl
    rw [e2]
    exact ⟨rfl, Upd.kp (Upd.kp HU.out (by have := Hb.out; omega) hK4) (by have := Hb.out; omega) hK5⟩
end Go.Proofs.YtalhbbabijlngaaGreatDoor
namespace Go.Proofs.YtalhbbabijlngaaGreatDoor
open Go.RowKit
theorem quo_wrap (V d : Nat) (hq : V / d < 4294967296) : IntKind.u64.wrap ((V : Int) / (d : Int)) % 4294967296 = ((V / d : Nat) : Int) := by
 have e : (V : Int) / (d : Int) = ((V / d : Nat) : Int) := by simp
 rw [e]
 generalize V / d = q at *
 simp only [IntKind.wrap_u64]
 omega
set_option maxHeartbeats 400000 in
theorem dividing1_core (x c d V bk bb : Nat) (w : World) (hd0 : 0 < d) (hd : d < 4294967296) (hx : x < 4294967296) (hc : c < 4294967296)
  (hk : w.cell? ⟨bk, 0, none⟩ = some (.int .u64 (c : Nat))) (hkf : w.frozen? ⟨bk, 0, none⟩ = false) (_hbb : w.cell? ⟨bb, 0, none⟩ = some (.int .u32 (d : Nat)))
  (hoth : ∀ v, (w.setCell ⟨bk, 0, none⟩ v).cell? ⟨bb, 0, none⟩ = some (.int .u32 (d : Nat))) (hr : V % d < d)
  (hor : bits BinOp.or IntKind.u64 ((c : Int) * 4294967296) (x : Int) = (V : Nat)) :
  Calls Tryz.prog 197 #[.int .u32 (x : Nat), .pointer (some ⟨bk, 0, none⟩), .pointer (some ⟨bb, 0, none⟩)] w fun e w' =>
   e = .returned (.tuple #[.int .u32 (IntKind.u64.wrap ((V : Int) / (d : Int)) % 4294967296), .int .u32 ((V % d : Nat))]) ∧ w' = (w.setCell ⟨bk, 0, none⟩ (.int .u64 ((V % d : Nat)))).drew := by
 go_enter Tryz.func197, Tryz.ntmps197
 go_wp2
 go_region
 all_goals go_wp2
 all_goals go_ret2
 all_goals rw [setCell_twice]
 all_goals exact ⟨by simp, by simp⟩
theorem dividing1_any (x c d bk bb : Nat) (w : World) (hx : x < 4294967296) (hd : d < 4294967296) (hcc : c < d) (Hk : One w bk .u64 128 c) (Hb : One w bb .u32 47 d) (hne : bk ≠ bb) :
  Calls Tryz.prog 197 #[.int .u32 (x : Nat), .pointer (some ⟨bk, 0, none⟩), .pointer (some ⟨bb, 0, none⟩)] w fun e w' =>
   e = .returned (.tuple #[.int .u32 (((c * 4294967296 + x) / d : Nat)), .int .u32 (((c * 4294967296 + x) % d : Nat))]) ∧ One w' bk .u64 128 ((c * 4294967296 + x) % d) ∧ Upd [bk] w w' := by
 refine (dividing1_core x c d (c * 4294967296 + x) bk bb w (by omega) hd hx (by omega) Hk.cell Hk.free Hb.cell
  (fun v => (World.cell?_setCell_other _ _ _ _ (by simp)).trans Hb.cell) (Nat.mod_lt _ (by omega)) (or_shift c x (by omega) hx)).mono ?_
 rintro e w' ⟨rfl, rfl⟩
 rw [quo_wrap _ _ (quo_lt x c d hx hcc)]
 exact ⟨rfl, One.set Hk _, ((Upd.refl _ _).setCell (Or.inr (by simp)) _).drew⟩
end Go.Proofs.YtalhbbabijlngaaGreatDoor
namespace Go.Proofs.YtalhbbabijlngaaGreatDoor
open Go.RowKit
def Typed (w : World) (a : Option Addr) : Prop := ∀ p, a = some p → ∃ cs, w.heap[p.block]? = some (.cells cs 47 (0, 0))
theorem Typed.nil (w : World) : Typed w none := fun _ h => by cases h
theorem Typed.blk {w : World} {g o : Nat} {X : List Nat} (h : Blk w g X) : Typed w (some ⟨g, o, none⟩) := fun p e => by cases e; exact ⟨_, h⟩
theorem drop_set_self (X : List Nat) (i q : Nat) (hi : i < X.length) : (X.set i q).drop i = q :: X.drop (i + 1) := by
 have h : i < (X.set i q).length := by simpa using hi
 rw [List.drop_eq_getElem_cons h, List.drop_set_of_lt (by omega)]
 simp
theorem div_step (X A : List Nat) (i c d : Nat) (hX : i < X.length) (hA : i < A.length) (he : val (X.drop (i + 1)) * d + c = val (A.drop (i + 1))) :
  val ((X.set i ((c * 4294967296 + A.getD i 0) / d)).drop i) * d + (c * 4294967296 + A.getD i 0) % d = val (A.drop i) := by
 rw [drop_set_self X i _ hX, val_cons, val_drop A i hA, ← he, Nat.add_mul, Nat.mul_assoc]
 have h := Nat.div_add_mod (c * 4294967296 + A.getD i 0) d
 rw [Nat.mul_comm] at h
 generalize (c * 4294967296 + A.getD i 0) / d * d = u1 at *
 generalize (c * 4294967296 + A.getD i 0) % d = u2 at *
 generalize val (X.drop (i + 1)) * d = u3 at *
 omega
theorem div_end (q d c a : Nat) (hc : c < d) (h : q * d + c = a) : q = a / d ∧ c = a % d := by
 subst h
 have hd : 0 < d := by omega
 rw [Nat.mul_comm q d, Nat.mul_add_div hd, Nat.mul_add_mod, Nat.div_eq_of_lt hc, Nat.mod_eq_of_lt hc]
 exact ⟨by omega, rfl⟩
set_option maxHeartbeats 1000000 in
set_option maxRecDepth 100000 in
theorem divByLimb_core2 (a : Option Addr) (ca d : Nat) (A : List Nat) (w : World) (hA : A.length ≤ 1000) (HA : At w a A) (dA : Dig A) (hd0 : 0 < d) (hd : d < 4294967296) :
  Calls Tryz.prog 133 #[.slice a A.length ca, .int .u32 (d : Nat)] w fun e w' =>
   Upd [] w w' ∧ ∃ a' c' M, e = .returned (.tuple #[.slice a' M.length c', .int .u32 ((val A % d : Nat))]) ∧ Norm M (val A / d) ∧ At w' a' M ∧ M.length ≤ A.length ∧ M.length ≤ c' ∧ c' ≤ 9223372036854775807 ∧ Typed w' a' := by
 go_enter Tryz.func133, Tryz.ntmps133
 go_wp2_with (at_make; refine make_u32 _ rfl _ _ rfl _ _ A.length rfl rfl (by omega) (by omega) (by omega) ?_; intro w0 hblk hup)
 refine (dividing_any _ d _ rfl).mono ?_
 rintro e w1 ⟨rfl, hk, hbb, hup1⟩
 have hg := hblk.lt
 go_wp2_with fail
 go_loopw [5, 16] (fun r i wr => ∃ k c : Nat, ∃ X : List Nat, k ≤ A.length ∧ i = .int .i64 k ∧ r = .int .u32 c ∧ Blk wr w.heap.size X ∧ X.length = A.length ∧ Dig X ∧ One wr (w0.heap.size + 1) .u64 128 c ∧ One wr w0.heap.size .u32 47 d ∧ c < d ∧ Upd [] w wr ∧
   val (X.drop (A.length - k)) * d + c = val (A.drop (A.length - k))) (fun _ i _ => A.length - (intOf i).toNat)
 case atStart =>
  refine ⟨0, 0, List.replicate A.length 0, Nat.zero_le _, rfl, rfl, hblk.mono hup1 (by simp), by simp, Dig.replicate _, hk, hbb, hd0, hup.trans hup1, ?_⟩
  rw [Nat.sub_zero, List.drop_of_length_le (by simp), List.drop_of_length_le (Nat.le_refl _)]; simp [val]
 case round =>
  obtain ⟨k, c, X, hk1, rfl, rfl, hX, hXl, dX, hK, hBB, hc, hU, he⟩ := hrel
  have HE : Hid _ := he
  have HL : Hid _ := hXl
  clear he hXl hblk hup hk hbb hup1
  by_cases hk2 : k < A.length
  ·rcases HA.mono hU with h | ⟨ba, oa, rfl, hlta, hca⟩
   ·rw [h] at hk2; simp at hk2
   have hcx := hca (A.length - 1 - k) (by omega)
   obtain ⟨x, hx⟩ : ∃ x, x = A.getD (A.length - 1 - k) 0 := ⟨_, rfl⟩
   rw [← hx] at hcx
   have HX : Hid _ := hx
   have hxl : x < 4294967296 := by rw [hx]; exact dA.getD _
   clear hx hca
   have HI : Hid (A.length - 1 - k + 1 = A.length - k) := by show _ = _; omega
   go_wp2_with fail
   refine (dividing1_any x c d _ _ wr hxl hd hc hK hBB (by omega)).mono ?_
   rintro e w4 ⟨rfl, hK4, hU4⟩
   have hq := quo_lt x c d hxl hc
   have hr := Nat.mod_lt (c * 4294967296 + x) hd0
   have HD : Hid _ := div_step X A (A.length - 1 - k) c d (by rw [HL.out]; omega) (by omega) (by rw [HI.out]; exact HE.out)
   rw [← HX.out] at HD
   generalize (c * 4294967296 + x) / d = q at *
   generalize (c * 4294967296 + x) % d = r at *
   have hX4 := hX.mono hU4 (by simp; omega)
   have hcell := hX4.cell (A.length - 1 - k) (by rw [HL.out]; omega)
   have hfree := hX4.free (A.length - 1 - k)
   have hB4 := hBB.mono hU4 (by simp)
   go_wp2
   go_roundw
   case rel =>
    refine ⟨k + 1, _, _, by omega, by go_num, rfl, hX4.set _ _, by rw [List.length_set]; exact HL.out, dX.set _ _ hq, hK4.other _ (by show w.heap.size ≠ w0.heap.size + 1; omega) _, hB4.other _ (by show w.heap.size ≠ w0.heap.size; omega) _, hr, (hU.then hU4 (by simp; omega)).setCell (Or.inl (Nat.le_refl _)) _, ?_⟩
    rw [show A.length - (k + 1) = A.length - 1 - k by omega]
    exact HD.out
   case measure => simp [intOf]; omega
  ·have hkm : k = A.length := by omega
   go_wp2_with fail
   have hTl := HL.out
   rw [← hTl]
   refine (trimmed_new _ _ X wr (by omega) (Nat.le_refl _) (by omega) hX.at dX).mono ?_
   rintro e w5 ⟨rfl, a', c', M, rfl, hN, hAt, hl, hc1, hc2, hfr⟩
   go_wp2
   go_ret2
   have hv := HE.out
   rw [hkm, Nat.sub_self, List.drop_zero, List.drop_zero] at hv
   obtain ⟨e1, e2⟩ := div_end _ _ _ _ hc hv
   exact ⟨hU, a', c', M, by rw [← e2]; rfl, e1 ▸ hN, hAt, by omega, hc1, hc2, by rcases hfr with h | h <;> rw [h]; exact Typed.nil _; exact Typed.blk hX⟩
theorem divByLimb_new (a : Option Addr) (D : Int) (ca d x : Nat) (A : List Nat) (w : World) (hD : D = (d : Int)) (hA : A.length ≤ 1000) (HA : At w a A) (nA : Norm A x) (hd0 : 0 < d) (hd : d < 4294967296) :
  Calls Tryz.prog 133 #[.slice a A.length ca, .int .u32 D] w fun e w' =>
   Upd [] w w' ∧ ∃ a' c' M, e = .returned (.tuple #[.slice a' M.length c', .int .u32 ((x % d : Nat))]) ∧ Norm M (x / d) ∧ At w' a' M ∧ M.length ≤ A.length ∧ M.length ≤ c' ∧ c' ≤ 9223372036854775807 ∧ Typed w' a' := by
 have h := nA.eq
 subst h hD
 exact divByLimb_core2 a ca d A w hA HA nA.dig hd0 hd
end Go.Proofs.YtalhbbabijlngaaGreatDoor
namespace Go.Proofs.YtalhbbabijlngaaGreatDoor
open Go.RowKit
def dval : List Nat → Nat
 | [] => 0
 | c :: r => (c - 48) + 10 * dval r
def IsDig (D : List Nat) : Prop := ∀ c, c ∈ D → 48 ≤ c ∧ c ≤ 57
theorem IsDig.nil : IsDig [] := fun _ h => by simp at h
theorem IsDig.append {A B : List Nat} (ha : IsDig A) (hb : IsDig B) : IsDig (A ++ B) := fun c hc => by
 rcases List.mem_append.1 hc with h | h
 ·exact ha c h
 ·exact hb c h
theorem IsDig.one (x : Nat) : IsDig [48 + x % 10] := fun c hc => by
 simp only [List.mem_cons, List.not_mem_nil, or_false] at hc
 omega
theorem dval_append (A B : List Nat) : dval (A ++ B) = dval A + 10 ^ A.length * dval B := by
 induction A with
 | nil => simp [dval]
 | cons x r ih =>
  simp only [List.cons_append, dval, ih, List.length_cons, Nat.pow_succ]
  rw [Nat.mul_add, Nat.mul_comm (10 ^ r.length) 10, Nat.mul_assoc]; omega
theorem dval_one (x : Nat) : dval [48 + x] = x := by simp [dval]
theorem chunk_step (E : List Nat) (j low low0 : Nat) (hj : E.length = j) (h : dval E + 10 ^ j * low = low0) : dval (E ++ [48 + low % 10]) + 10 ^ (j + 1) * (low / 10) = low0 := by
 rw [dval_append, dval_one, hj, Nat.pow_succ, Nat.mul_assoc, Nat.add_assoc, ← Nat.mul_add, Nat.mod_add_div]
 exact h
theorem chunk_end (D E : List Nat) (x low0 n : Nat) (hE : E.length = 9) (hlow : low0 = x % 1000000000) (low : Nat) (h : dval E + 10 ^ 9 * low = low0) (hx : dval D + 10 ^ D.length * x = n) :
  dval (D ++ E) + 10 ^ (D ++ E).length * (x / 1000000000) = n := by
 have h1 : low0 < 1000000000 := by rw [hlow]; exact Nat.mod_lt _ (by decide)
 have h2 : low = 0 := by
  rcases Nat.eq_zero_or_pos low with h0 | h0
  ·exact h0
  ·have : 10 ^ 9 * 1 ≤ 10 ^ 9 * low := Nat.mul_le_mul_left _ h0
   have e : (10 : Nat) ^ 9 = 1000000000 := by decide
   rw [e] at *
   omega
 rw [h2, Nat.mul_zero, Nat.add_zero] at h
 rw [dval_append, List.length_append, hE, Nat.pow_add, h, hlow, Nat.add_assoc, Nat.mul_assoc, ← Nat.mul_add]
 have e : (10 : Nat) ^ 9 = 1000000000 := by decide
 rw [e, Nat.mod_add_div]
 exact hx
theorem digits_few (D : List Nat) (x n : Nat) (hx : 0 < x) (h : dval D + 10 ^ D.length * x = n) (hn : n < 4294967296 ^ 32) : D.length ≤ 308 := by
 have h1 : 10 ^ D.length * 1 ≤ 10 ^ D.length * x := Nat.mul_le_mul_left _ hx
 have h2 : (4294967296 : Nat) ^ 32 < 10 ^ 309 := by decide +kernel
 have h3 : 10 ^ D.length < 10 ^ 309 := by
  rw [Nat.mul_one] at h1
  exact Nat.lt_of_le_of_lt (Nat.le_trans h1 (by rw [← h]; exact Nat.le_add_left _ _)) (Nat.lt_trans hn h2)
 have := (Nat.pow_lt_pow_iff_right (a := 10) (by decide)).1 h3
 omega
theorem info_u8 : (Tryz.prog.info? 5).map (fun i => (i.zero, i.size, i.bytes)) = some (some (.int .u8 0), 1, 1) := by kernel_rfl
def OB (w : World) (base : Nat) (v : Value) (D : List Nat) : Prop := w.ownsRow base 5 1 v D.length (D.map (fun n => Value.int .u8 (n : Nat)))
def Sep (w : World) (base : Nat) (a : Option Addr) (M : List Nat) : Prop := M = [] ∨ ∀ p, a = some p → p.block < base ∨ ∃ cs, w.heap[p.block]? = some (.cells cs 47 (0, 0))
theorem Sep.start {w : World} {a : Option Addr} {M : List Nat} (h : At w a M) : Sep w w.heap.size a M := by
 rcases h with h | ⟨b, o, e, hlt, _⟩
 ·exact Or.inl h
 ·exact Or.inr fun p hp => by rw [e] at hp; cases hp; exact Or.inl hlt
theorem at_grown {w w' : World} {base : Nat} {v : Value} {D M : List Nat} {a : Option Addr} {o : Obj} (h : OB w base v D) (hs : Sep w base a M) (hA : At w a M) (hg : (w.alloc o).grownBy w' v.ownBlock) : At w' a M ∧ Sep w' base a M := by
 rcases hs with hs | hs
 ·exact ⟨Or.inl hs, Or.inl hs⟩
 ·have hn : ∀ p, a = some p → v.ownBlock ≠ some p.block := by
   intro p hp e
   obtain ⟨_, ⟨h1, _⟩ | ⟨g, cap, cur, hv, hb, hh, _⟩⟩ := h
   ·rw [h1] at e; simp [Value.ownBlock] at e
   ·rw [hv] at e
    simp only [Value.ownBlock, Option.some.injEq] at e
    rcases hs p hp with h2 | ⟨cs, h2⟩
    ·omega
    ·rw [← e, hh] at h2
     simp at h2
  constructor
  ·rcases hA.mono ((Upd.refl [] w).alloc o) with h | ⟨b, o', e, hlt, hc⟩
   ·exact Or.inl h
   ·exact Or.inr ⟨b, o', e, Nat.lt_of_lt_of_le hlt hg.size, fun i hi => hg.cell (hc i hi) (fun h => hn _ e h.symm)⟩
  ·refine Or.inr fun p hp => ?_
   rcases hs p hp with h1 | ⟨cs, h1⟩
   ·exact Or.inl h1
   ·have h2 := (Below.heap_alloc w o _ (lt_of_block h1)).trans h1
    exact Or.inr ⟨cs, (hg.block p.block (lt_of_block h2) (fun e => hn p hp e.symm)).trans h2⟩
theorem OB.upd {w w' : World} {base : Nat} {v : Value} {D : List Nat} (h : OB w base v D) (hu : Upd [] w w') : OB w' base v D := by
 obtain ⟨h0, h1 | ⟨g, cap, cur, hv, hb, hh, h2⟩⟩ := h
 ·exact ⟨h0, Or.inl h1⟩
 ·exact ⟨h0, Or.inr ⟨g, cap, cur, hv, hb, (hu.block g (lt_of_block hh) (by simp)).trans hh, h2⟩⟩
end Go.Proofs.YtalhbbabijlngaaGreatDoor
namespace Go.Proofs.YtalhbbabijlngaaGreatDoor
open Go.RowKit
theorem OB.snoc {w : World} {base : Nat} {v : Value} {D : List Nat} {x : Nat} (h : w.ownsRow base 5 1 v (D.length + 1) (D.map (fun n => Value.int .u8 (n : Nat)) ++ [.int .u8 ((48 : Int) + (x : Int) % 10)])) : OB w base v (D ++ [48 + x % 10]) := by
 unfold OB
 have e : (D ++ [48 + x % 10]).map (fun n => Value.int .u8 (n : Nat)) = D.map (fun n => Value.int .u8 (n : Nat)) ++ [.int .u8 ((48 : Int) + (x : Int) % 10)] := by
  simp
 rw [e, List.length_append]
 exact h
set_option maxHeartbeats 2000000 in
set_option maxRecDepth 100000 in
theorem digitsUp_any (a : Option Addr) (ca n : Nat) (L : List Nat) (w : World) (hL : L.length ≤ 32) (HL : At w a L) (nL : Norm L n) (hn : n < 4294967296 ^ 32) :
  Calls Tryz.prog 76 #[.slice a L.length ca] w fun e w' => Upd [] w w' ∧ ∃ v D, e = .returned v ∧ OB w' w.heap.size v D ∧ IsDig D ∧ dval D = n ∧ D.length ≤ 400 := by
 obtain ⟨i0, hi, hz0, hz1, hz2⟩ := info_parts info_u8
 have HN : Hid (n < 4294967296 ^ 32) := hn
 clear hn
 have hsep0 := Sep.start HL
 go_enter Tryz.func76, Tryz.ntmps76
 go_wp2_with fail
 go_loopg [0, 3] n (fun g lm v wr => ∃ c' : Nat, ∃ a' : Option Addr, ∃ M D : List Nat, lm = .slice a' M.length c' ∧ Norm M g ∧ At wr a' M ∧ M.length ≤ 32 ∧ Sep wr w.heap.size a' M ∧ OB wr w.heap.size v D ∧ IsDig D ∧ dval D + 10 ^ D.length * g = n ∧ D.length ≤ 400 ∧ Upd [] w wr)
 case atStart => exact ⟨ca, a, L, [], rfl, nL, HL, hL, hsep0, World.ownsRow_nil _ _ _ _, IsDig.nil, by simp [dval], by simp, Upd.refl _ _⟩
 case round =>
  rename World => wo
  rename Nat => gq
  obtain ⟨c', a', M, D, rfl, nM, hM, hMl, hsep, hD, dD, hval, hDl, hU⟩ := hrel
  have HV : Hid _ := hval
  clear hval hsep0
  by_cases hM0 : M = []
  ·subst hM0
   have hg0 := nM.nil_iff.1 rfl
   go_wp2
   go_ret
   refine ⟨hU, _, D, rfl, hD, dD, ?_, hDl⟩
   have := HV.out
   rw [hg0, Nat.mul_zero, Nat.add_zero] at this
   exact this
  ·have hpos : 0 < M.length := by cases M with | nil => exact absurd rfl hM0 | cons x t => simp
   have hg0 : 0 < gq := by
    rcases Nat.eq_zero_or_pos gq with h | h
    ·exact absurd (nM.nil_iff.2 h) hM0
    ·exact h
   have hD308 := digits_few D gq n hg0 HV.out HN.out
   go_wp2_with fail
   refine (divByLimb_new a' _ c' 1000000000 gq M wo rfl (by omega) hM nM (by omega) (by omega)).mono ?_
   rintro e w1 ⟨hU1, a1, c1, M1, rfl, nM1, hM1, hl1, hc11, hc12, hty⟩
   have hsep1 : Sep w1 w.heap.size a1 M1 := Or.inr fun p hp => Or.inr (hty p hp)
   have hD1 := hD.upd hU1
   have hU01 := hU.trans hU1
   have hlow := Nat.mod_lt gq (show 0 < 1000000000 by decide)
   obtain ⟨low0, hlow0⟩ : ∃ low0, low0 = gq % 1000000000 := ⟨_, rfl⟩
   rw [← hlow0] at hlow ⊢
   have HLO : Hid _ := hlow0
   clear hlow0 hsep hM hD hU1 hU hty
   go_wp2_with fail
   go_loopg [3, 4, 13] 9 (fun g v lo i wr => ∃ j low : Nat, ∃ E : List Nat, j + g = 9 ∧ i = .int .i64 j ∧ lo = .int .u32 low ∧ low < 1000000000 ∧ E.length = j ∧ IsDig E ∧ dval E + 10 ^ j * low = low0 ∧ OB wr w.heap.size v (D ++ E) ∧ At wr a1 M1 ∧ Sep wr w.heap.size a1 M1 ∧ Upd [] w wr)
   case atStart => exact ⟨0, low0, [], rfl, rfl, rfl, hlow, rfl, IsDig.nil, by simp [dval], by rw [List.append_nil]; exact hD1, hM1, hsep1, hU01⟩
   case round =>
    obtain ⟨j, low, E, hjg, rfl, rfl, hlowl, hEl, dE, hEv, hOB, hAt, hSep, hUr⟩ := hrel
    have HEL : Hid _ := hEl
    have HEV : Hid _ := hEv
    have HJG : Hid _ := hjg
    have hlen : (D ++ E).length ≤ 317 := by rw [List.length_append, hEl]; omega
    have hj9 : j ≤ 9 := by omega
    have hown : wr.ownsRow w.heap.size 5 1 _ (D ++ E).length ((D ++ E).map (fun n => Value.int .u8 (n : Nat))) := hOB
    clear hEl hEv hjg hD1 hM1 hsep1 hU01
    have hsz := hUr.size
    by_cases hj : j < 9
    ·have HO : Hid _ := hOB
     clear hOB
     go_wp2_with (at_builtin; refine wpList_append_own _ rfl _ _ 52 rfl w.heap.size 5 i0 (.int .u8 0) 1 1 Tryz.underlying52 hi hz0 hz1 hz2 rfl (by decide) _ _ _ rfl (hown.alloc _) ⟨wr.heap.size, 0, none⟩ 1 1 [.int .u8 ((48 : Int) + (low : Int) % 10)] rfl rfl (cell_one_new _ _ _) (by intro u hu; simp at hu; subst hu; rfl) (by unfold maxLen; omega) (by omega) (by simp; omega) ?_; intro v' w2 hown' hgrow _)
     have hg2 := at_grown HO.out hSep hAt hgrow
     go_roundg (gk - 1)
     case measure => have := HJG.out; omega
     case rel =>
      refine ⟨j + 1, low / 10, E ++ [48 + low % 10], by have := HJG.out; omega, by go_num, by go_num, by omega, by rw [List.length_append, HEL.out]; rfl, dE.append (IsDig.one low), chunk_step E j low low0 HEL.out HEV.out, ?_, hg2.1, hg2.2, ?_⟩
      ·rw [← List.append_assoc]; exact OB.snoc hown'
      ·exact (hUr.alloc _).grown hgrow (fun k hk => Or.inl (World.ownsRow.lt HO.out k hk).1)
    ·have hj9' : j = 9 := by omega
     go_wp2
     go_roundg (gq / 1000000000)
     case measure => exact Nat.div_lt_self hg0 (by decide)
     case rel =>
      refine ⟨c1, a1, M1, D ++ E, rfl, nM1, hAt, by omega, hSep, hOB, dD.append dE, ?_, by omega, hUr⟩
      refine chunk_end D E gq low0 n (by rw [HEL.out, hj9']) HLO.out low ?_ HV.out
      rw [← hj9']; exact HEV.out
end Go.Proofs.YtalhbbabijlngaaGreatDoor
