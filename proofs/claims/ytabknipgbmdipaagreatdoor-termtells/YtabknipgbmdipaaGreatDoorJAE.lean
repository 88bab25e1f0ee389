/- An atom's bytes, as they are written: isLower, inName, byteText, by their contracts. -/
import Derived.Test.YtabknipgbmdipaaGreatDoorJAB
import Derived.Test.YtabknipgbmdipaaGreatDoorJAD
import Derived.Test.YtabknipgbmdipaaGreatDoorJAA

namespace Go.Proofs.YtabknipgbmdipaaGreatDoor
open Go.RowKit

/-- A row of bytes as a string; a string's bytes. -/
def str (l : List UInt8) : ByteArray := ⟨l.toArray⟩
def byt (s : ByteArray) : List UInt8 := s.data.toList
theorem byt_str (l : List UInt8) : byt (str l) = l := rfl
theorem str_byt (s : ByteArray) : str (byt s) = s := by show ByteArray.mk s.data.toList.toArray = s; rw [Array.toArray_toList]
theorem byt_len (s : ByteArray) : (byt s).length = s.size := by show s.data.toList.length = s.data.size; rw [Array.length_toList]

def lowB (c : UInt8) : Bool := decide ((97 : Int) ≤ c.toNat) && decide ((c.toNat : Int) ≤ 122)
def nameB (c : UInt8) : Bool := lowB c || (decide ((65 : Int) ≤ c.toNat) && decide ((c.toNat : Int) ≤ 90)) || (decide ((48 : Int) ≤ c.toNat) && decide ((c.toNat : Int) ≤ 57)) || (c.toNat : Int) == 95 || (c.toNat : Int) == 64
def hexD (n : Nat) : UInt8 := [48, 49, 50, 51, 52, 53, 54, 55, 56, 57, 97, 98, 99, 100, 101, 102].getD n 0
/-- A byte as it stands between quotes. -/
def byteTx (c : UInt8) : List UInt8 := if c.toNat = 92 ∨ c.toNat = 39 then [92, c] else if c.toNat = 10 then [92, 110] else if c.toNat < 32 ∨ 126 < c.toNat then [92, 120, hexD (c.toNat / 16), hexD (c.toNat % 16)] else [c]

set_option maxHeartbeats 400000 in
theorem isLower_any (c : UInt8) (w : World) : Calls Tryz.prog 134 #[.int .u8 c.toNat] w fun e w' => e = .returned (.bool (lowB c)) ∧ w' = w := by
  go_enter Tryz.func134, Tryz.ntmps134
  go_wp2
  all_goals
    go_ret
    refine ⟨ret_bool ?_, rfl⟩
    rw [Bool.eq_iff_iff]
    simp [lowB] at * <;> omega

set_option maxHeartbeats 1000000 in
theorem inName_any (c : UInt8) (w : World) : Calls Tryz.prog 135 #[.int .u8 c.toNat] w fun e w' => e = .returned (.bool (nameB c)) ∧ w' = w := by
  go_enter Tryz.func135, Tryz.ntmps135
  go_wp2_with (go_at_call 134; refine (isLower_any _ _).mono ?_; rintro e w' ⟨rfl, rfl⟩)
  all_goals
    go_ret
    refine ⟨ret_bool ?_, rfl⟩
    rw [Bool.eq_iff_iff]
    simp [nameB, lowB] at * <;> omega

theorem hex_at (k : Nat) (hk : k < 16) (w : World) : (Instr.index 9 (.string ⟨#[48, 49, 50, 51, 52, 53, 54, 55, 56, 57, 97, 98, 99, 100, 101, 102]⟩) (.int .u8 (k : Int))).run Tryz.prog w = .ok (.int .u8 (hexD k).toNat) w := by
  obtain rfl | rfl | rfl | rfl | rfl | rfl | rfl | rfl | rfl | rfl | rfl | rfl | rfl | rfl | rfl | rfl : k = 0 ∨ k = 1 ∨ k = 2 ∨ k = 3 ∨ k = 4 ∨ k = 5 ∨ k = 6 ∨ k = 7 ∨ k = 8 ∨ k = 9 ∨ k = 10 ∨ k = 11 ∨ k = 12 ∨ k = 13 ∨ k = 14 ∨ k = 15 := by omega
  all_goals kernel_rfl

/-- A new row of bytes, as a string. -/
theorem conv_new (w : World) (l : List UInt8) (n : Nat) (hn : l.length = n) (cs : Array Value) (hc : cs = (Lib.byteCells l).toArray) :
    (convert 52 9 (.slice (some ⟨w.heap.size, 0, none⟩) n n)).run Tryz.prog (w.alloc (.cells cs 5)) = .ok (.string (str l)) (w.alloc (.cells cs 5)) := by
  subst hn hc
  refine run_convert_bytes_back (P := Tryz.prog) _ 52 9 5 ⟨w.heap.size, 0, none⟩ l.length l Tryz.underlying52 Tryz.underlying5 Tryz.underlying9 (fun j hj => ?_)
  rw [Addr.add_lit, Nat.zero_add, Lib.cell_of_heap (heap_alloc_new w (.cells (Lib.byteCells l).toArray 5)) j]
  simp [Lib.byteCells, hj]

theorem byteTx_1 (c : UInt8) (h : c.toNat = 92 ∨ c.toNat = 39) : byteTx c = [92, c] := by unfold byteTx; rw [if_pos h]
theorem byteTx_2 (c : UInt8) (h : c.toNat = 10) : byteTx c = [92, 110] := by unfold byteTx; rw [if_neg (by omega), if_pos h]
theorem byteTx_3 (c : UInt8) (h : ¬ (c.toNat = 92 ∨ c.toNat = 39)) (h2 : c.toNat ≠ 10) (h3 : c.toNat < 32 ∨ 126 < c.toNat) : byteTx c = [92, 120, hexD (c.toNat / 16), hexD (c.toNat % 16)] := by unfold byteTx; rw [if_neg h, if_neg h2, if_pos h3]
theorem byteTx_4 (c : UInt8) (h : ¬ (c.toNat = 92 ∨ c.toNat = 39)) (h2 : c.toNat ≠ 10) (h3 : ¬ (c.toNat < 32 ∨ 126 < c.toNat)) : byteTx c = [c] := by unfold byteTx; rw [if_neg h, if_neg h2, if_neg h3]

set_option maxHeartbeats 1000000 in
set_option maxRecDepth 100000 in
theorem byteText_1 (c : UInt8) (w : World) (h : c.toNat = 92 ∨ c.toNat = 39) : Calls Tryz.prog 80 #[.int .u8 c.toNat] w fun e w' => e = .returned (.string (str [92, c])) ∧ Upd [] w w' := by
  by_cases h1 : c.toNat = 92
  · have d1 : ((c.toNat : Int) == 92) = true := by simp; omega
    clear h h1
    have hcv := conv_new w [92, c] 2 rfl #[.int .u8 92, .int .u8 c.toNat] rfl
    go_enter Tryz.func80, Tryz.ntmps80
    go_wp2
    go_ret
    exact ⟨rfl, Upd.alloc (Upd.refl _ _) _⟩
  · have d1 : ((c.toNat : Int) == 92) = false := by simp; omega
    have d2 : ((c.toNat : Int) == 39) = true := by simp; omega
    clear h h1
    have hcv := conv_new w [92, c] 2 rfl #[.int .u8 92, .int .u8 c.toNat] rfl
    go_enter Tryz.func80, Tryz.ntmps80
    go_wp2
    go_ret
    exact ⟨rfl, Upd.alloc (Upd.refl _ _) _⟩

set_option maxHeartbeats 1000000 in
set_option maxRecDepth 100000 in
theorem byteText_2 (c : UInt8) (w : World) (h : c.toNat = 10) : Calls Tryz.prog 80 #[.int .u8 c.toNat] w fun e w' => e = .returned (.string (str [92, 110])) ∧ Upd [] w w' := by
  have d1 : ((c.toNat : Int) == 92) = false := by simp; omega
  have d2 : ((c.toNat : Int) == 39) = false := by simp; omega
  have d3 : ((c.toNat : Int) == 10) = true := by simp; omega
  go_enter Tryz.func80, Tryz.ntmps80
  go_wp2
  go_ret
  exact ⟨rfl, Upd.refl _ _⟩

set_option maxHeartbeats 1000000 in
set_option maxRecDepth 100000 in
theorem byteText_4 (c : UInt8) (w : World) (h : ¬ (c.toNat = 92 ∨ c.toNat = 39)) (h2 : c.toNat ≠ 10) (h3 : ¬ (c.toNat < 32 ∨ 126 < c.toNat)) : Calls Tryz.prog 80 #[.int .u8 c.toNat] w fun e w' => e = .returned (.string (str [c])) ∧ Upd [] w w' := by
  have d1 : ((c.toNat : Int) == 92) = false := by simp; omega
  have d2 : ((c.toNat : Int) == 39) = false := by simp; omega
  have d3 : ((c.toNat : Int) == 10) = false := by simp; omega
  have d4 : decide ((c.toNat : Int) < 32) = false := by simp; omega
  have d5 : decide ((c.toNat : Int) > 126) = false := by simp; omega
  have d6 : decide ((126 : Int) < (c.toNat : Int)) = false := by simp; omega
  have hcv := conv_new w [c] 1 rfl #[.int .u8 c.toNat] rfl
  go_enter Tryz.func80, Tryz.ntmps80
  go_wp2
  go_ret
  exact ⟨rfl, Upd.alloc (Upd.refl _ _) _⟩

set_option maxHeartbeats 1000000 in
set_option maxRecDepth 100000 in
theorem byteText_3 (c : UInt8) (w : World) (_h : ¬ (c.toNat = 92 ∨ c.toNat = 39)) (h2 : c.toNat ≠ 10) (h3 : c.toNat < 32 ∨ 126 < c.toNat) : Calls Tryz.prog 80 #[.int .u8 c.toNat] w fun e w' => e = .returned (.string (str [92, 120, hexD (c.toNat / 16), hexD (c.toNat % 16)])) ∧ Upd [] w w' := by
  have d1 : ((c.toNat : Int) == 92) = false := by simp; omega
  have d2 : ((c.toNat : Int) == 39) = false := by simp; omega
  have d3 : ((c.toNat : Int) == 10) = false := by simp; omega
  have hcl := c.toNat_lt
  have i1 : ∀ w, (Instr.index 9 (.string ⟨#[48, 49, 50, 51, 52, 53, 54, 55, 56, 57, 97, 98, 99, 100, 101, 102]⟩) (.int .u8 ((c.toNat : Int) / 16))).run Tryz.prog w = .ok (.int .u8 (hexD (c.toNat / 16)).toNat) w := fun w => by
    have := hex_at (c.toNat / 16) (by omega) w
    simpa using this
  have i2 : ∀ w, (Instr.index 9 (.string ⟨#[48, 49, 50, 51, 52, 53, 54, 55, 56, 57, 97, 98, 99, 100, 101, 102]⟩) (.int .u8 ((c.toNat : Int) % 16))).run Tryz.prog w = .ok (.int .u8 (hexD (c.toNat % 16)).toNat) w := fun w => by
    have := hex_at (c.toNat % 16) (by omega) w
    simpa using this
  have hcv : (convert 52 9 (.slice (some ⟨w.heap.size, 0, none⟩) 4 4)).run Tryz.prog (w.alloc (.cells #[.int .u8 92, .int .u8 120, .int .u8 (hexD (c.toNat / 16)).toNat, .int .u8 (hexD (c.toNat % 16)).toNat] 5)).drew = .ok (.string (str [92, 120, hexD (c.toNat / 16), hexD (c.toNat % 16)])) (w.alloc (.cells #[.int .u8 92, .int .u8 120, .int .u8 (hexD (c.toNat / 16)).toNat, .int .u8 (hexD (c.toNat % 16)).toNat] 5)).drew := conv_new w.drew [92, 120, hexD (c.toNat / 16), hexD (c.toNat % 16)] 4 rfl _ rfl
  go_enter Tryz.func80, Tryz.ntmps80
  go_wp2_with fail
  all_goals
    go_region
    go_wp2
    go_ret
    exact ⟨rfl, Upd.drew (Upd.alloc (Upd.refl _ _) _)⟩

theorem byteText_any (c : UInt8) (w : World) : Calls Tryz.prog 80 #[.int .u8 c.toNat] w fun e w' => e = .returned (.string (str (byteTx c))) ∧ Upd [] w w' := by
  by_cases h1 : c.toNat = 92 ∨ c.toNat = 39
  · rw [byteTx_1 c h1]; exact byteText_1 c w h1
  · by_cases h2 : c.toNat = 10
    · rw [byteTx_2 c h2]; exact byteText_2 c w h2
    · by_cases h3 : c.toNat < 32 ∨ 126 < c.toNat
      · rw [byteTx_3 c h1 h2 h3]; exact byteText_3 c w h1 h2 h3
      · rw [byteTx_4 c h1 h2 h3]; exact byteText_4 c w h1 h2 h3
end Go.Proofs.YtabknipgbmdipaaGreatDoor

/- Which atoms are plain: plain, by its contract. -/
namespace Go.Proofs.YtabknipgbmdipaaGreatDoor
open Go.RowKit

def resW : List (List UInt8) := [[97, 102, 116, 101, 114], [97, 110, 100], [97, 110, 100, 97, 108, 115, 111], [98, 101, 103, 105, 110], [99, 97, 115, 101], [100, 105, 118], [101, 110, 100], [102, 117, 110], [105, 102], [110, 111, 116], [111, 102], [111, 114], [111, 114, 101, 108, 115, 101], [114, 101, 99, 101, 105, 118, 101], [114, 101, 109], [116, 114, 121], [99, 97, 116, 99, 104], [119, 104, 101, 110], [120, 111, 114]]
/-- Atoms of these bytes need no quotes. -/
def plainB (l : List UInt8) : Bool := !l.isEmpty && lowB (l.headD 0) && l.all nameB && !(resW.contains l)

/-- The words are as the text lays them. -/
def Wds (w : World) : Prop := ∃ bw o c, w.cell? ⟨0, 0, none⟩ = some (.slice (some ⟨bw, o, none⟩) 19 c) ∧ 19 ≤ c ∧ ∀ i, i < 19 → w.cell? ⟨bw, o + i, none⟩ = some (.string (str (resW.getD i [])))
theorem lt_of_cell {w : World} {a : Addr} {v : Value} (h : w.cell? a = some v) : a.block < w.heap.size := by
  rcases Nat.lt_or_ge a.block w.heap.size with h' | h'
  · exact h'
  · simp [World.cell?, Array.getElem?_eq_none h'] at h
theorem Wds.mono {w w' : World} (h : Wds w) (hu : Upd [] w w') : Wds w' := by
  obtain ⟨bw, o, c, h1, h2, h3⟩ := h
  exact ⟨bw, o, c, (hu.cell (lt_of_cell h1) (by simp)).trans h1, h2, fun i hi => (hu.cell (lt_of_cell (h3 i hi)) (by simp)).trans (h3 i hi)⟩

theorem beq_str (s t : ByteArray) : (s.toList == t.toList) = (byt s == byt t) := by rw [Lib.toList_data, Lib.toList_data]; rfl
theorem getD_getD (l : List (List UInt8)) (k : Nat) : l[k]?.getD [] = l.getD k [] := by simp [List.getD]
theorem headD_get (l : List UInt8) (h : 0 < l.length) : l.headD 0 = l[0] := by
  cases l with
  | nil => simp at h
  | cons c r => rfl
theorem head_byt (s : ByteArray) (h : 0 < s.size) : (byt s).headD 0 = s[0] := by
  rw [headD_get _ (by rw [byt_len]; exact h)]
  rfl
theorem not_word (s : List UInt8) (h : ∀ j, j < 19 → (s == resW.getD j []) = false) : resW.contains s = false := by
  rw [Bool.eq_false_iff]
  intro hc
  simp only [List.contains_iff_mem] at hc
  obtain ⟨i, hi, e⟩ := List.mem_iff_getElem.1 hc
  have := h i hi
  simp only [List.getD, hi, List.getElem?_eq_getElem, Option.getD_some, e] at this
  simp at this
theorem is_word (s : List UInt8) (k : Nat) (hk : k < 19) (h : (s == resW.getD k []) = true) : resW.contains s = true := by
  simp only [List.contains_iff_mem]
  rw [beq_iff_eq] at h
  rw [h]
  have hk' : k < resW.length := hk
  simp only [List.getD, List.getElem?_eq_getElem hk', Option.getD_some]
  exact List.getElem_mem hk'
theorem plainB_nil (s : ByteArray) (h : s.size = 0) : plainB (byt s) = false := by
  have : byt s = [] := List.eq_nil_of_length_eq_zero (by rw [byt_len]; exact h)
  rw [this]; rfl
theorem plainB_low (s : ByteArray) (h0 : 0 < s.size) (h : lowB s[0] = false) : plainB (byt s) = false := by
  unfold plainB; rw [head_byt s h0, h]; simp
theorem plainB_name (s : ByteArray) (k : Nat) (hk : k < s.size) (h : nameB s[k] = false) : plainB (byt s) = false := by
  have : (byt s).all nameB = false := by
    rw [List.all_eq_false]
    have hk' : k < (byt s).length := by rw [byt_len]; exact hk
    have e : nameB (byt s)[k] = false := h
    exact ⟨(byt s)[k], List.getElem_mem hk', by rw [e]; simp⟩
  unfold plainB; rw [this]; simp
theorem plainB_word (s : ByteArray) (h : resW.contains (byt s) = true) : plainB (byt s) = false := by unfold plainB; rw [h]; simp
theorem plainB_all (s : ByteArray) (h0 : 0 < s.size) (h1 : lowB s[0] = true) (h2 : ∀ k (hk : k < s.size), nameB s[k] = true) (h3 : resW.contains (byt s) = false) : plainB (byt s) = true := by
  have e1 : (byt s).isEmpty = false := by
    cases e : byt s with
    | nil => have := byt_len s; rw [e] at this; simp at this; omega
    | cons => rfl
  have e2 : (byt s).all nameB = true := by
    rw [List.all_eq_true]
    intro x hx
    obtain ⟨i, hi, e⟩ := List.mem_iff_getElem.1 hx
    rw [← e]
    exact h2 i (by rw [← byt_len]; exact hi)
  unfold plainB; rw [head_byt s h0, h1, h3, e1, e2]; rfl

set_option maxHeartbeats 1000000 in
set_option maxRecDepth 100000 in
theorem plain_any (s : ByteArray) (w : World) (hs : s.size ≤ 1000000000) (hg : Wds w) : Calls Tryz.prog 78 #[.string s] w fun e w' => e = .returned (.bool (plainB (byt s))) ∧ w' = w := by
  obtain ⟨bw, o, c, g1, g2, g3⟩ := hg
  have G3 : Hid (∀ i, i < 19 → w.cell? ⟨bw, o + i, none⟩ = some (.string (str (resW.getD i [])))) := g3
  clear g3
  have hE := empty_of s
  by_cases h0 : s.size = 0
  · rw [plainB_nil s h0]
    rw [decide_eq_true h0] at hE
    go_enter Tryz.func78, Tryz.ntmps78
    go_wp2
    go_ret
    exact ⟨rfl, rfl⟩
  · have h0' : 0 < s.size := by omega
    rw [decide_eq_false h0] at hE
    cases hl : lowB s[0] with
    | false =>
      rw [plainB_low s h0' hl]
      go_enter Tryz.func78, Tryz.ntmps78
      go_wp2_with (go_at_call 134; refine (isLower_any _ _).mono ?_; rintro e w' ⟨rfl, rfl⟩)
      go_ret
      exact ⟨rfl, rfl⟩
    | true =>
      go_enter Tryz.func78, Tryz.ntmps78
      go_wp2_with (go_at_call 134; refine (isLower_any _ _).mono ?_; rintro e w' ⟨rfl, rfl⟩)
      go_loop [16] (fun i => ∃ k : Nat, k ≤ s.size ∧ i = .int .i64 k ∧ ∀ j (hj : j < s.size), j < k → nameB s[j] = true) (fun i => s.size - (intOf i).toNat)
      case atStart => exact ⟨0, Nat.zero_le _, rfl, fun j _ hj => by omega⟩
      case round =>
        obtain ⟨k, hk, rfl, he⟩ := hrel
        have HE : Hid _ := he
        clear he
        by_cases hlt : k < s.size
        · cases hn : nameB s[k] with
          | false =>
            go_wp2_with (go_at_call 135; refine (inName_any _ _).mono ?_; rintro e w' ⟨rfl, rfl⟩)
            go_ret
            exact ⟨ret_bool (plainB_name s k hlt hn).symm, rfl⟩
          | true =>
            go_wp2_with (go_at_call 135; refine (inName_any _ _).mono ?_; rintro e w' ⟨rfl, rfl⟩)
            go_round
            case rel => exact ⟨k + 1, by omega, by go_num, fun j hj hjk => by
              by_cases h : j = k
              · subst h; exact hn
              · exact HE.out j hj (by omega)⟩
            case measure => simp [intOf]; omega
        · have hd : decide ((k : Int) < s.size) = false := by simp; omega
          have hall : ∀ j (hj : j < s.size), nameB s[j] = true := fun j hj => HE.out j hj (by omega)
          have HA : Hid (∀ j (hj : j < s.size), nameB s[j] = true) := hall
          clear hall HE
          go_wp2
          clear hd hlt hk
          go_loop [27] (fun i => ∃ k : Nat, k ≤ 19 ∧ i = .int .i64 k ∧ ∀ j, j < k → (byt s == resW.getD j []) = false) (fun i => 19 - (intOf i).toNat)
          case atStart => exact ⟨0, Nat.zero_le _, rfl, fun j hj => by omega⟩
          case round =>
            obtain ⟨k, hk, rfl, he⟩ := hrel
            have HE : Hid _ := he
            clear he
            by_cases hlt : k < 19
            · have hc := G3.out k hlt
              have hj1 : ((k : Int) < 19) := by omega
              go_wp2
              · have hc : (s.toList == (str (resW[k]?.getD [])).toList) = true := by assumption
                rw [beq_str, byt_str, getD_getD] at hc
                go_ret
                exact ⟨ret_bool (plainB_word s (is_word _ k hlt hc)).symm, rfl⟩
              · have hc : (s.toList == (str (resW[k]?.getD [])).toList) = false := by assumption
                rw [beq_str, byt_str, getD_getD] at hc
                go_round
                case rel => exact ⟨k + 1, by omega, by go_num, fun j hj => by
                  by_cases h : j = k
                  · rw [h]; exact hc
                  · exact HE.out j (by omega)⟩
                case measure => simp [intOf]; omega
            · have hk19 : decide ((k : Int) < 19) = false := by simp; omega
              go_wp2
              go_ret
              exact ⟨ret_bool (plainB_all s h0' hl HA.out (not_word _ (fun j hj => HE.out j (by omega)))).symm, rfl⟩
end Go.Proofs.YtabknipgbmdipaaGreatDoor

/- An atom's text: atomText, by its contract. -/
namespace Go.Proofs.YtabknipgbmdipaaGreatDoor
open Go.RowKit

/-- An atom's text. -/
def atomTx (l : List UInt8) : List UInt8 := if plainB l then l else 39 :: (l.flatMap byteTx ++ [39])
theorem byteTx_len (c : UInt8) : (byteTx c).length ≤ 4 := by unfold byteTx; repeat' split
                                                             all_goals simp
theorem flat_len (l : List UInt8) : (l.flatMap byteTx).length ≤ 4 * l.length := by
  induction l with
  | nil => simp
  | cons c r ih => simp only [List.flatMap_cons, List.length_append, List.length_cons]; have := byteTx_len c; omega
theorem atomTx_len (l : List UInt8) : (atomTx l).length ≤ 4 * l.length + 2 := by
  unfold atomTx
  have := flat_len l
  split
  · omega
  · rw [List.length_cons, List.length_append, List.length_singleton]; omega

theorem Upd.of_below {w w' : World} (h : Below w.heap.size w w') : Upd [] w w' := ⟨h.os, h.tape, h.output, h.size, fun k hk _ => h.block k hk⟩
theorem Kp.upd {b : Nat} {w w' : World} (h : Kp b w w') (hb : b = w.heap.size) : Upd [] w w' := by subst hb; exact Upd.of_below h.below
theorem Bd.upd {w w' : World} {b : Nat} {bs : List Value} (h : Bd w b bs) (hu : Upd [] w w') : Bd w' b bs := by
  have key : ∀ p, Lib.BuilderAtF 54 5 b b p bs w → Lib.BuilderAtF 54 5 b b p bs w' := by
    intro p h
    have hlt := h.lt
    obtain ⟨hB, v, hb, hown, hne⟩ := h
    exact ⟨hB, v, (hu.block b hlt (by simp)).trans hb, hown.kept (row := none) ⟨hu.os, hu.tape, hu.output, hu.size, fun k hk _ => hu.block k hk (by simp)⟩ (by cases hv : v.ownBlock <;> simp), hne⟩
  exact h.elim (fun x => Or.inl (key _ x)) (fun x => Or.inr (key _ x))
theorem Bd.lt {w : World} {b : Nat} {bs : List Value} (h : Bd w b bs) : b < w.heap.size := by rcases h with h | h <;> exact h.lt
theorem Bd.fresh (w : World) : Bd (w.alloc (.cells #[.pointer none, .slice none 0 0] 54)) w.heap.size [] := Lib.IsBuilderF.of (Lib.fresh_isBuilder _ _ w)
/-- What comes behind an older world, with a builder that lies beyond it. -/
theorem Upd.kp {b : Nat} {w w1 w' : World} (h : Upd [] w w1) (hb : w.heap.size ≤ b) (k : Kp b w1 w') : Upd [] w w' :=
  ⟨k.below.os.trans h.os, k.below.tape.trans h.tape, k.below.output.trans h.output, Nat.le_trans h.size k.below.size, fun i hi hn => (k.below.block i (by omega)).trans (h.block i hi hn)⟩
theorem flat_take (l : List UInt8) (k : Nat) (hk : k < l.length) : (l.take (k + 1)).flatMap byteTx = (l.take k).flatMap byteTx ++ byteTx l[k] := by
  rw [List.take_succ_eq_append_getElem hk, List.flatMap_append]; simp
theorem cells_add (l : List UInt8) (m : List UInt8) : Lib.byteCells l ++ Lib.strCells (str m) = Lib.byteCells (l ++ m) := by rw [Lib.byteCells_append]; rfl
theorem Bd.cast39 {w : World} {b : Nat} {l : List UInt8} (h : Bd w b (Lib.byteCells l ++ [.int .u8 39])) : Bd w b (Lib.byteCells (l ++ [39])) := by rw [Lib.byteCells_append]; exact h
theorem str_size (l : List UInt8) : (str l).size = l.length := by rw [← byt_len, byt_str]

set_option maxHeartbeats 1000000 in
set_option maxRecDepth 100000 in
theorem atomText_any (s : ByteArray) (w : World) (hs : s.size ≤ 1000000000) (hg : Wds w) : Calls Tryz.prog 47 #[.string s] w fun e w' => e = .returned (.string (str (atomTx (byt s)))) ∧ Upd [] w w' := by
  cases hp : plainB (byt s) with
  | true =>
    have e : atomTx (byt s) = byt s := by unfold atomTx; rw [hp]; rfl
    rw [e, str_byt]
    go_enter Tryz.func47, Tryz.ntmps47
    go_wp2_with (go_at_call 78; refine (plain_any _ _ hs hg).mono ?_; rintro e w' ⟨rfl, rfl⟩)
    go_ret
    exact ⟨rfl, Upd.refl _ _⟩
  | false =>
    have HG : Hid (Wds w) := hg
    clear hg
    go_enter Tryz.func47, Tryz.ntmps47
    go_wp2_with (first
      | (go_at_call 78; refine (plain_any _ _ hs HG.out).mono ?_; rintro e w' ⟨rfl, rfl⟩)
      | (go_at_call 79; refine (WriteByte_any _ _ _ _ (Bd.fresh _) (by simp)).mono ?_; rintro e w1 ⟨rfl, hB1, hK1⟩))
    have hU1 : Upd [] w' w1 := Upd.kp (Upd.alloc (Upd.refl _ _) _) (Nat.le_refl _) hK1
    have hB1' : Bd w1 w'.heap.size (Lib.byteCells (39 :: ((byt s).take 0).flatMap byteTx)) := hB1
    have HB1 : Hid (Bd w1 w'.heap.size (Lib.byteCells (39 :: ((byt s).take 0).flatMap byteTx))) := hB1'
    have HU1 : Hid (Upd [] w' w1) := hU1
    clear hB1 hK1 hU1 hB1' HG
    generalize hb : w'.heap.size = b at *
    have Hb : Hid (w'.heap.size = b) := hb
    clear hb
    go_loopw [11] (fun i wr => ∃ k : Nat, k ≤ s.size ∧ i = .int .i64 k ∧ Bd wr b (Lib.byteCells (39 :: ((byt s).take k).flatMap byteTx)) ∧ Upd [] w' wr) (fun i _ => s.size - (intOf i).toNat)
    case atStart => exact ⟨0, Nat.zero_le _, rfl, HB1.out, HU1.out⟩
    case round =>
      obtain ⟨k, hk, rfl, hB, hU⟩ := hrel
      have HB : Hid (Bd wr b (Lib.byteCells (39 :: ((byt s).take k).flatMap byteTx))) := hB
      have HU : Hid (Upd [] w' wr) := hU
      clear hB hU
      have hfl : (39 :: ((byt s).take k).flatMap byteTx).length ≤ 4 * s.size + 1 := by
        have h1 := flat_len ((byt s).take k)
        have h2 : ((byt s).take k).length ≤ (byt s).length := by rw [List.length_take]; omega
        rw [byt_len] at h2
        rw [List.length_cons]; omega
      by_cases hlt : k < s.size
      · have hlen : (Lib.byteCells (39 :: ((byt s).take k).flatMap byteTx)).length + (str (byteTx s[k])).size ≤ 140737488355328 := by
          rw [Lib.byteCells_length, str_size]; have := byteTx_len s[k]; omega
        have HL : Hid _ := hlen
        clear hlen
        go_wp2_with (first
          | (go_at_call 43; have _ := uw2; refine (WriteString_any _ _ _ _ (HB.out.upd uw2) HL.out).mono ?_; rintro e w3 ⟨rfl, hB3, hK3⟩)
          | (go_at_call 80; refine (byteText_any _ _).mono ?_; rintro e w2 ⟨rfl, uw2⟩))
        have hk2 : k < (byt s).length := by rw [byt_len]; exact hlt
        have e : Lib.byteCells (39 :: ((byt s).take k).flatMap byteTx) ++ Lib.strCells (str (byteTx s[k])) = Lib.byteCells (39 :: ((byt s).take (k + 1)).flatMap byteTx) := by
          rw [cells_add, flat_take _ _ hk2]; rfl
        have hB3' : Bd w3 b (Lib.byteCells (39 :: ((byt s).take (k + 1)).flatMap byteTx)) := by rw [← e]; exact hB3
        refine ⟨⟨k + 1, by omega, by go_num, hB3', Upd.kp (HU.out.trans uw2) (by have := Hb.out; omega) hK3⟩, ?_⟩
        simp [intOf]; omega
      · have hd : decide ((k : Int) < s.size) = false := by simp; omega
        go_wp2_with (first
          | (go_at_call 49; have _ := hK4; refine (String_any _ _ _ hB4).mono ?_; rintro e w5 ⟨rfl, hB5, hK5⟩)
          | (go_at_call 79; refine (WriteByte_any _ _ _ _ HB.out (by rw [Lib.byteCells_length]; omega)).mono ?_; rintro e w4 ⟨rfl, hB4, hK4⟩; have hB4 := hB4.cast39))
        go_ret
        have e : (byt s).take k = byt s := List.take_of_length_le (by rw [byt_len]; omega)
        have e2 : atomTx (byt s) = 39 :: (List.flatMap byteTx (List.take k (byt s)) ++ [39]) := by unfold atomTx; rw [hp, e]; rfl
        rw [e2]
        exact ⟨rfl, Upd.kp (Upd.kp HU.out (by have := Hb.out; omega) hK4) (by have := Hb.out; omega) hK5⟩
end Go.Proofs.YtabknipgbmdipaaGreatDoor

/- The contract of the closure that divides. -/
namespace Go.Proofs.YtabknipgbmdipaaGreatDoor
open Go.RowKit

theorem quo_wrap (V d : Nat) (hq : V / d < 4294967296) : IntKind.u64.wrap ((V : Int) / (d : Int)) % 4294967296 = ((V / d : Nat) : Int) := by
  have e : (V : Int) / (d : Int) = ((V / d : Nat) : Int) := by simp
  rw [e]
  generalize V / d = q at *
  simp only [IntKind.wrap_u64]
  omega

set_option maxHeartbeats 400000 in
theorem dividing1_core (x c d V bk bb : Nat) (w : World) (hd0 : 0 < d) (hd : d < 4294967296) (hx : x < 4294967296) (hc : c < 4294967296)
    (hk : w.cell? ⟨bk, 0, none⟩ = some (.int .u64 (c : Nat))) (hkf : w.frozen? ⟨bk, 0, none⟩ = false) (_hbb : w.cell? ⟨bb, 0, none⟩ = some (.int .u32 (d : Nat)))
    (hoth : ∀ v, (w.setCell ⟨bk, 0, none⟩ v).cell? ⟨bb, 0, none⟩ = some (.int .u32 (d : Nat))) (hr : V % d < d)
    (hor : bits BinOp.or IntKind.u64 ((c : Int) * 4294967296) (x : Int) = (V : Nat)) :
    Calls Tryz.prog 197 #[.int .u32 (x : Nat), .pointer (some ⟨bk, 0, none⟩), .pointer (some ⟨bb, 0, none⟩)] w fun e w' =>
      e = .returned (.tuple #[.int .u32 (IntKind.u64.wrap ((V : Int) / (d : Int)) % 4294967296), .int .u32 ((V % d : Nat))]) ∧ w' = (w.setCell ⟨bk, 0, none⟩ (.int .u64 ((V % d : Nat)))).drew := by
  go_enter Tryz.func197, Tryz.ntmps197
  go_wp2
  go_region
  all_goals go_wp2
  all_goals go_ret2
  all_goals rw [setCell_twice]
  all_goals exact ⟨by simp, by simp⟩

/-- dividing's closure: the digit, and what is left over. -/
theorem dividing1_any (x c d bk bb : Nat) (w : World) (hx : x < 4294967296) (hd : d < 4294967296) (hcc : c < d) (Hk : One w bk .u64 128 c) (Hb : One w bb .u32 47 d) (hne : bk ≠ bb) :
    Calls Tryz.prog 197 #[.int .u32 (x : Nat), .pointer (some ⟨bk, 0, none⟩), .pointer (some ⟨bb, 0, none⟩)] w fun e w' =>
      e = .returned (.tuple #[.int .u32 (((c * 4294967296 + x) / d : Nat)), .int .u32 (((c * 4294967296 + x) % d : Nat))]) ∧ One w' bk .u64 128 ((c * 4294967296 + x) % d) ∧ Upd [bk] w w' := by
  refine (dividing1_core x c d (c * 4294967296 + x) bk bb w (by omega) hd hx (by omega) Hk.cell Hk.free Hb.cell
    (fun v => (World.cell?_setCell_other _ _ _ _ (by simp)).trans Hb.cell) (Nat.mod_lt _ (by omega)) (or_shift c x (by omega) hx)).mono ?_
  rintro e w' ⟨rfl, rfl⟩
  rw [quo_wrap _ _ (quo_lt x c d hx hcc)]
  exact ⟨rfl, One.set Hk _, ((Upd.refl _ _).setCell (Or.inr (by simp)) _).drew⟩

end Go.Proofs.YtabknipgbmdipaaGreatDoor
