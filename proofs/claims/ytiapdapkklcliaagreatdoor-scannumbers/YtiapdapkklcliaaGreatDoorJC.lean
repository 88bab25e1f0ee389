/- ScanNumbers, walked. -/
import Derived.Test.YtiapdapkklcliaaGreatDoorJB
import Derived.Lib.SmallJoins
import Derived.Test.YtiapdapkklcliaaGreatDoorJD

namespace Go.Proofs.YtiapdapkklcliaaGreatDoor
open Go.RowKit

theorem one_byte (wr : World) (k : Nat) (h : k < 256) : ∃ b : ByteArray, (convert 37 9 (.slice (some ⟨wr.heap.size, 0, none⟩) 1 1)).run Tryz.prog (wr.alloc (.cells #[.int .u8 (k : Int)] 5)) = .ok (.string b) (wr.alloc (.cells #[.int .u8 (k : Int)] 5)) ∧ b.size = 1 := by
  refine ⟨str [UInt8.ofNat k], ?_, rfl⟩
  refine run_convert_bytes_back (P := Tryz.prog) (wr.alloc (.cells #[.int .u8 (k : Int)] 5)) 37 9 5 ⟨wr.heap.size, 0, none⟩ 1 [UInt8.ofNat k] Tryz.underlying37 Tryz.underlying5 Tryz.underlying9 (fun j hj => ?_)
  obtain rfl : j = 0 := by simp at hj; omega
  rw [show (⟨wr.heap.size, 0, none⟩ : Addr).add 0 = ⟨wr.heap.size, 0, none⟩ from rfl, (Blk.new wr #[.int .u8 (k : Int)] 5).cell 0]
  simp [UInt8.toNat_ofNat', Nat.mod_eq_of_lt h]

theorem keep_cell {w w' : World} {b j : Nat} {v : Value} (h : Upd [] w w') (hc : w.cell? ⟨b, j, none⟩ = some v) : w'.cell? ⟨b, j, none⟩ = some v := by
  rw [h.cell (World.block_lt_of_cell? w _ hc) (by simp)]; exact hc

theorem add_some (a b : ByteArray) (m n : Nat) (ha : a.size ≤ m) (hb : b.size ≤ n) (h : m + n ≤ 1000000) : ∃ c : ByteArray, (∀ w, (Op.stringOp .add a b).run Tryz.prog w = .ok (.string c) w) ∧ c.size ≤ m + n :=
  ⟨a ++ b, fun w => run_string_add_sum w a b (by omega), by rw [ByteArray.size_append]; omega⟩

theorem add_quotes (t : ByteArray) (h : t.size ≤ 7) : ∃ s2 s3 : ByteArray, (∀ w, (Op.stringOp .add ⟨#[39]⟩ t).run Tryz.prog w = .ok (.string s2) w) ∧ (∀ w, (Op.stringOp .add s2 ⟨#[39]⟩).run Tryz.prog w = .ok (.string s3) w) ∧ byt s3 = 39 :: (byt t ++ [39]) := by
  have e1 : (⟨#[39]⟩ : ByteArray).size = 1 := rfl
  refine ⟨⟨#[39]⟩ ++ t, ⟨#[39]⟩ ++ t ++ ⟨#[39]⟩, fun w => run_string_add_sum w _ _ (by omega), fun w => run_string_add_sum w _ _ (by rw [ByteArray.size_append]; omega), ?_⟩
  rw [show byt (⟨#[39]⟩ ++ t ++ ⟨#[39]⟩) = byt (⟨#[39]⟩ ++ t) ++ byt ⟨#[39]⟩ from Joins.data_append _ _, show byt (⟨#[39]⟩ ++ t) = byt ⟨#[39]⟩ ++ byt t from Joins.data_append _ _]
  rfl

theorem is_two (s t : ByteArray) (k : Nat) (K : Int) (p : Nat) (P : Int) (g : Nat) (w : World) (T : TypeId) (h : Blk w g #[.int .u8 K, .string t, .int .i64 0, .int .u8 8, .string ⟨#[]⟩, .int .i64 P] T) (hK : K = k) (hP : P = p) (hT : Sc.tokens (byt s) = .ok [⟨k, byt t, 0⟩, ⟨8, [], p⟩]) (hg : Glb w) :
    Calls Tryz.prog 15 #[.string s, .slice (some ⟨g, 0, none⟩) 2 2] w fun e w' => e = .returned (.bool true) ∧ Upd [] w w' := by
  refine is_any s [⟨k, byt t, 0⟩, ⟨8, [], p⟩] (some ⟨g, 0, none⟩) 2 w hT (TokAt.blk h (fun i hi => ?_)) hg
  subst hK hP
  obtain rfl | rfl : i = 0 ∨ i = 1 := by
    have : i < 2 := hi
    omega
  · exact ⟨rfl, by show some (Value.string t) = some (Value.string (str (byt t))); rw [str_byt], rfl⟩
  · exact ⟨rfl, rfl, rfl⟩

theorem is_one (s : ByteArray) (p : Nat) (P : Int) (g : Nat) (w : World) (T : TypeId) (h : Blk w g #[.int .u8 8, .string ⟨#[]⟩, .int .i64 P] T) (hP : P = p) (hT : Sc.tokens (byt s) = .ok [⟨8, [], p⟩]) (hg : Glb w) :
    Calls Tryz.prog 15 #[.string s, .slice (some ⟨g, 0, none⟩) 1 1] w fun e w' => e = .returned (.bool true) ∧ Upd [] w w' := by
  refine is_any s [⟨8, [], p⟩] (some ⟨g, 0, none⟩) 1 w hT (TokAt.blk h (fun i hi => ?_)) hg
  subst hP
  obtain rfl : i = 0 := by
    have : i < 1 := hi
    omega
  exact ⟨rfl, rfl, rfl⟩

/-- Some string, so many times. -/
theorem rep_some (s : ByteArray) (n : Nat) (w : World) (h1 : 0 < s.size) (h4 : s.size ≤ 4) (hn : 2 ≤ n) (hn2 : n ≤ 500) (hq : s[0] ≠ 32 ∧ s[0] ≠ 45 ∧ s[0] ≠ 48 ∧ s[0] ≠ 61 ∧ s[0] ≠ 9) :
    Calls Tryz.prog 17 #[.string s, .int .i64 n] w fun e w' => ∃ t : ByteArray, e = .returned (.string t) ∧ t.size ≤ 2000 ∧ Upd [] w w' := by
  have hm : s.size * n ≤ 4 * 500 := Nat.mul_le_mul h4 hn2
  refine (Repeat_gen s n w h1 hn (by omega) (by omega) hq.1 hq.2.1 hq.2.2.1 hq.2.2.2.1 hq.2.2.2.2).mono ?_
  rintro e w' ⟨rfl, hu⟩
  refine ⟨_, rfl, ?_, hu⟩
  rw [str_size, rep_len, byt_len, Nat.mul_comm]
  omega
theorem sp_ok (n : Nat) (N : Int) (hN : N = n) (h1 : 128 < n) (h2 : n ≤ 65536) (w : World) :
    Calls Tryz.prog 17 #[.string ⟨#[32]⟩, .int .i64 N] w fun e w' => ∃ z : ByteArray, e = .returned (.string z) ∧ Sc.tokens (byt z) = .ok [⟨8, [], n⟩] ∧ Upd [] w w' := by
  have e1 : (⟨#[32]⟩ : ByteArray).size = 1 := rfl
  subst hN
  refine (Repeat_blanks ⟨#[32]⟩ n w (by omega) (by omega) (by rw [e1]; omega) (by omega) rfl (by rw [e1]; omega)).mono ?_
  rintro e w' ⟨rfl, hu⟩
  exact ⟨_, rfl, by rw [byt_str]; exact tokens_rep n h2, hu⟩
theorem sp_long (n : Nat) (N : Int) (hN : N = n) (h1 : 65536 < n) (h2 : n ≤ 70000) (w : World) :
    Calls Tryz.prog 17 #[.string ⟨#[32]⟩, .int .i64 N] w fun e w' => ∃ z : ByteArray, e = .returned (.string z) ∧ Sc.tokens (byt z) = .fault 3 0 ∧ Upd [] w w' := by
  have e1 : (⟨#[32]⟩ : ByteArray).size = 1 := rfl
  subst hN
  refine (Repeat_blanks ⟨#[32]⟩ n w (by omega) (by omega) (by rw [e1]; omega) (by omega) rfl (by rw [e1]; omega)).mono ?_
  rintro e w' ⟨rfl, hu⟩
  exact ⟨_, rfl, by rw [byt_str]; exact tokens_long 32 n h1, hu⟩
theorem qu_long (n : Nat) (N : Int) (hN : N = n) (h1 : 65536 < n) (h2 : n ≤ 70000) (w : World) :
    Calls Tryz.prog 17 #[.string ⟨#[63]⟩, .int .i64 N] w fun e w' => ∃ z : ByteArray, e = .returned (.string z) ∧ Sc.tokens (byt z) = .fault 3 0 ∧ Upd [] w w' := by
  have e1 : (⟨#[63]⟩ : ByteArray).size = 1 := rfl
  subst hN
  refine (Repeat_gen ⟨#[63]⟩ n w (by omega) (by omega) (by rw [e1]; omega) (by omega) (by decide : (63 : UInt8) ≠ 32) (by decide : (63 : UInt8) ≠ 45) (by decide : (63 : UInt8) ≠ 48) (by decide : (63 : UInt8) ≠ 61) (by decide : (63 : UInt8) ≠ 9)).mono ?_
  rintro e w' ⟨rfl, hu⟩
  exact ⟨_, rfl, by rw [byt_str]; exact tokens_long 63 n h1, hu⟩

theorem sixteen (b : ByteArray) (j : Nat) (h : j < 16) : ∃ t, (#[.string b, .string (⟨#[97]⟩ ++ b), .string (⟨#[88]⟩ ++ b ++ ⟨#[121]⟩), .string (⟨#[49]⟩ ++ b), .string (⟨#[46]⟩ ++ b), .string (⟨#[39]⟩ ++ b ++ ⟨#[39]⟩), .string (⟨#[34]⟩ ++ b ++ ⟨#[34]⟩), .string (⟨#[39, 92]⟩ ++ b ++ ⟨#[39]⟩), .string (⟨#[34, 92, 120, 52]⟩ ++ b ++ ⟨#[34]⟩), .string (⟨#[34, 92, 120]⟩ ++ b ++ ⟨#[52, 34]⟩), .string (⟨#[61]⟩ ++ b), .string (⟨#[60]⟩ ++ b), .string (⟨#[37]⟩ ++ b ++ ⟨#[120]⟩), .string (⟨#[45]⟩ ++ b), .string (⟨#[61, 58]⟩ ++ b), .string (⟨#[97, 46]⟩ ++ b)] : Array Value)[j]? = some (.string t) := by
  obtain rfl | rfl | rfl | rfl | rfl | rfl | rfl | rfl | rfl | rfl | rfl | rfl | rfl | rfl | rfl | rfl : j = 0 ∨ j = 1 ∨ j = 2 ∨ j = 3 ∨ j = 4 ∨ j = 5 ∨ j = 6 ∨ j = 7 ∨ j = 8 ∨ j = 9 ∨ j = 10 ∨ j = 11 ∨ j = 12 ∨ j = 13 ∨ j = 14 ∨ j = 15 := by omega
  all_goals exact ⟨_, rfl⟩

set_option maxHeartbeats 4000000 in
set_option maxRecDepth 100000 in
theorem Numbers_walk (W : World) (hg : Glb W) (htab : Lib.TabIs Tryz.prog W "strings.asciiSpace" .u8 Lib.asciiSpaceTab) : Calls Tryz.prog 4 #[] W fun e w' => e = .returned (.bool true) ∧ Upd [] W w' := by
  have HG : Hid (∀ w, Upd [] W w → Glb w) := fun w h => hg.mono h
  have HTab : Hid (Lib.TabIs Tryz.prog W "strings.asciiSpace" .u8 Lib.asciiSpaceTab) := htab
  have HTell : Hid (∀ (s : ByteArray) w, Upd [] W w → Calls Tryz.prog 3 #[.string s] w fun e w' => e = .returned (.bool true) ∧ Upd [] w w') := fun s w h => Tells_walk s w (hg.mono h)
  clear hg htab
  go_enter Tryz.func4, Tryz.ntmps4
  go_wp2_with fail
  go_loopw [1] (fun i wr => ∃ k : Nat, k ≤ 256 ∧ i = .int .i64 k ∧ Upd [] W wr) (fun i _ => 256 - (intOf i).toNat)
  case atStart => exact ⟨0, Nat.zero_le _, rfl, Upd.refl _ _⟩
  case round =>
    obtain ⟨k, hk, rfl, hU⟩ := hrel
    have HU : Hid (Upd [] W wr) := hU
    clear hU
    by_cases hlt : k < 256
    · have i1 : (k : Int) < 256 := by omega
      obtain ⟨b, hb, hb1⟩ : ∃ b : ByteArray, (convert 37 9 (.slice (some ⟨wr.heap.size, 0, none⟩) 1 1)).run Tryz.prog (wr.alloc (.cells #[.int .u8 (k : Int)] 5)) = .ok (.string b) (wr.alloc (.cells #[.int .u8 (k : Int)] 5)) ∧ b.size = 1 := one_byte wr k hlt
      obtain ⟨u1, hu1⟩ : ∃ u1, u1 = wr.alloc (.cells #[.int .u8 (k : Int)] 5) := ⟨_, rfl⟩
      have HU1 : Hid (Upd [] W u1) := by rw [hu1]; exact HU.out.alloc _
      clear HU
      go_wp2_with fail
      rw [← hu1]
      have hsz : u1.heap.size = wr.heap.size + 1 := by rw [hu1]; simp
      clear hu1 hb
      obtain ⟨q2, hq2⟩ : ∃ q2, q2 = u1.alloc (.cells #[.string b, .string (⟨#[97]⟩ ++ b), .string (⟨#[88]⟩ ++ b ++ ⟨#[121]⟩), .string (⟨#[49]⟩ ++ b), .string (⟨#[46]⟩ ++ b), .string (⟨#[39]⟩ ++ b ++ ⟨#[39]⟩), .string (⟨#[34]⟩ ++ b ++ ⟨#[34]⟩), .string (⟨#[39, 92]⟩ ++ b ++ ⟨#[39]⟩), .string (⟨#[34, 92, 120, 52]⟩ ++ b ++ ⟨#[34]⟩), .string (⟨#[34, 92, 120]⟩ ++ b ++ ⟨#[52, 34]⟩), .string (⟨#[61]⟩ ++ b), .string (⟨#[60]⟩ ++ b), .string (⟨#[37]⟩ ++ b ++ ⟨#[120]⟩), .string (⟨#[45]⟩ ++ b), .string (⟨#[61, 58]⟩ ++ b), .string (⟨#[97, 46]⟩ ++ b)] 9) := ⟨_, rfl⟩
      have HQ2 : Hid (Upd [] W q2) := by rw [hq2]; exact HU1.out.alloc _
      have HC2 : Hid (∀ w, Upd [] q2 w → ∀ j, j < 16 → ∃ t, w.cell? ⟨wr.heap.size + 1, j, none⟩ = some (.string t)) := fun w hw j hj => by
        rw [← hsz]
        obtain ⟨t, ht⟩ := sixteen b j hj
        have h1 : Blk q2 u1.heap.size #[.string b, .string (⟨#[97]⟩ ++ b), .string (⟨#[88]⟩ ++ b ++ ⟨#[121]⟩), .string (⟨#[49]⟩ ++ b), .string (⟨#[46]⟩ ++ b), .string (⟨#[39]⟩ ++ b ++ ⟨#[39]⟩), .string (⟨#[34]⟩ ++ b ++ ⟨#[34]⟩), .string (⟨#[39, 92]⟩ ++ b ++ ⟨#[39]⟩), .string (⟨#[34, 92, 120, 52]⟩ ++ b ++ ⟨#[34]⟩), .string (⟨#[34, 92, 120]⟩ ++ b ++ ⟨#[52, 34]⟩), .string (⟨#[61]⟩ ++ b), .string (⟨#[60]⟩ ++ b), .string (⟨#[37]⟩ ++ b ++ ⟨#[120]⟩), .string (⟨#[45]⟩ ++ b), .string (⟨#[61, 58]⟩ ++ b), .string (⟨#[97, 46]⟩ ++ b)] 9 := by rw [hq2]; exact Blk.new _ _ _
        exact ⟨t, by rw [(h1.mono hw (by simp)).cell j]; exact ht⟩
      have HE2 : Hid (q2 = u1.alloc (.cells #[.string b, .string (⟨#[97]⟩ ++ b), .string (⟨#[88]⟩ ++ b ++ ⟨#[121]⟩), .string (⟨#[49]⟩ ++ b), .string (⟨#[46]⟩ ++ b), .string (⟨#[39]⟩ ++ b ++ ⟨#[39]⟩), .string (⟨#[34]⟩ ++ b ++ ⟨#[34]⟩), .string (⟨#[39, 92]⟩ ++ b ++ ⟨#[39]⟩), .string (⟨#[34, 92, 120, 52]⟩ ++ b ++ ⟨#[34]⟩), .string (⟨#[34, 92, 120]⟩ ++ b ++ ⟨#[52, 34]⟩), .string (⟨#[61]⟩ ++ b), .string (⟨#[60]⟩ ++ b), .string (⟨#[37]⟩ ++ b ++ ⟨#[120]⟩), .string (⟨#[45]⟩ ++ b), .string (⟨#[61, 58]⟩ ++ b), .string (⟨#[97, 46]⟩ ++ b)] 9)) := hq2
      clear hq2 HU1 hsz
      go_wp2_with fail
      rw [← HE2.out]
      clear HE2
      go_loopw [4] (fun i wr => ∃ j : Nat, j ≤ 16 ∧ i = .int .i64 j ∧ Upd [] q2 wr) (fun i _ => 16 - (intOf i).toNat)
      case atStart => exact ⟨0, Nat.zero_le _, rfl, Upd.refl _ _⟩
      case round =>
        rename World => wi
        obtain ⟨j, hj, rfl, hU2⟩ := hrel
        have HU2 : Hid (Upd [] q2 wi) := hU2
        by_cases hlj : j < 16
        · have i2 : (j : Int) < 16 := by omega
          obtain ⟨t, ht⟩ := HC2.out wi hU2 j hlj
          clear hU2
          go_wp2_with fail
          refine (HTell.out t _ (HQ2.out.trans HU2.out)).mono ?_
          rintro e w5 ⟨rfl, hU5⟩
          have HU5 : Hid (Upd [] q2 w5) := HU2.out.trans hU5
          clear hU5 HU2
          go_wp2_with fail
          go_roundw
          case rel => exact ⟨j + 1, by omega, by go_num, HU5.out⟩
          case measure => simp [intOf]; omega
        · have hd : decide ((j : Int) < 16) = false := by simp; omega
          clear hU2
          go_wp2_with fail
          go_roundw
          case rel => exact ⟨k + 1, by omega, by go_num, HQ2.out.trans HU2.out⟩
          case measure => simp [intOf]; omega
    · have hd : decide ((k : Int) < 256) = false := by simp; omega
      go_wp2_with fail
      refine (Fields_30 _ _ (tab_upd HTab.out HU.out) (by decide +kernel) (by decide +kernel) (by decide +kernel) (by decide +kernel)).mono ?_
      rintro e w6 ⟨rfl, hC6, hU6⟩
      have HC6 : Hid (∀ u, Upd [] w6 u → ∀ j, j < 30 → ∃ t : ByteArray, u.cell? ⟨wr.heap.size, j, none⟩ = some (.string t) ∧ t.size ≤ 3) := hC6
      have HU6 : Hid (Upd [] W w6) := HU.out.trans hU6
      clear hC6 hU6 HU HTab hlt hd hk
      go_wp2_with fail
      go_loopw [6] (fun i wr => ∃ j : Nat, j ≤ 30 ∧ i = .int .i64 j ∧ Upd [] w6 wr) (fun i _ => 30 - (intOf i).toNat)
      case atStart => exact ⟨0, Nat.zero_le _, rfl, Upd.refl _ _⟩
      case round =>
        rename World => wi
        obtain ⟨a, ha, rfl, hU⟩ := hrel
        have HU : Hid (Upd [] w6 wi) := hU
        clear hU
        by_cases hla : a < 30
        · have i1 : (a : Int) < 30 := by omega
          go_wp2_with fail
          go_loopw [7] (fun i wr => ∃ j : Nat, j ≤ 30 ∧ i = .int .i64 j ∧ Upd [] w6 wr) (fun i _ => 30 - (intOf i).toNat)
          case atStart => exact ⟨0, Nat.zero_le _, rfl, HU.out⟩
          case round =>
            clear HU
            rename World => wk
            obtain ⟨c, hc, rfl, hU⟩ := hrel
            have HU : Hid (Upd [] w6 wk) := hU
            clear hU
            by_cases hlc : c < 30
            · have i2 : (c : Int) < 30 := by omega
              obtain ⟨t1, ht1, z1⟩ := HC6.out w6 (Upd.refl _ _) a hla
              obtain ⟨t2, ht2, z2⟩ := HC6.out w6 (Upd.refl _ _) c hlc
              have y1 : wk.cell? ⟨wr.heap.size, a, none⟩ = some (.string t1) := keep_cell HU.out ht1
              have y2 : wk.cell? ⟨wr.heap.size, c, none⟩ = some (.string t2) := keep_cell HU.out ht2
              have HS : Hid (∀ w', Upd [] wk w' → w'.cell? ⟨wr.heap.size, a, none⟩ = some (.string t1) ∧ w'.cell? ⟨wr.heap.size, c, none⟩ = some (.string t2)) := fun w' h => ⟨keep_cell h y1, keep_cell h y2⟩
              have UC : Hid (Upd [] wk wk) := Upd.refl [] _
              have HTk : Hid (∀ (s : ByteArray) w, Upd [] wk w → Calls Tryz.prog 3 #[.string s] w fun e w' => e = .returned (.bool true) ∧ Upd [] wk w') := fun s w h => (HTell.out s w ((HU6.out.trans HU.out).trans h)).mono fun e w' h2 => ⟨h2.1, h.trans h2.2⟩
              obtain ⟨s1, a1, b1⟩ := add_some t1 t2 3 3 z1 z2 (by omega)
              obtain ⟨s2, a2, b2⟩ := add_some s1 ⟨#[61]⟩ 6 1 b1 (Nat.le_refl 1) (by omega)
              obtain ⟨s3, a3, b3⟩ := add_some t1 ⟨#[32]⟩ 3 1 z1 (Nat.le_refl 1) (by omega)
              obtain ⟨s4, a4, b4⟩ := add_some s3 t2 4 3 b3 z2 (by omega)
              clear ht1 ht2 b1 b2 b3 b4 z1 z2
              go_wp2_with fail
              go_region_held3 (fun w' => w'.cell? ⟨wr.heap.size, a, none⟩ = some (.string t1) ∧ w'.cell? ⟨wr.heap.size, c, none⟩ = some (.string t2))
                (first | exact HS.out _ UC.out | exact HS.out _ UC.out.drew)
                (first
                  | (go_at_call 3; refine Calls.mono (HTk.out _ _ (by repeat (first | exact UC.out | refine Upd.drew ?_))) ?_; rintro e w' ⟨rfl, hU'⟩; have UC : Hid (Upd [] wk w') := hU'; clear hU'))
              go_wp2_with fail
              go_roundw
              case rel => exact ⟨c + 1, by omega, by go_num, HU.out.trans UC.out⟩
              case measure => simp [intOf]; omega
            · have hd : decide ((c : Int) < 30) = false := by simp; omega
              go_wp2_with fail
              go_roundw
              case rel => exact ⟨a + 1, by omega, by go_num, HU.out⟩
              case measure => simp [intOf]; omega
        · have hd : decide ((a : Int) < 30) = false := by simp; omega
          go_wp2_with fail
          refine (Words_any _ (HG.out _ (HU6.out.trans HU.out))).mono ?_
          rintro e w7 ⟨rfl, hB7, hU7⟩
          have HB7 : Hid (Blk w7 wi.heap.size wordsC 78) := hB7
          have HU7 : Hid (Upd [] W w7) := (HU6.out.trans HU.out).trans hU7
          clear hB7 hU7 HU HU6 HC6 hla hd ha
          go_wp2_with fail
          refine (rwords_any _).mono ?_
          rintro e w8 ⟨rfl, hB8, hU8⟩
          have HB8 : Hid (Blk w8 w7.heap.size wordsC 9) := hB8
          have HU8 : Hid (Upd [] w7 w8) := hU8
          clear hB8 hU8
          go_wp2_with fail
          refine (SameTexts_words _ _ _ _ _ (HB7.out.mono HU8.out (by simp)) HB8.out).mono ?_
          rintro e w9 ⟨rfl, hU9⟩
          have HB9 : Hid (Blk w9 wi.heap.size wordsC 78) := HB7.out.mono (HU8.out.trans hU9) (by simp)
          have HU9 : Hid (Upd [] W w9) := (HU7.out.trans HU8.out).trans hU9
          clear hU9 HB7 HU7 HB8 HU8
          go_wp2_with fail
          go_loopw [9] (fun i wr => ∃ j : Nat, j ≤ 19 ∧ i = .int .i64 j ∧ Upd [] W wr ∧ Blk wr wi.heap.size wordsC 78) (fun i _ => 19 - (intOf i).toNat)
          case atStart => exact ⟨0, Nat.zero_le _, rfl, HU9.out, HB9.out⟩
          case round =>
            rename World => wz
            obtain ⟨j, hj, rfl, hU, hB⟩ := hrel
            have HX0 : Hid (Upd [] W wz) := hU
            have HBK : Hid (∀ w, Upd [] wz w → Blk w wi.heap.size wordsC 78) := fun w h => hB.mono h (by simp)
            clear hU
            by_cases hlj : j < 19
            · have i1 : (j : Int) < 19 := by omega
              obtain ⟨t, ht, hT1, hT2, hs1, hs2⟩ := word_at j hlj
              have y : wz.cell? ⟨wi.heap.size, j, none⟩ = some (.string t) := by rw [hB.cell j]; exact ht
              have HT1 : Hid (Sc.tokens (byt t) = .ok [⟨6, byt t, 0⟩, ⟨8, [], t.size⟩]) := hT1
              obtain ⟨s1, a1, b1⟩ := add_some t ⟨#[115]⟩ 7 1 hs2 (Nat.le_refl 1) (by omega)
              obtain ⟨s2, s3, a2, a3, hs3⟩ := add_quotes t hs2
              have HT3 : Hid (Sc.tokens (byt s3) = .ok [⟨2, byt t, 0⟩, ⟨8, [], t.size + 2⟩]) := by rw [hs3]; exact hT2
              obtain ⟨m, hm⟩ : ∃ m : Nat, m = t.size - 1 := ⟨_, rfl⟩
              have hmi : (t.size : Int) - 1 = (m : Int) := by omega
              have hml : m ≤ t.size := by omega
              clear ht hT1 hT2 b1 hs3 hm hB
              have HW : Hid (Upd [] wz wz) := Upd.refl [] _
              go_wp2_with fail
              refine (token_any _ _ _ _).mono ?_
              rintro e x1 ⟨rfl, h1⟩
              have HX1 : Hid (Upd [] W x1) := HX0.out.trans h1
              have HW1 : Hid (Upd [] wz x1) := HW.out.trans h1
              clear h1 HX0 HW
              go_wp2_with fail
              refine (token_any _ _ _ _).mono ?_
              rintro e x2 ⟨rfl, h2⟩
              have HX2 : Hid (Upd [] W x2) := HX1.out.trans h2
              have HW2 : Hid (Upd [] wz x2) := HW1.out.trans h2
              clear h2 HX1 HW1
              go_wp2_with fail
              refine (is_two t t 6 6 t.size t.size _ _ 43 (Blk.new _ _ _) rfl rfl HT1.out (HG.out _ (HX2.out.alloc _))).mono ?_
              rintro e x3 ⟨rfl, h3⟩
              have HX3 : Hid (Upd [] W x3) := (HX2.out.alloc _).trans h3
              have HW3 : Hid (Upd [] wz x3) := (HW2.out.alloc _).trans h3
              clear h3 HX2 HW2
              go_wp2_with fail
              refine (HTell.out _ _ HX3.out).mono ?_
              rintro e x4 ⟨rfl, h4⟩
              have HX4 : Hid (Upd [] W x4) := HX3.out.trans h4
              have HW4 : Hid (Upd [] wz x4) := HW3.out.trans h4
              clear h4 HX3 HW3
              go_wp2_with fail
              refine (HTell.out _ _ HX4.out).mono ?_
              rintro e x5 ⟨rfl, h5⟩
              have HX5 : Hid (Upd [] W x5) := HX4.out.trans h5
              have HW5 : Hid (Upd [] wz x5) := HW4.out.trans h5
              clear h5 HX4 HW4
              go_wp2_with fail
              refine (token_any _ _ _ _).mono ?_
              rintro e x6 ⟨rfl, h6⟩
              have HX6 : Hid (Upd [] W x6) := HX5.out.trans h6
              have HW6 : Hid (Upd [] wz x6) := HW5.out.trans h6
              clear h6 HX5 HW5
              go_wp2_with fail
              refine (token_any _ _ _ _).mono ?_
              rintro e x7 ⟨rfl, h7⟩
              have HX7 : Hid (Upd [] W x7) := HX6.out.trans h7
              have HW7 : Hid (Upd [] wz x7) := HW6.out.trans h7
              clear h7 HX6 HW6
              go_wp2_with fail
              refine (is_two s3 t 2 2 (t.size + 2) (t.size + 2) _ _ 43 (Blk.new _ _ _) rfl (by omega) HT3.out (HG.out _ (HX7.out.alloc _))).mono ?_
              rintro e x8 ⟨rfl, h8⟩
              have HX8 : Hid (Upd [] W x8) := (HX7.out.alloc _).trans h8
              have HW8 : Hid (Upd [] wz x8) := (HW7.out.alloc _).trans h8
              clear h8 HX7 HW7
              go_wp2_with fail
              go_roundw
              case rel => exact ⟨j + 1, by omega, by go_num, HX8.out, HBK.out _ HW8.out⟩
              case measure => simp [intOf]; omega
            · have hd : decide ((j : Int) < 19) = false := by simp; omega
              clear HBK hB hlj hj
              go_wp2_with fail
              go_loopw [11] (fun i wr => ∃ n : Nat, 39 ≤ n ∧ n ≤ 42 ∧ i = .int .i64 n ∧ Upd [] W wr) (fun i _ => 42 - (intOf i).toNat)
              case atStart => exact ⟨39, by omega, by omega, rfl, HX0.out⟩
              case round =>
                clear HX0 HB9 HU9 hd
                rename World => wn
                obtain ⟨n, hn1, hn2, rfl, hU⟩ := hrel
                have HX0 : Hid (Upd [] W wn) := hU
                clear hU
                by_cases hln : n < 42
                · have i1 : (n : Int) < 42 := by omega
                  go_wp2_with fail
                  refine (rep_some ⟨#[97]⟩ n _ (by decide) (by decide) (by omega) (by omega) ⟨by decide, by decide, by decide, by decide, by decide⟩).mono ?_
                  rintro e x1 ⟨t1, rfl, l1, h1⟩
                  have HX1 : Hid (Upd [] W x1) := HX0.out.trans h1
                  clear h1 HX0
                  clear l1
                  go_wp2_with fail
                  refine (HTell.out _ _ HX1.out).mono ?_
                  rintro e x2 ⟨rfl, h2⟩
                  have HX2 : Hid (Upd [] W x2) := HX1.out.trans h2
                  clear h2 HX1
                  go_wp2_with fail
                  refine (rep_some ⟨#[97]⟩ n _ (by decide) (by decide) (by omega) (by omega) ⟨by decide, by decide, by decide, by decide, by decide⟩).mono ?_
                  rintro e x3 ⟨t3, rfl, l3, h3⟩
                  have HX3 : Hid (Upd [] W x3) := HX2.out.trans h3
                  clear h3 HX2
                  obtain ⟨s3, a3, b3⟩ := add_some ⟨#[88]⟩ t3 1 2000 (Nat.le_refl 1) l3 (by omega)
                  clear l3 b3
                  go_wp2_with fail
                  refine (HTell.out _ _ HX3.out).mono ?_
                  rintro e x4 ⟨rfl, h4⟩
                  have HX4 : Hid (Upd [] W x4) := HX3.out.trans h4
                  clear h4 HX3
                  go_wp2_with fail
                  refine (Repeat_few n _ (by omega) (by omega)).mono ?_
                  rintro e x5 ⟨t5, rfl, l5, hx5⟩
                  rw [hx5]
                  obtain ⟨s5, a5, b5⟩ := add_some ⟨#[39]⟩ t5 1 64 (Nat.le_refl 1) l5 (by omega)
                  obtain ⟨s6, a6, b6⟩ := add_some s5 ⟨#[39]⟩ 65 1 b5 (Nat.le_refl 1) (by omega)
                  clear l5 b5 b6 hx5
                  go_wp2_with fail
                  refine (HTell.out _ _ HX4.out).mono ?_
                  rintro e x6 ⟨rfl, h6⟩
                  have HX6 : Hid (Upd [] W x6) := HX4.out.trans h6
                  clear h6 HX4
                  go_wp2_with fail
                  refine (rep_some ⟨#[92, 120, 52, 49]⟩ n _ (by decide) (by decide) (by omega) (by omega) ⟨by decide, by decide, by decide, by decide, by decide⟩).mono ?_
                  rintro e x7 ⟨t7, rfl, l7, h7⟩
                  have HX7 : Hid (Upd [] W x7) := HX6.out.trans h7
                  clear h7 HX6
                  obtain ⟨s7, a7, b7⟩ := add_some ⟨#[39]⟩ t7 1 2000 (Nat.le_refl 1) l7 (by omega)
                  obtain ⟨s8, a8, b8⟩ := add_some s7 ⟨#[39]⟩ 2001 1 b7 (Nat.le_refl 1) (by omega)
                  clear l7 b7 b8
                  go_wp2_with fail
                  refine (HTell.out _ _ HX7.out).mono ?_
                  rintro e x8 ⟨rfl, h8⟩
                  have HX8 : Hid (Upd [] W x8) := HX7.out.trans h8
                  clear h8 HX7
                  go_wp2_with fail
                  go_roundw
                  case rel => exact ⟨n + 1, by omega, by omega, by go_num, HX8.out⟩
                  case measure => simp [intOf]; omega
                · have hd : decide ((n : Int) < 42) = false := by simp; omega
                  clear hln hn1 hn2
                  go_wp2_with fail
                  go_loopw [12] (fun i wr => ∃ n : Nat, 399 ≤ n ∧ n ≤ 402 ∧ i = .int .i64 n ∧ Upd [] W wr) (fun i _ => 402 - (intOf i).toNat)
                  case atStart => exact ⟨399, by omega, by omega, rfl, HX0.out⟩
                  case round =>
                    clear HX0 hd
                    rename World => wm
                    obtain ⟨n, hn1, hn2, rfl, hU⟩ := hrel
                    have HX0 : Hid (Upd [] W wm) := hU
                    clear hU
                    by_cases hln : n < 402
                    · have i1 : (n : Int) < 402 := by omega
                      go_wp2_with fail
                      refine (rep_some ⟨#[49]⟩ n _ (by decide) (by decide) (by omega) (by omega) ⟨by decide, by decide, by decide, by decide, by decide⟩).mono ?_
                      rintro e x1 ⟨t1, rfl, l1, h1⟩
                      have HX1 : Hid (Upd [] W x1) := HX0.out.trans h1
                      clear h1 HX0
                      clear l1
                      go_wp2_with fail
                      refine (HTell.out _ _ HX1.out).mono ?_
                      rintro e x2 ⟨rfl, h2⟩
                      have HX2 : Hid (Upd [] W x2) := HX1.out.trans h2
                      clear h2 HX1
                      go_wp2_with fail
                      refine (rep_some ⟨#[92, 110]⟩ n _ (by decide) (by decide) (by omega) (by omega) ⟨by decide, by decide, by decide, by decide, by decide⟩).mono ?_
                      rintro e x3 ⟨t3, rfl, l3, h3⟩
                      have HX3 : Hid (Upd [] W x3) := HX2.out.trans h3
                      clear h3 HX2
                      obtain ⟨s3, a3, b3⟩ := add_some ⟨#[34]⟩ t3 1 2000 (Nat.le_refl 1) l3 (by omega)
                      obtain ⟨s4, a4, b4⟩ := add_some s3 ⟨#[34]⟩ 2001 1 b3 (Nat.le_refl 1) (by omega)
                      clear l3 b3 b4
                      go_wp2_with fail
                      refine (HTell.out _ _ HX3.out).mono ?_
                      rintro e x4 ⟨rfl, h4⟩
                      have HX4 : Hid (Upd [] W x4) := HX3.out.trans h4
                      clear h4 HX3
                      go_wp2_with fail
                      refine (rep_some ⟨#[255]⟩ n _ (by decide) (by decide) (by omega) (by omega) ⟨by decide, by decide, by decide, by decide, by decide⟩).mono ?_
                      rintro e x5 ⟨t5, rfl, l5, h5⟩
                      have HX5 : Hid (Upd [] W x5) := HX4.out.trans h5
                      clear h5 HX4
                      obtain ⟨s5, a5, b5⟩ := add_some ⟨#[34]⟩ t5 1 2000 (Nat.le_refl 1) l5 (by omega)
                      obtain ⟨s6, a6, b6⟩ := add_some s5 ⟨#[34]⟩ 2001 1 b5 (Nat.le_refl 1) (by omega)
                      clear l5 b5 b6
                      go_wp2_with fail
                      refine (HTell.out _ _ HX5.out).mono ?_
                      rintro e x6 ⟨rfl, h6⟩
                      have HX6 : Hid (Upd [] W x6) := HX5.out.trans h6
                      clear h6 HX5
                      go_wp2_with fail
                      go_roundw
                      case rel => exact ⟨n + 1, by omega, by omega, by go_num, HX6.out⟩
                      case measure => simp [intOf]; omega
                    · have hd : decide ((n : Int) < 402) = false := by simp; omega
                      clear hln hn1 hn2
                      go_wp2_with fail
                      refine (sp_ok 65536 65536 rfl (by omega) (by omega) _).mono ?_
                      rintro e x1 ⟨z1, rfl, k1, h1⟩
                      have HX1 : Hid (Upd [] W x1) := HX0.out.trans h1
                      clear h1 HX0
                      go_wp2_with fail
                      refine (token_any _ _ _ _).mono ?_
                      rintro e x2 ⟨rfl, h2⟩
                      have HX2 : Hid (Upd [] W x2) := HX1.out.trans h2
                      clear h2 HX1
                      go_wp2_with fail
                      refine (is_one z1 65536 65536 _ _ 43 (Blk.new _ _ _) rfl k1 (HG.out _ (HX2.out.alloc _))).mono ?_
                      rintro e x3 ⟨rfl, h3⟩
                      have HX3 : Hid (Upd [] W x3) := (HX2.out.alloc _).trans h3
                      clear h3 HX2
                      go_wp2_with fail
                      refine (sp_long 65537 65537 rfl (by omega) (by omega) _).mono ?_
                      rintro e x4 ⟨z4, rfl, k4, h4⟩
                      have HX4 : Hid (Upd [] W x4) := HX3.out.trans h4
                      clear h4 HX3
                      go_wp2_with fail
                      refine (fault_any z4 3 0 3 0 _ k4 rfl rfl (HG.out _ HX4.out)).mono ?_
                      rintro e x5 ⟨rfl, h5⟩
                      have HX5 : Hid (Upd [] W x5) := HX4.out.trans h5
                      clear h5 HX4
                      go_wp2_with fail
                      refine (qu_long 65537 65537 rfl (by omega) (by omega) _).mono ?_
                      rintro e x6 ⟨z6, rfl, k6, h6⟩
                      have HX6 : Hid (Upd [] W x6) := HX5.out.trans h6
                      clear h6 HX5
                      go_wp2_with fail
                      refine (fault_any z6 3 0 3 0 _ k6 rfl rfl (HG.out _ HX6.out)).mono ?_
                      rintro e x7 ⟨rfl, h7⟩
                      have HX7 : Hid (Upd [] W x7) := HX6.out.trans h7
                      clear h7 HX6
                      go_wp2_with fail
                      refine (awake_any _ (HG.out _ HX7.out)).mono ?_
                      rintro e x8 ⟨rfl, h8⟩
                      have HX8 : Hid (Upd [] W x8) := HX7.out.trans h8
                      clear h8 HX7
                      go_wp2_with fail
                      go_ret
                      exact ⟨rfl, HX8.out⟩
end Go.Proofs.YtiapdapkklcliaaGreatDoor

/- The card of ScanNumbers: the call returns true (the sources that it writes out are told as the document tells them). Conditions: the row's own alone. -/
namespace Go.Proofs.YtiapdapkklcliaaGreatDoor
open Go.RowKit

/-- The card: ScanNumbers returns true. -/
theorem scanNumbers_card_holds : Rows.ScanNumbersCardSaid := scanNumbers_card (fun W hg ht => Numbers_walk W hg ht)

end Go.Proofs.YtiapdapkklcliaaGreatDoor
