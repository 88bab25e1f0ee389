/- rightText of package node, by its contract. -/
import Derived.Test.YtejcppnleckmfaaDoorNdS
namespace Go.Proofs.YtejcppnleckmfaaDoor
open Go.RowKit

/-- The document's text of a node of a kind. -/
def txB (k : Int) (s : ByteArray) (n : Nat) : Bool := if k = 1 then numS s else if k = 2 ∨ k = 11 ∨ k = 21 then decide (s.size ≤ 40) else if k = 3 then varS s else if k = 4 then decide (s.size ≤ 400) else if k = 7 then opB s n else decide (s.size = 0)

theorem empty_dec (s : ByteArray) : s.toList.isEmpty = decide (s.size = 0) := by
  by_cases h : s.size = 0
  · rw [empty_is h, ← decide_eq_emptyBytes]; simp
  · rw [empty_isn h, decide_eq_false h]
set_option maxHeartbeats 1000000 in
set_option maxRecDepth 100000 in
theorem tx_1 (a : Option Addr) (n c : Nat)  (s : ByteArray) (num pos : Int) (w : World) (hs : s.size ≤ 9223372036854775807) : Calls Tryd.prog 49 #[.agg #[.int .u8 1, .string s, .int .i64 num, .int .i64 pos, .slice a n c]] w fun e w' => e = .returned (.bool (numS s)) ∧ Upd [] w w' := by
  have HU0 : Hid (Upd [] w (w.alloc (.cells #[.int .u8 1, .string s, .int .i64 num, .int .i64 pos, .slice a n c] 25))) := (Upd.refl [] w).alloc _
  have HC : Hid (∀ W, Calls Tryd.prog 51 #[.string s] W fun e w' => e = .returned (.bool (numS s)) ∧ w' = W) := fun W => isNumber_any s W hs
  go_enter Tryd.func49, Tryd.ntmps49
  go_wp2_with fail
  refine (HC.out _).mono ?_
  rintro e w1 ⟨rfl, rfl⟩
  go_wp2
  go_ret
  exact ⟨rfl, HU0.out⟩
set_option maxHeartbeats 1000000 in
set_option maxRecDepth 100000 in
theorem tx_2 (a : Option Addr) (n c : Nat)  (s : ByteArray) (num pos : Int) (w : World) (hs : s.size ≤ 9223372036854775807) : Calls Tryd.prog 49 #[.agg #[.int .u8 2, .string s, .int .i64 num, .int .i64 pos, .slice a n c]] w fun e w' => e = .returned (.bool (decide (s.size ≤ 40))) ∧ Upd [] w w' := by
  have HU0 : Hid (Upd [] w (w.alloc (.cells #[.int .u8 2, .string s, .int .i64 num, .int .i64 pos, .slice a n c] 25))) := (Upd.refl [] w).alloc _
  obtain ⟨b, hb⟩ : ∃ b, decide (s.size ≤ 40) = b := ⟨_, rfl⟩
  have hb2 : decide ((s.size : Int) ≤ 40) = b := by rw [← hb]; simp; omega
  rw [hb]
  go_enter Tryd.func49, Tryd.ntmps49
  go_wp2
  go_ret
  exact ⟨rfl, HU0.out⟩
set_option maxHeartbeats 1000000 in
set_option maxRecDepth 100000 in
theorem tx_11 (a : Option Addr) (n c : Nat)  (s : ByteArray) (num pos : Int) (w : World) (hs : s.size ≤ 9223372036854775807) : Calls Tryd.prog 49 #[.agg #[.int .u8 11, .string s, .int .i64 num, .int .i64 pos, .slice a n c]] w fun e w' => e = .returned (.bool (decide (s.size ≤ 40))) ∧ Upd [] w w' := by
  have HU0 : Hid (Upd [] w (w.alloc (.cells #[.int .u8 11, .string s, .int .i64 num, .int .i64 pos, .slice a n c] 25))) := (Upd.refl [] w).alloc _
  obtain ⟨b, hb⟩ : ∃ b, decide (s.size ≤ 40) = b := ⟨_, rfl⟩
  have hb2 : decide ((s.size : Int) ≤ 40) = b := by rw [← hb]; simp; omega
  rw [hb]
  go_enter Tryd.func49, Tryd.ntmps49
  go_wp2
  go_ret
  exact ⟨rfl, HU0.out⟩
set_option maxHeartbeats 1000000 in
set_option maxRecDepth 100000 in
theorem tx_21 (a : Option Addr) (n c : Nat)  (s : ByteArray) (num pos : Int) (w : World) (hs : s.size ≤ 9223372036854775807) : Calls Tryd.prog 49 #[.agg #[.int .u8 21, .string s, .int .i64 num, .int .i64 pos, .slice a n c]] w fun e w' => e = .returned (.bool (decide (s.size ≤ 40))) ∧ Upd [] w w' := by
  have HU0 : Hid (Upd [] w (w.alloc (.cells #[.int .u8 21, .string s, .int .i64 num, .int .i64 pos, .slice a n c] 25))) := (Upd.refl [] w).alloc _
  obtain ⟨b, hb⟩ : ∃ b, decide (s.size ≤ 40) = b := ⟨_, rfl⟩
  have hb2 : decide ((s.size : Int) ≤ 40) = b := by rw [← hb]; simp; omega
  rw [hb]
  go_enter Tryd.func49, Tryd.ntmps49
  go_wp2
  go_ret
  exact ⟨rfl, HU0.out⟩
set_option maxHeartbeats 1000000 in
set_option maxRecDepth 100000 in
theorem tx_3 (a : Option Addr) (n c : Nat)  (s : ByteArray) (num pos : Int) (w : World) (hs : s.size ≤ 9223372036854775807) : Calls Tryd.prog 49 #[.agg #[.int .u8 3, .string s, .int .i64 num, .int .i64 pos, .slice a n c]] w fun e w' => e = .returned (.bool (varS s)) ∧ Upd [] w w' := by
  have HU0 : Hid (Upd [] w (w.alloc (.cells #[.int .u8 3, .string s, .int .i64 num, .int .i64 pos, .slice a n c] 25))) := (Upd.refl [] w).alloc _
  have HC : Hid (∀ W, Calls Tryd.prog 52 #[.string s] W fun e w' => e = .returned (.bool (varS s)) ∧ w' = W) := fun W => isVariable_any s W hs
  go_enter Tryd.func49, Tryd.ntmps49
  go_wp2_with fail
  refine (HC.out _).mono ?_
  rintro e w1 ⟨rfl, rfl⟩
  go_wp2
  go_ret
  exact ⟨rfl, HU0.out⟩
set_option maxHeartbeats 1000000 in
set_option maxRecDepth 100000 in
theorem tx_4 (a : Option Addr) (n c : Nat)  (s : ByteArray) (num pos : Int) (w : World) (hs : s.size ≤ 9223372036854775807) : Calls Tryd.prog 49 #[.agg #[.int .u8 4, .string s, .int .i64 num, .int .i64 pos, .slice a n c]] w fun e w' => e = .returned (.bool (decide (s.size ≤ 400))) ∧ Upd [] w w' := by
  have HU0 : Hid (Upd [] w (w.alloc (.cells #[.int .u8 4, .string s, .int .i64 num, .int .i64 pos, .slice a n c] 25))) := (Upd.refl [] w).alloc _
  obtain ⟨b, hb⟩ : ∃ b, decide (s.size ≤ 400) = b := ⟨_, rfl⟩
  have hb2 : decide ((s.size : Int) ≤ 400) = b := by rw [← hb]; simp; omega
  rw [hb]
  go_enter Tryd.func49, Tryd.ntmps49
  go_wp2
  go_ret
  exact ⟨rfl, HU0.out⟩
set_option maxHeartbeats 1000000 in
set_option maxRecDepth 100000 in
theorem tx_7 (a : Option Addr) (n c : Nat)  (s : ByteArray) (num pos : Int) (w : World) (_hs : s.size ≤ 9223372036854775807) (_hn : n ≤ 2199023255488) (hO : Ops w) : Calls Tryd.prog 49 #[.agg #[.int .u8 7, .string s, .int .i64 num, .int .i64 pos, .slice a n c]] w fun e w' => e = .returned (.bool (opB s n)) ∧ Upd [] w w' := by
  have HU0 : Hid (Upd [] w (w.alloc (.cells #[.int .u8 7, .string s, .int .i64 num, .int .i64 pos, .slice a n c] 25))) := (Upd.refl [] w).alloc _
  have HC : Hid (∀ W, Upd [] w W → Calls Tryd.prog 53 #[.string s, .int .i64 n] W fun e w' => e = .returned (.bool (opB s n)) ∧ Upd [] W w') := fun W hu => isOperator_any s n W (hO.mono hu)
  clear hO
  go_enter Tryd.func49, Tryd.ntmps49
  go_wp2_with fail
  refine (HC.out _ HU0.out).mono ?_
  rintro e w1 ⟨rfl, hu⟩
  have HU1 : Hid (Upd [] w w1) := HU0.out.trans hu
  clear hu
  go_wp2
  go_ret
  exact ⟨rfl, HU1.out⟩
set_option maxHeartbeats 1000000 in
set_option maxRecDepth 100000 in
theorem tx_0 (a : Option Addr) (n c : Nat) (k : Int) (s : ByteArray) (num pos : Int) (w : World) (h1 : k ≠ 1) (h2 : k ≠ 2) (h3 : k ≠ 3) (h4 : k ≠ 4) (h7 : k ≠ 7) (h11 : k ≠ 11) (h21 : k ≠ 21) : Calls Tryd.prog 49 #[.agg #[.int .u8 k, .string s, .int .i64 num, .int .i64 pos, .slice a n c]] w fun e w' => e = .returned (.bool (decide (s.size = 0))) ∧ Upd [] w w' := by
  have HU0 : Hid (Upd [] w (w.alloc (.cells #[.int .u8 k, .string s, .int .i64 num, .int .i64 pos, .slice a n c] 25))) := (Upd.refl [] w).alloc _
  have k1 : (k == 1) = false := beq_eq_false_iff_ne.2 h1
  have k2 : (k == 2) = false := beq_eq_false_iff_ne.2 h2
  have k3 : (k == 3) = false := beq_eq_false_iff_ne.2 h3
  have k4 : (k == 4) = false := beq_eq_false_iff_ne.2 h4
  have k7 : (k == 7) = false := beq_eq_false_iff_ne.2 h7
  have k11 : (k == 11) = false := beq_eq_false_iff_ne.2 h11
  have k21 : (k == 21) = false := beq_eq_false_iff_ne.2 h21
  obtain ⟨b, hb⟩ : ∃ b, s.toList.isEmpty = b := ⟨_, rfl⟩
  have HE : Hid (decide (s.size = 0) = b) := by rw [← hb]; exact (empty_dec s).symm
  go_enter Tryd.func49, Tryd.ntmps49
  go_wp2
  go_ret
  exact ⟨by rw [HE.out]; rfl, HU0.out⟩

theorem rightText_any (a : Option Addr) (n c : Nat) (k : Int) (s : ByteArray) (num pos : Int) (w : World) (hs : s.size ≤ 9223372036854775807) (hn : n ≤ 2199023255488) (hO : Ops w) :
    Calls Tryd.prog 49 #[.agg #[.int .u8 k, .string s, .int .i64 num, .int .i64 pos, .slice a n c]] w fun e w' => e = .returned (.bool (txB k s n)) ∧ Upd [] w w' := by
  unfold txB
  by_cases h1 : k = 1
  · subst h1; rw [if_pos rfl]; exact tx_1 a n c s num pos w hs
  rw [if_neg h1]
  by_cases h2 : k = 2
  · subst h2; rw [if_pos (by simp)]; exact tx_2 a n c s num pos w hs
  by_cases h11 : k = 11
  · subst h11; rw [if_pos (by simp)]; exact tx_11 a n c s num pos w hs
  by_cases h21 : k = 21
  · subst h21; rw [if_pos (by simp)]; exact tx_21 a n c s num pos w hs
  rw [if_neg (by simp [h2, h11, h21])]
  by_cases h3 : k = 3
  · subst h3; rw [if_pos rfl]; exact tx_3 a n c s num pos w hs
  rw [if_neg h3]
  by_cases h4 : k = 4
  · subst h4; rw [if_pos rfl]; exact tx_4 a n c s num pos w hs
  rw [if_neg h4]
  by_cases h7 : k = 7
  · subst h7; rw [if_pos rfl]; exact tx_7 a n c s num pos w hs hn hO
  rw [if_neg h7]
  exact tx_0 a n c k s num pos w h1 h2 h3 h4 h7 h11 h21

end Go.Proofs.YtejcppnleckmfaaDoor
