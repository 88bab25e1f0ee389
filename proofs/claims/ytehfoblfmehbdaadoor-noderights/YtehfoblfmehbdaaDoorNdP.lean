/- What Pattern and Guard ask of one node. -/
import Derived.Test.YtehfoblfmehbdaaDoorNdH
namespace Go.Proofs.YtehfoblfmehbdaaDoor
open Go.RowKit

set_option maxHeartbeats 1000000 in
set_option maxRecDepth 100000 in
theorem pat_1 (a : Option Addr) (n : Nat) (c : Nat) (s : ByteArray) (num pos : Int) (w : World)  : Calls Tryd.prog 30 #[.agg #[.int .u8 1, .string s, .int .i64 num, .int .i64 pos, .slice a n c]] w fun e w' => e = .returned (.bool true) ∧ Upd [] w w' := by
  have HU0 : Hid (Upd [] w (w.alloc (.cells #[.int .u8 1, .string s, .int .i64 num, .int .i64 pos, .slice a n c] 25))) := (Upd.refl [] w).alloc _
  go_enter Tryd.func30, Tryd.ntmps30
  go_wp2
  go_ret
  exact ⟨rfl, HU0.out⟩
set_option maxHeartbeats 1000000 in
set_option maxRecDepth 100000 in
theorem pat_2 (a : Option Addr) (n : Nat) (c : Nat) (s : ByteArray) (num pos : Int) (w : World)  : Calls Tryd.prog 30 #[.agg #[.int .u8 2, .string s, .int .i64 num, .int .i64 pos, .slice a n c]] w fun e w' => e = .returned (.bool true) ∧ Upd [] w w' := by
  have HU0 : Hid (Upd [] w (w.alloc (.cells #[.int .u8 2, .string s, .int .i64 num, .int .i64 pos, .slice a n c] 25))) := (Upd.refl [] w).alloc _
  go_enter Tryd.func30, Tryd.ntmps30
  go_wp2
  go_ret
  exact ⟨rfl, HU0.out⟩
set_option maxHeartbeats 1000000 in
set_option maxRecDepth 100000 in
theorem pat_3 (a : Option Addr) (n : Nat) (c : Nat) (s : ByteArray) (num pos : Int) (w : World)  : Calls Tryd.prog 30 #[.agg #[.int .u8 3, .string s, .int .i64 num, .int .i64 pos, .slice a n c]] w fun e w' => e = .returned (.bool true) ∧ Upd [] w w' := by
  have HU0 : Hid (Upd [] w (w.alloc (.cells #[.int .u8 3, .string s, .int .i64 num, .int .i64 pos, .slice a n c] 25))) := (Upd.refl [] w).alloc _
  go_enter Tryd.func30, Tryd.ntmps30
  go_wp2
  go_ret
  exact ⟨rfl, HU0.out⟩
set_option maxHeartbeats 1000000 in
set_option maxRecDepth 100000 in
theorem pat_4 (a : Option Addr) (n : Nat) (c : Nat) (s : ByteArray) (num pos : Int) (w : World)  : Calls Tryd.prog 30 #[.agg #[.int .u8 4, .string s, .int .i64 num, .int .i64 pos, .slice a n c]] w fun e w' => e = .returned (.bool true) ∧ Upd [] w w' := by
  have HU0 : Hid (Upd [] w (w.alloc (.cells #[.int .u8 4, .string s, .int .i64 num, .int .i64 pos, .slice a n c] 25))) := (Upd.refl [] w).alloc _
  go_enter Tryd.func30, Tryd.ntmps30
  go_wp2
  go_ret
  exact ⟨rfl, HU0.out⟩
set_option maxHeartbeats 1000000 in
set_option maxRecDepth 100000 in
theorem pat_5 (a : Option Addr) (n : Nat) (c : Nat) (s : ByteArray) (num pos : Int) (w : World)  : Calls Tryd.prog 30 #[.agg #[.int .u8 5, .string s, .int .i64 num, .int .i64 pos, .slice a n c]] w fun e w' => e = .returned (.bool true) ∧ Upd [] w w' := by
  have HU0 : Hid (Upd [] w (w.alloc (.cells #[.int .u8 5, .string s, .int .i64 num, .int .i64 pos, .slice a n c] 25))) := (Upd.refl [] w).alloc _
  go_enter Tryd.func30, Tryd.ntmps30
  go_wp2
  go_ret
  exact ⟨rfl, HU0.out⟩
set_option maxHeartbeats 1000000 in
set_option maxRecDepth 100000 in
theorem pat_6 (a : Option Addr) (n : Nat) (c : Nat) (s : ByteArray) (num pos : Int) (w : World)  : Calls Tryd.prog 30 #[.agg #[.int .u8 6, .string s, .int .i64 num, .int .i64 pos, .slice a n c]] w fun e w' => e = .returned (.bool true) ∧ Upd [] w w' := by
  have HU0 : Hid (Upd [] w (w.alloc (.cells #[.int .u8 6, .string s, .int .i64 num, .int .i64 pos, .slice a n c] 25))) := (Upd.refl [] w).alloc _
  go_enter Tryd.func30, Tryd.ntmps30
  go_wp2
  go_ret
  exact ⟨rfl, HU0.out⟩
set_option maxHeartbeats 1000000 in
set_option maxRecDepth 100000 in
theorem pat_8 (a : Option Addr) (n : Nat) (c : Nat) (s : ByteArray) (num pos : Int) (w : World)  : Calls Tryd.prog 30 #[.agg #[.int .u8 8, .string s, .int .i64 num, .int .i64 pos, .slice a n c]] w fun e w' => e = .returned (.bool true) ∧ Upd [] w w' := by
  have HU0 : Hid (Upd [] w (w.alloc (.cells #[.int .u8 8, .string s, .int .i64 num, .int .i64 pos, .slice a n c] 25))) := (Upd.refl [] w).alloc _
  go_enter Tryd.func30, Tryd.ntmps30
  go_wp2
  go_ret
  exact ⟨rfl, HU0.out⟩
set_option maxHeartbeats 1000000 in
set_option maxRecDepth 100000 in
theorem pat_0 (a : Option Addr) (n : Nat) (k : Int) (c : Nat) (s : ByteArray) (num pos : Int) (w : World) (h1 : k ≠ 1) (h2 : k ≠ 2) (h3 : k ≠ 3) (h4 : k ≠ 4) (h5 : k ≠ 5) (h6 : k ≠ 6) (h7 : k ≠ 7) (h8 : k ≠ 8) : Calls Tryd.prog 30 #[.agg #[.int .u8 k, .string s, .int .i64 num, .int .i64 pos, .slice a n c]] w fun e w' => e = .returned (.bool false) ∧ Upd [] w w' := by
  have HU0 : Hid (Upd [] w (w.alloc (.cells #[.int .u8 k, .string s, .int .i64 num, .int .i64 pos, .slice a n c] 25))) := (Upd.refl [] w).alloc _
  have k1 : (k == 1) = false := beq_eq_false_iff_ne.2 h1
  have k2 : (k == 2) = false := beq_eq_false_iff_ne.2 h2
  have k3 : (k == 3) = false := beq_eq_false_iff_ne.2 h3
  have k4 : (k == 4) = false := beq_eq_false_iff_ne.2 h4
  have k5 : (k == 5) = false := beq_eq_false_iff_ne.2 h5
  have k6 : (k == 6) = false := beq_eq_false_iff_ne.2 h6
  have k7 : (k == 7) = false := beq_eq_false_iff_ne.2 h7
  have k8 : (k == 8) = false := beq_eq_false_iff_ne.2 h8
  go_enter Tryd.func30, Tryd.ntmps30
  go_wp2
  go_ret
  exact ⟨rfl, HU0.out⟩
set_option maxHeartbeats 1000000 in
set_option maxRecDepth 100000 in
theorem pat_7a (a : Option Addr) (n : Nat) (c : Nat) (s : ByteArray) (num pos : Int) (w : World) (hs : (s.toList == [45]) = false) : Calls Tryd.prog 30 #[.agg #[.int .u8 7, .string s, .int .i64 num, .int .i64 pos, .slice a n c]] w fun e w' => e = .returned (.bool false) ∧ Upd [] w w' := by
  have HU0 : Hid (Upd [] w (w.alloc (.cells #[.int .u8 7, .string s, .int .i64 num, .int .i64 pos, .slice a n c] 25))) := (Upd.refl [] w).alloc _
  go_enter Tryd.func30, Tryd.ntmps30
  go_wp2
  go_ret
  exact ⟨rfl, HU0.out⟩
set_option maxHeartbeats 1000000 in
set_option maxRecDepth 100000 in
theorem pat_7b (a : Option Addr) (n : Nat) (c : Nat) (s : ByteArray) (num pos : Int) (w : World) (hs : (s.toList == [45]) = true) (_hn : n ≤ 2199023255488) (h1 : n ≠ 1) : Calls Tryd.prog 30 #[.agg #[.int .u8 7, .string s, .int .i64 num, .int .i64 pos, .slice a n c]] w fun e w' => e = .returned (.bool false) ∧ Upd [] w w' := by
  have HU0 : Hid (Upd [] w (w.alloc (.cells #[.int .u8 7, .string s, .int .i64 num, .int .i64 pos, .slice a n c] 25))) := (Upd.refl [] w).alloc _
  have hd : ((n : Int) == 1) = false := beq_eq_false_iff_ne.2 (by omega)
  go_enter Tryd.func30, Tryd.ntmps30
  go_wp2
  go_ret
  exact ⟨rfl, HU0.out⟩
set_option maxHeartbeats 1000000 in
set_option maxRecDepth 100000 in
theorem pat_7c (b o : Nat) (kd : Int) (c : Nat) (s : ByteArray) (num pos : Int) (w : World) (hs : (s.toList == [45]) = true) (hb : b < w.heap.size) (hk : w.cell? ⟨b, o, none⟩ = some (.int .u8 kd)) : Calls Tryd.prog 30 #[.agg #[.int .u8 7, .string s, .int .i64 num, .int .i64 pos, .slice (some ⟨b, o, none⟩) 1 c]] w fun e w' => e = .returned (.bool (kd == 1)) ∧ Upd [] w w' := by
  have HU0 : Hid (Upd [] w (w.alloc (.cells #[.int .u8 7, .string s, .int .i64 num, .int .i64 pos, .slice (some ⟨b, o, none⟩) 1 c] 25))) := (Upd.refl [] w).alloc _
  have hc : (w.alloc (.cells #[.int .u8 7, .string s, .int .i64 num, .int .i64 pos, .slice (some ⟨b, o, none⟩) 1 c] 25)).cell? ⟨b, o, none⟩ = some (.int .u8 kd) := (HU0.out.cell (p := ⟨b, o, none⟩) hb (by simp)).trans hk
  obtain ⟨r, hr⟩ : ∃ r, (kd == 1) = r := ⟨_, rfl⟩
  rw [hr]
  clear hk
  go_enter Tryd.func30, Tryd.ntmps30
  go_wp2
  go_ret
  exact ⟨rfl, HU0.out⟩
set_option maxHeartbeats 1000000 in
set_option maxRecDepth 100000 in
theorem grd_1 (a : Option Addr) (n : Nat) (c : Nat) (s : ByteArray) (num pos : Int) (w : World)  : Calls Tryd.prog 32 #[.agg #[.int .u8 1, .string s, .int .i64 num, .int .i64 pos, .slice a n c]] w fun e w' => e = .returned (.bool true) ∧ Upd [] w w' := by
  have HU0 : Hid (Upd [] w (w.alloc (.cells #[.int .u8 1, .string s, .int .i64 num, .int .i64 pos, .slice a n c] 25))) := (Upd.refl [] w).alloc _
  go_enter Tryd.func32, Tryd.ntmps32
  go_wp2
  go_ret
  exact ⟨rfl, HU0.out⟩
set_option maxHeartbeats 1000000 in
set_option maxRecDepth 100000 in
theorem grd_2 (a : Option Addr) (n : Nat) (c : Nat) (s : ByteArray) (num pos : Int) (w : World)  : Calls Tryd.prog 32 #[.agg #[.int .u8 2, .string s, .int .i64 num, .int .i64 pos, .slice a n c]] w fun e w' => e = .returned (.bool true) ∧ Upd [] w w' := by
  have HU0 : Hid (Upd [] w (w.alloc (.cells #[.int .u8 2, .string s, .int .i64 num, .int .i64 pos, .slice a n c] 25))) := (Upd.refl [] w).alloc _
  go_enter Tryd.func32, Tryd.ntmps32
  go_wp2
  go_ret
  exact ⟨rfl, HU0.out⟩
set_option maxHeartbeats 1000000 in
set_option maxRecDepth 100000 in
theorem grd_3 (a : Option Addr) (n : Nat) (c : Nat) (s : ByteArray) (num pos : Int) (w : World)  : Calls Tryd.prog 32 #[.agg #[.int .u8 3, .string s, .int .i64 num, .int .i64 pos, .slice a n c]] w fun e w' => e = .returned (.bool true) ∧ Upd [] w w' := by
  have HU0 : Hid (Upd [] w (w.alloc (.cells #[.int .u8 3, .string s, .int .i64 num, .int .i64 pos, .slice a n c] 25))) := (Upd.refl [] w).alloc _
  go_enter Tryd.func32, Tryd.ntmps32
  go_wp2
  go_ret
  exact ⟨rfl, HU0.out⟩
set_option maxHeartbeats 1000000 in
set_option maxRecDepth 100000 in
theorem grd_4 (a : Option Addr) (n : Nat) (c : Nat) (s : ByteArray) (num pos : Int) (w : World)  : Calls Tryd.prog 32 #[.agg #[.int .u8 4, .string s, .int .i64 num, .int .i64 pos, .slice a n c]] w fun e w' => e = .returned (.bool true) ∧ Upd [] w w' := by
  have HU0 : Hid (Upd [] w (w.alloc (.cells #[.int .u8 4, .string s, .int .i64 num, .int .i64 pos, .slice a n c] 25))) := (Upd.refl [] w).alloc _
  go_enter Tryd.func32, Tryd.ntmps32
  go_wp2
  go_ret
  exact ⟨rfl, HU0.out⟩
set_option maxHeartbeats 1000000 in
set_option maxRecDepth 100000 in
theorem grd_5 (a : Option Addr) (n : Nat) (c : Nat) (s : ByteArray) (num pos : Int) (w : World)  : Calls Tryd.prog 32 #[.agg #[.int .u8 5, .string s, .int .i64 num, .int .i64 pos, .slice a n c]] w fun e w' => e = .returned (.bool true) ∧ Upd [] w w' := by
  have HU0 : Hid (Upd [] w (w.alloc (.cells #[.int .u8 5, .string s, .int .i64 num, .int .i64 pos, .slice a n c] 25))) := (Upd.refl [] w).alloc _
  go_enter Tryd.func32, Tryd.ntmps32
  go_wp2
  go_ret
  exact ⟨rfl, HU0.out⟩
set_option maxHeartbeats 1000000 in
set_option maxRecDepth 100000 in
theorem grd_6 (a : Option Addr) (n : Nat) (c : Nat) (s : ByteArray) (num pos : Int) (w : World)  : Calls Tryd.prog 32 #[.agg #[.int .u8 6, .string s, .int .i64 num, .int .i64 pos, .slice a n c]] w fun e w' => e = .returned (.bool true) ∧ Upd [] w w' := by
  have HU0 : Hid (Upd [] w (w.alloc (.cells #[.int .u8 6, .string s, .int .i64 num, .int .i64 pos, .slice a n c] 25))) := (Upd.refl [] w).alloc _
  go_enter Tryd.func32, Tryd.ntmps32
  go_wp2
  go_ret
  exact ⟨rfl, HU0.out⟩
set_option maxHeartbeats 1000000 in
set_option maxRecDepth 100000 in
theorem grd_0 (a : Option Addr) (n : Nat) (k : Int) (c : Nat) (s : ByteArray) (num pos : Int) (w : World) (h1 : k ≠ 1) (h2 : k ≠ 2) (h3 : k ≠ 3) (h4 : k ≠ 4) (h5 : k ≠ 5) (h6 : k ≠ 6) (h7 : k ≠ 7) (h9 : k ≠ 9) : Calls Tryd.prog 32 #[.agg #[.int .u8 k, .string s, .int .i64 num, .int .i64 pos, .slice a n c]] w fun e w' => e = .returned (.bool false) ∧ Upd [] w w' := by
  have HU0 : Hid (Upd [] w (w.alloc (.cells #[.int .u8 k, .string s, .int .i64 num, .int .i64 pos, .slice a n c] 25))) := (Upd.refl [] w).alloc _
  have k1 : (k == 1) = false := beq_eq_false_iff_ne.2 h1
  have k2 : (k == 2) = false := beq_eq_false_iff_ne.2 h2
  have k3 : (k == 3) = false := beq_eq_false_iff_ne.2 h3
  have k4 : (k == 4) = false := beq_eq_false_iff_ne.2 h4
  have k5 : (k == 5) = false := beq_eq_false_iff_ne.2 h5
  have k6 : (k == 6) = false := beq_eq_false_iff_ne.2 h6
  have k7 : (k == 7) = false := beq_eq_false_iff_ne.2 h7
  have k9 : (k == 9) = false := beq_eq_false_iff_ne.2 h9
  go_enter Tryd.func32, Tryd.ntmps32
  go_wp2
  go_ret
  exact ⟨rfl, HU0.out⟩
set_option maxHeartbeats 1000000 in
set_option maxRecDepth 100000 in
theorem grd_7a (a : Option Addr) (n : Nat) (c : Nat) (s : ByteArray) (num pos : Int) (w : World) (hs : (s.toList == [33]) = true) : Calls Tryd.prog 32 #[.agg #[.int .u8 7, .string s, .int .i64 num, .int .i64 pos, .slice a n c]] w fun e w' => e = .returned (.bool false) ∧ Upd [] w w' := by
  have HU0 : Hid (Upd [] w (w.alloc (.cells #[.int .u8 7, .string s, .int .i64 num, .int .i64 pos, .slice a n c] 25))) := (Upd.refl [] w).alloc _
  go_enter Tryd.func32, Tryd.ntmps32
  go_wp2
  go_ret
  exact ⟨rfl, HU0.out⟩
set_option maxHeartbeats 1000000 in
set_option maxRecDepth 100000 in
theorem grd_7b (a : Option Addr) (n : Nat) (c : Nat) (s : ByteArray) (num pos : Int) (w : World) (hs : (s.toList == [33]) = false) (hs2 : (s.toList == [43, 43]) = true) : Calls Tryd.prog 32 #[.agg #[.int .u8 7, .string s, .int .i64 num, .int .i64 pos, .slice a n c]] w fun e w' => e = .returned (.bool false) ∧ Upd [] w w' := by
  have HU0 : Hid (Upd [] w (w.alloc (.cells #[.int .u8 7, .string s, .int .i64 num, .int .i64 pos, .slice a n c] 25))) := (Upd.refl [] w).alloc _
  go_enter Tryd.func32, Tryd.ntmps32
  go_wp2
  go_ret
  exact ⟨rfl, HU0.out⟩
set_option maxHeartbeats 1000000 in
set_option maxRecDepth 100000 in
theorem grd_7c (a : Option Addr) (n : Nat) (c : Nat) (s : ByteArray) (num pos : Int) (w : World) (hs : (s.toList == [33]) = false) (hs2 : (s.toList == [43, 43]) = false) : Calls Tryd.prog 32 #[.agg #[.int .u8 7, .string s, .int .i64 num, .int .i64 pos, .slice a n c]] w fun e w' => e = .returned (.bool (!(s.toList == [45, 45]))) ∧ Upd [] w w' := by
  have HU0 : Hid (Upd [] w (w.alloc (.cells #[.int .u8 7, .string s, .int .i64 num, .int .i64 pos, .slice a n c] 25))) := (Upd.refl [] w).alloc _
  go_enter Tryd.func32, Tryd.ntmps32
  go_wp2
  go_ret
  exact ⟨rfl, HU0.out⟩
set_option maxHeartbeats 1000000 in
set_option maxRecDepth 100000 in
theorem grd_9 (b o n : Nat) (kd : Int) (c : Nat) (s : ByteArray) (num pos : Int) (w : World) (hn : n ≤ 2199023255488) (h0 : 0 < n) (hb : b < w.heap.size) (hk : w.cell? ⟨b, o, none⟩ = some (.int .u8 kd)) : Calls Tryd.prog 32 #[.agg #[.int .u8 9, .string s, .int .i64 num, .int .i64 pos, .slice (some ⟨b, o, none⟩) n c]] w fun e w' => e = .returned (.bool (kd == 2)) ∧ Upd [] w w' := by
  have HU0 : Hid (Upd [] w (w.alloc (.cells #[.int .u8 9, .string s, .int .i64 num, .int .i64 pos, .slice (some ⟨b, o, none⟩) n c] 25))) := (Upd.refl [] w).alloc _
  have hc : (w.alloc (.cells #[.int .u8 9, .string s, .int .i64 num, .int .i64 pos, .slice (some ⟨b, o, none⟩) n c] 25)).cell? ⟨b, o, none⟩ = some (.int .u8 kd) := (HU0.out.cell (p := ⟨b, o, none⟩) hb (by simp)).trans hk
  have i0 : (0 : Int) < (n : Int) := by omega
  clear hk
  go_enter Tryd.func32, Tryd.ntmps32
  go_wp2
  go_ret
  exact ⟨rfl, HU0.out⟩

def headK (K : List Nd) : Int := match K with
  | [] => 0
  | n :: _ => n.kd
def patB : Nd → Bool
  | .mk k s _ _ K => if k = 1 ∨ k = 2 ∨ k = 3 ∨ k = 4 ∨ k = 5 ∨ k = 6 ∨ k = 8 then true else if k = 7 then (s.toList == [45]) && (decide (K.length = 1) && (headK K == 1)) else false
def grdB : Nd → Bool
  | .mk k s _ _ K => if k = 1 ∨ k = 2 ∨ k = 3 ∨ k = 4 ∨ k = 5 ∨ k = 6 then true else if k = 7 then !(s.toList == [33]) && (!(s.toList == [43, 43]) && !(s.toList == [45, 45])) else if k = 9 then headK K == 2 else false
theorem head_cell {w : World} {d : Nat} {a : Option Addr} {K : List Nd} (h : RowN (NIn w d) w a K) (h0 : 0 < K.length) : ∃ b o, a = some ⟨b, o, none⟩ ∧ b < w.heap.size ∧ w.cell? ⟨b, o, none⟩ = some (.int .u8 (headK K)) := by
  rcases h with h | ⟨b, o, rfl, hb, hc⟩
  · rw [h] at h0; simp at h0
  · obtain ⟨cs, k1, k2, k3⟩ := hc 0 h0
    have := k2 0 (by omega)
    rw [k3.kd] at this
    refine ⟨b, o, rfl, hb, ?_⟩
    cases K with
    | nil => simp at h0
    | cons n r => simpa [headK] using this
theorem pat_asks : Asks 30 patB := by
  intro d w cs t h hs _
  obtain ⟨k, s, num, pos, K⟩ := t
  cases d with
  | zero => exact h.elim
  | succ d =>
    obtain ⟨a, c, rfl, hK, -⟩ := h
    simp only [nsz] at hs
    have hl : K.length ≤ 2199023255488 := Nat.le_trans (nszs_len K) hs
    show Calls Tryd.prog 30 #[.agg #[.int .u8 k, .string s, .int .i64 num, .int .i64 pos, .slice a K.length c]] w _
    rw [patB]
    by_cases h1 : k = 1 ∨ k = 2 ∨ k = 3 ∨ k = 4 ∨ k = 5 ∨ k = 6 ∨ k = 8
    · rw [if_pos h1]
      rcases h1 with rfl | rfl | rfl | rfl | rfl | rfl | rfl
      · exact pat_1 a _ c s num pos w
      · exact pat_2 a _ c s num pos w
      · exact pat_3 a _ c s num pos w
      · exact pat_4 a _ c s num pos w
      · exact pat_5 a _ c s num pos w
      · exact pat_6 a _ c s num pos w
      · exact pat_8 a _ c s num pos w
    · rw [if_neg h1]
      by_cases h7 : k = 7
      · subst h7
        rw [if_pos rfl]
        cases hs1 : (s.toList == [45]) with
        | false => exact pat_7a a _ c s num pos w hs1
        | true =>
          by_cases hn : K.length = 1
          · obtain ⟨b, o, rfl, hb, hk⟩ := head_cell hK (by omega)
            rw [decide_eq_true hn, Bool.true_and, Bool.true_and, hn]
            exact pat_7c b o (headK K) c s num pos w hs1 hb hk
          · rw [decide_eq_false hn, Bool.false_and, Bool.and_false]
            exact pat_7b a _ c s num pos w hs1 hl hn
      · rw [if_neg h7]
        exact pat_0 a _ k c s num pos w (by omega) (by omega) (by omega) (by omega) (by omega) (by omega) (by omega) (by omega)
theorem grd_asks : Asks 32 grdB := by
  intro d w cs t h hs hco
  obtain ⟨k, s, num, pos, K⟩ := t
  cases d with
  | zero => exact h.elim
  | succ d =>
    obtain ⟨a, c, rfl, hK, -⟩ := h
    simp only [nsz] at hs
    have hl : K.length ≤ 2199023255488 := Nat.le_trans (nszs_len K) hs
    show Calls Tryd.prog 32 #[.agg #[.int .u8 k, .string s, .int .i64 num, .int .i64 pos, .slice a K.length c]] w _
    rw [grdB]
    by_cases h1 : k = 1 ∨ k = 2 ∨ k = 3 ∨ k = 4 ∨ k = 5 ∨ k = 6
    · rw [if_pos h1]
      rcases h1 with rfl | rfl | rfl | rfl | rfl | rfl
      · exact grd_1 a _ c s num pos w
      · exact grd_2 a _ c s num pos w
      · exact grd_3 a _ c s num pos w
      · exact grd_4 a _ c s num pos w
      · exact grd_5 a _ c s num pos w
      · exact grd_6 a _ c s num pos w
    · rw [if_neg h1]
      by_cases h7 : k = 7
      · subst h7
        rw [if_pos rfl]
        cases hs1 : (s.toList == [33]) with
        | true => exact grd_7a a _ c s num pos w hs1
        | false =>
          cases hs2 : (s.toList == [43, 43]) with
          | true => exact grd_7b a _ c s num pos w hs1 hs2
          | false => exact grd_7c a _ c s num pos w hs1 hs2
      · rw [if_neg h7]
        by_cases h9 : k = 9
        · subst h9
          rw [if_pos rfl]
          have h0 : 0 < K.length := by
            have h := hco
            unfold callOk at h
            rw [Bool.or_eq_true, decide_eq_true_eq, decide_eq_true_eq] at h
            rcases h with h | h
            · exact absurd rfl h
            · exact h
          obtain ⟨b, o, rfl, hb, hk⟩ := head_cell hK h0
          exact grd_9 b o _ _ c s num pos w hl h0 hb hk
        · rw [if_neg h9]
          exact grd_0 a _ k c s num pos w (by omega) (by omega) (by omega) (by omega) (by omega) (by omega) (by omega) (by omega)

end Go.Proofs.YtehfoblfmehbdaaDoor
