/- size of the reference of term, kind by kind. -/
import Derived.Test.YtalhbbabijlngaaGreatDoorJAO
namespace Go.Proofs.YtalhbbabijlngaaGreatDoor
open Go.RowKit
set_option maxHeartbeats 1000000 in
set_option maxRecDepth 100000 in
theorem sz_e1 (a ai at' : Option Addr) (c ci ct : Nat) (s : ByteArray) (w : World) (k num : Int) (nl ni nt : Nat) (_bl : nl ≤ 35184372088700) (_bi : ni ≤ 1353245080330) (_bt : nt ≤ 1353245080330) (h1 : k ≠ 1) : Calls Tryz.prog 55 #[.agg #[.int .u8 k, .bool true, .slice a nl c, .string s, .int .i64 num, .slice ai ni ci, .slice at' nt ct]] w fun e w' => e = .returned (.int .i64 (-1)) ∧ Upd [] w w' := by
 have HU0 : Hid (Upd [] w (w.alloc (.cells #[.int .u8 k, .bool true, .slice a nl c, .string s, .int .i64 num, .slice ai ni ci, .slice at' nt ct] 26))) := (Upd.refl [] w).alloc _
 have k1 : (k == 1) = false := beq_eq_false_iff_ne.2 h1
 go_enter Tryz.func55, Tryz.ntmps55
 go_wp2
 go_ret
 exact ⟨rfl, HU0.out⟩
set_option maxHeartbeats 1000000 in
set_option maxRecDepth 100000 in
theorem sz_e2 (a ai at' : Option Addr) (c ci ct : Nat) (s : ByteArray) (w : World) (k num : Int) (nl ni nt : Nat) (bl : nl ≤ 35184372088700) (_bi : ni ≤ 1353245080330) (_bt : nt ≤ 1353245080330) (h1 : k ≠ 1) (hn : 0 < nl) : Calls Tryz.prog 55 #[.agg #[.int .u8 k, .bool false, .slice a nl c, .string s, .int .i64 num, .slice ai ni ci, .slice at' nt ct]] w fun e w' => e = .returned (.int .i64 (-1)) ∧ Upd [] w w' := by
 have HU0 : Hid (Upd [] w (w.alloc (.cells #[.int .u8 k, .bool false, .slice a nl c, .string s, .int .i64 num, .slice ai ni ci, .slice at' nt ct] 26))) := (Upd.refl [] w).alloc _
 have k1 : (k == 1) = false := beq_eq_false_iff_ne.2 h1
 have hp : (0 : Int) < (nl : Int) := by omega
 go_enter Tryz.func55, Tryz.ntmps55
 go_wp2
 go_ret
 exact ⟨rfl, HU0.out⟩
set_option maxHeartbeats 1000000 in
set_option maxRecDepth 100000 in
theorem sz_e3 (a ai at' : Option Addr) (c ci ct : Nat) (s : ByteArray) (w : World) (k num : Int) (nl ni nt : Nat) (_bl : nl ≤ 35184372088700) (_bi : ni ≤ 1353245080330) (_bt : nt ≤ 1353245080330) (h1 : k ≠ 1) (h2 : k ≠ 2) (hs : ¬ s.size = 0) : Calls Tryz.prog 55 #[.agg #[.int .u8 k, .bool false, .slice a 0 c, .string s, .int .i64 num, .slice ai ni ci, .slice at' nt ct]] w fun e w' => e = .returned (.int .i64 (-1)) ∧ Upd [] w w' := by
 have HU0 : Hid (Upd [] w (w.alloc (.cells #[.int .u8 k, .bool false, .slice a 0 c, .string s, .int .i64 num, .slice ai ni ci, .slice at' nt ct] 26))) := (Upd.refl [] w).alloc _
 have k1 : (k == 1) = false := beq_eq_false_iff_ne.2 h1
 have k2 : (k == 2) = false := beq_eq_false_iff_ne.2 h2
 have hE : s.toList.isEmpty = false := by rw [empty_of]; exact decide_eq_false hs
 go_enter Tryz.func55, Tryz.ntmps55
 go_wp2
 go_ret
 exact ⟨rfl, HU0.out⟩
set_option maxHeartbeats 1000000 in
set_option maxRecDepth 100000 in
theorem sz_e4 (a ai at' : Option Addr) (c ci ct : Nat) (s : ByteArray) (w : World) (k num : Int) (nl ni nt : Nat) (_bl : nl ≤ 35184372088700) (_bi : ni ≤ 1353245080330) (bt : nt ≤ 1353245080330) (h1 : k ≠ 1) (h2 : k ≠ 2) (h7 : k ≠ 7) (hs : s.size = 0) (hn : 0 < nt) : Calls Tryz.prog 55 #[.agg #[.int .u8 k, .bool false, .slice a 0 c, .string s, .int .i64 num, .slice ai ni ci, .slice at' nt ct]] w fun e w' => e = .returned (.int .i64 (-1)) ∧ Upd [] w w' := by
 have HU0 : Hid (Upd [] w (w.alloc (.cells #[.int .u8 k, .bool false, .slice a 0 c, .string s, .int .i64 num, .slice ai ni ci, .slice at' nt ct] 26))) := (Upd.refl [] w).alloc _
 have k1 : (k == 1) = false := beq_eq_false_iff_ne.2 h1
 have k2 : (k == 2) = false := beq_eq_false_iff_ne.2 h2
 have k7 : (k == 7) = false := beq_eq_false_iff_ne.2 h7
 have hE : s.toList.isEmpty = true := by rw [empty_of]; exact decide_eq_true hs
 have hp : (0 : Int) < (nt : Int) := by omega
 go_enter Tryz.func55, Tryz.ntmps55
 go_wp2
 go_ret
 exact ⟨rfl, HU0.out⟩
set_option maxHeartbeats 1000000 in
set_option maxRecDepth 100000 in
theorem sz_e5 (a ai at' : Option Addr) (c ci ct : Nat) (s : ByteArray) (w : World) (num : Int) (nl ni nt : Nat) (_bl : nl ≤ 35184372088700) (_bi : ni ≤ 1353245080330) (bt : nt ≤ 1353245080330) (hn : 0 < nt) : Calls Tryz.prog 55 #[.agg #[.int .u8 2, .bool false, .slice a 0 c, .string s, .int .i64 num, .slice ai ni ci, .slice at' nt ct]] w fun e w' => e = .returned (.int .i64 (-1)) ∧ Upd [] w w' := by
 have HU0 : Hid (Upd [] w (w.alloc (.cells #[.int .u8 2, .bool false, .slice a 0 c, .string s, .int .i64 num, .slice ai ni ci, .slice at' nt ct] 26))) := (Upd.refl [] w).alloc _
 have hp : (0 : Int) < (nt : Int) := by omega
 go_enter Tryz.func55, Tryz.ntmps55
 go_wp2
 go_ret
 exact ⟨rfl, HU0.out⟩
set_option maxHeartbeats 1000000 in
set_option maxRecDepth 100000 in
theorem sz_21 (a ai at' : Option Addr) (c ci ct : Nat) (s : ByteArray) (w : World) (num : Int) (nl ni nt : Nat) (_bl : nl ≤ 35184372088700) (_bi : ni ≤ 1353245080330) (_bt : nt ≤ 1353245080330) (h : 40 < s.size) : Calls Tryz.prog 55 #[.agg #[.int .u8 2, .bool false, .slice a 0 c, .string s, .int .i64 num, .slice ai ni ci, .slice at' 0 ct]] w fun e w' => e = .returned (.int .i64 (-1)) ∧ Upd [] w w' := by
 have HU0 : Hid (Upd [] w (w.alloc (.cells #[.int .u8 2, .bool false, .slice a 0 c, .string s, .int .i64 num, .slice ai ni ci, .slice at' 0 ct] 26))) := (Upd.refl [] w).alloc _
 have hq : (40 : Int) < (s.size : Int) := by omega
 go_enter Tryz.func55, Tryz.ntmps55
 go_wp2
 go_ret
 exact ⟨rfl, HU0.out⟩
set_option maxHeartbeats 1000000 in
set_option maxRecDepth 100000 in
theorem sz_22 (a ai at' : Option Addr) (c ci ct : Nat) (s : ByteArray) (w : World) (num : Int) (nl ni nt : Nat) (_bl : nl ≤ 35184372088700) (_bi : ni ≤ 1353245080330) (_bt : nt ≤ 1353245080330) (h : s.size ≤ 40) (hm : num ≠ 0) : Calls Tryz.prog 55 #[.agg #[.int .u8 2, .bool false, .slice a 0 c, .string s, .int .i64 num, .slice ai ni ci, .slice at' 0 ct]] w fun e w' => e = .returned (.int .i64 (-1)) ∧ Upd [] w w' := by
 have HU0 : Hid (Upd [] w (w.alloc (.cells #[.int .u8 2, .bool false, .slice a 0 c, .string s, .int .i64 num, .slice ai ni ci, .slice at' 0 ct] 26))) := (Upd.refl [] w).alloc _
 have hq : decide ((40 : Int) < (s.size : Int)) = false := by simp; omega
 have hm2 : (num == 0) = false := beq_eq_false_iff_ne.2 hm
 go_enter Tryz.func55, Tryz.ntmps55
 go_wp2
 go_ret
 exact ⟨rfl, HU0.out⟩
set_option maxHeartbeats 1000000 in
set_option maxRecDepth 100000 in
theorem sz_23 (a ai at' : Option Addr) (c ci ct : Nat) (s : ByteArray) (w : World) (nl ni nt : Nat) (_bl : nl ≤ 35184372088700) (bi : ni ≤ 1353245080330) (_bt : nt ≤ 1353245080330) (h : s.size ≤ 40) (hn : 0 < ni) : Calls Tryz.prog 55 #[.agg #[.int .u8 2, .bool false, .slice a 0 c, .string s, .int .i64 0, .slice ai ni ci, .slice at' 0 ct]] w fun e w' => e = .returned (.int .i64 (-1)) ∧ Upd [] w w' := by
 have HU0 : Hid (Upd [] w (w.alloc (.cells #[.int .u8 2, .bool false, .slice a 0 c, .string s, .int .i64 0, .slice ai ni ci, .slice at' 0 ct] 26))) := (Upd.refl [] w).alloc _
 have hq : decide ((40 : Int) < (s.size : Int)) = false := by simp; omega
 have hp : (0 : Int) < (ni : Int) := by omega
 go_enter Tryz.func55, Tryz.ntmps55
 go_wp2
 go_ret
 exact ⟨rfl, HU0.out⟩
set_option maxHeartbeats 1000000 in
set_option maxRecDepth 100000 in
theorem sz_24 (a ai at' : Option Addr) (c ci ct : Nat) (s : ByteArray) (w : World)  (h : s.size ≤ 40) : Calls Tryz.prog 55 #[.agg #[.int .u8 2, .bool false, .slice a 0 c, .string s, .int .i64 0, .slice ai 0 ci, .slice at' 0 ct]] w fun e w' => e = .returned (.int .i64 1) ∧ Upd [] w w' := by
 have HU0 : Hid (Upd [] w (w.alloc (.cells #[.int .u8 2, .bool false, .slice a 0 c, .string s, .int .i64 0, .slice ai 0 ci, .slice at' 0 ct] 26))) := (Upd.refl [] w).alloc _
 have hq : decide ((40 : Int) < (s.size : Int)) = false := by simp; omega
 go_enter Tryz.func55, Tryz.ntmps55
 go_wp2
 go_ret
 exact ⟨rfl, HU0.out⟩
set_option maxHeartbeats 1000000 in
set_option maxRecDepth 100000 in
theorem sz_31 (a ai at' : Option Addr) (c ci ct : Nat) (s : ByteArray) (w : World) (num : Int) (nl ni nt : Nat) (_bl : nl ≤ 35184372088700) (_bi : ni ≤ 1353245080330) (_bt : nt ≤ 1353245080330) (hs : s.size = 0) (hm : num < 0) : Calls Tryz.prog 55 #[.agg #[.int .u8 3, .bool false, .slice a 0 c, .string s, .int .i64 num, .slice ai ni ci, .slice at' 0 ct]] w fun e w' => e = .returned (.int .i64 (-1)) ∧ Upd [] w w' := by
 have HU0 : Hid (Upd [] w (w.alloc (.cells #[.int .u8 3, .bool false, .slice a 0 c, .string s, .int .i64 num, .slice ai ni ci, .slice at' 0 ct] 26))) := (Upd.refl [] w).alloc _
 have hE : s.toList.isEmpty = true := by rw [empty_of]; exact decide_eq_true hs
 go_enter Tryz.func55, Tryz.ntmps55
 go_wp2
 go_ret
 exact ⟨rfl, HU0.out⟩
set_option maxHeartbeats 1000000 in
set_option maxRecDepth 100000 in
theorem sz_32 (a ai at' : Option Addr) (c ci ct : Nat) (s : ByteArray) (w : World) (num : Int) (nl ni nt : Nat) (_bl : nl ≤ 35184372088700) (_bi : ni ≤ 1353245080330) (_bt : nt ≤ 1353245080330) (hs : s.size = 0) (hm : 1099511627776 < num) : Calls Tryz.prog 55 #[.agg #[.int .u8 3, .bool false, .slice a 0 c, .string s, .int .i64 num, .slice ai ni ci, .slice at' 0 ct]] w fun e w' => e = .returned (.int .i64 (-1)) ∧ Upd [] w w' := by
 have HU0 : Hid (Upd [] w (w.alloc (.cells #[.int .u8 3, .bool false, .slice a 0 c, .string s, .int .i64 num, .slice ai ni ci, .slice at' 0 ct] 26))) := (Upd.refl [] w).alloc _
 have hE : s.toList.isEmpty = true := by rw [empty_of]; exact decide_eq_true hs
 have hn0 : decide (num < 0) = false := by simp; omega
 go_enter Tryz.func55, Tryz.ntmps55
 go_wp2
 go_ret
 exact ⟨rfl, HU0.out⟩
set_option maxHeartbeats 1000000 in
set_option maxRecDepth 100000 in
theorem sz_33 (a ai at' : Option Addr) (c ci ct : Nat) (s : ByteArray) (w : World) (num : Int) (nl ni nt : Nat) (_bl : nl ≤ 35184372088700) (bi : ni ≤ 1353245080330) (_bt : nt ≤ 1353245080330) (hs : s.size = 0) (hm : 0 ≤ num) (hm1 : num ≤ 1099511627776) (hn : 0 < ni) : Calls Tryz.prog 55 #[.agg #[.int .u8 3, .bool false, .slice a 0 c, .string s, .int .i64 num, .slice ai ni ci, .slice at' 0 ct]] w fun e w' => e = .returned (.int .i64 (-1)) ∧ Upd [] w w' := by
 have HU0 : Hid (Upd [] w (w.alloc (.cells #[.int .u8 3, .bool false, .slice a 0 c, .string s, .int .i64 num, .slice ai ni ci, .slice at' 0 ct] 26))) := (Upd.refl [] w).alloc _
 have hE : s.toList.isEmpty = true := by rw [empty_of]; exact decide_eq_true hs
 have hn0 : decide (num < 0) = false := by simp; omega
 have hn1 : decide ((1099511627776 : Int) < num) = false := by simp; omega
 have hp : (0 : Int) < (ni : Int) := by omega
 go_enter Tryz.func55, Tryz.ntmps55
 go_wp2
 go_ret
 exact ⟨rfl, HU0.out⟩
set_option maxHeartbeats 1000000 in
set_option maxRecDepth 100000 in
theorem sz_34 (a ai at' : Option Addr) (c ci ct : Nat) (s : ByteArray) (w : World) (num : Int) (hs : s.size = 0) (hm : 0 ≤ num) (hm1 : num ≤ 1099511627776) : Calls Tryz.prog 55 #[.agg #[.int .u8 3, .bool false, .slice a 0 c, .string s, .int .i64 num, .slice ai 0 ci, .slice at' 0 ct]] w fun e w' => e = .returned (.int .i64 1) ∧ Upd [] w w' := by
 have HU0 : Hid (Upd [] w (w.alloc (.cells #[.int .u8 3, .bool false, .slice a 0 c, .string s, .int .i64 num, .slice ai 0 ci, .slice at' 0 ct] 26))) := (Upd.refl [] w).alloc _
 have hE : s.toList.isEmpty = true := by rw [empty_of]; exact decide_eq_true hs
 have hn0 : decide (num < 0) = false := by simp; omega
 have hn1 : decide ((1099511627776 : Int) < num) = false := by simp; omega
 go_enter Tryz.func55, Tryz.ntmps55
 go_wp2
 go_ret
 exact ⟨rfl, HU0.out⟩
set_option maxHeartbeats 1000000 in
set_option maxRecDepth 100000 in
theorem sz_51 (a ai at' : Option Addr) (c ci ct : Nat) (s : ByteArray) (w : World) (num : Int) (nl ni nt : Nat) (_bl : nl ≤ 35184372088700) (_bi : ni ≤ 1353245080330) (_bt : nt ≤ 1353245080330) (hs : s.size = 0) (hm : num < 0) : Calls Tryz.prog 55 #[.agg #[.int .u8 5, .bool false, .slice a 0 c, .string s, .int .i64 num, .slice ai ni ci, .slice at' 0 ct]] w fun e w' => e = .returned (.int .i64 (-1)) ∧ Upd [] w w' := by
 have HU0 : Hid (Upd [] w (w.alloc (.cells #[.int .u8 5, .bool false, .slice a 0 c, .string s, .int .i64 num, .slice ai ni ci, .slice at' 0 ct] 26))) := (Upd.refl [] w).alloc _
 have hE : s.toList.isEmpty = true := by rw [empty_of]; exact decide_eq_true hs
 go_enter Tryz.func55, Tryz.ntmps55
 go_wp2
 go_ret
 exact ⟨rfl, HU0.out⟩
set_option maxHeartbeats 1000000 in
set_option maxRecDepth 100000 in
theorem sz_52 (a ai at' : Option Addr) (c ci ct : Nat) (s : ByteArray) (w : World) (num : Int) (nl ni nt : Nat) (_bl : nl ≤ 35184372088700) (_bi : ni ≤ 1353245080330) (_bt : nt ≤ 1353245080330) (hs : s.size = 0) (hm : 1099511627776 < num) : Calls Tryz.prog 55 #[.agg #[.int .u8 5, .bool false, .slice a 0 c, .string s, .int .i64 num, .slice ai ni ci, .slice at' 0 ct]] w fun e w' => e = .returned (.int .i64 (-1)) ∧ Upd [] w w' := by
 have HU0 : Hid (Upd [] w (w.alloc (.cells #[.int .u8 5, .bool false, .slice a 0 c, .string s, .int .i64 num, .slice ai ni ci, .slice at' 0 ct] 26))) := (Upd.refl [] w).alloc _
 have hE : s.toList.isEmpty = true := by rw [empty_of]; exact decide_eq_true hs
 have hn0 : decide (num < 0) = false := by simp; omega
 go_enter Tryz.func55, Tryz.ntmps55
 go_wp2
 go_ret
 exact ⟨rfl, HU0.out⟩
set_option maxHeartbeats 1000000 in
set_option maxRecDepth 100000 in
theorem sz_53 (a ai at' : Option Addr) (c ci ct : Nat) (s : ByteArray) (w : World) (num : Int) (nl ni nt : Nat) (_bl : nl ≤ 35184372088700) (bi : ni ≤ 1353245080330) (_bt : nt ≤ 1353245080330) (hs : s.size = 0) (hm : 0 ≤ num) (hm1 : num ≤ 1099511627776) (hn : 0 < ni) : Calls Tryz.prog 55 #[.agg #[.int .u8 5, .bool false, .slice a 0 c, .string s, .int .i64 num, .slice ai ni ci, .slice at' 0 ct]] w fun e w' => e = .returned (.int .i64 (-1)) ∧ Upd [] w w' := by
 have HU0 : Hid (Upd [] w (w.alloc (.cells #[.int .u8 5, .bool false, .slice a 0 c, .string s, .int .i64 num, .slice ai ni ci, .slice at' 0 ct] 26))) := (Upd.refl [] w).alloc _
 have hE : s.toList.isEmpty = true := by rw [empty_of]; exact decide_eq_true hs
 have hn0 : decide (num < 0) = false := by simp; omega
 have hn1 : decide ((1099511627776 : Int) < num) = false := by simp; omega
 have hp : (0 : Int) < (ni : Int) := by omega
 go_enter Tryz.func55, Tryz.ntmps55
 go_wp2
 go_ret
 exact ⟨rfl, HU0.out⟩
set_option maxHeartbeats 1000000 in
set_option maxRecDepth 100000 in
theorem sz_54 (a ai at' : Option Addr) (c ci ct : Nat) (s : ByteArray) (w : World) (num : Int) (hs : s.size = 0) (hm : 0 ≤ num) (hm1 : num ≤ 1099511627776) : Calls Tryz.prog 55 #[.agg #[.int .u8 5, .bool false, .slice a 0 c, .string s, .int .i64 num, .slice ai 0 ci, .slice at' 0 ct]] w fun e w' => e = .returned (.int .i64 1) ∧ Upd [] w w' := by
 have HU0 : Hid (Upd [] w (w.alloc (.cells #[.int .u8 5, .bool false, .slice a 0 c, .string s, .int .i64 num, .slice ai 0 ci, .slice at' 0 ct] 26))) := (Upd.refl [] w).alloc _
 have hE : s.toList.isEmpty = true := by rw [empty_of]; exact decide_eq_true hs
 have hn0 : decide (num < 0) = false := by simp; omega
 have hn1 : decide ((1099511627776 : Int) < num) = false := by simp; omega
 go_enter Tryz.func55, Tryz.ntmps55
 go_wp2
 go_ret
 exact ⟨rfl, HU0.out⟩
set_option maxHeartbeats 1000000 in
set_option maxRecDepth 100000 in
theorem sz_41 (a ai at' : Option Addr) (c ci ct : Nat) (s : ByteArray) (w : World) (num : Int) (nl ni nt : Nat) (_bl : nl ≤ 35184372088700) (_bi : ni ≤ 1353245080330) (_bt : nt ≤ 1353245080330) (hs : s.size = 0) (hm : num < 0) : Calls Tryz.prog 55 #[.agg #[.int .u8 4, .bool false, .slice a 0 c, .string s, .int .i64 num, .slice ai ni ci, .slice at' 0 ct]] w fun e w' => e = .returned (.int .i64 (-1)) ∧ Upd [] w w' := by
 have HU0 : Hid (Upd [] w (w.alloc (.cells #[.int .u8 4, .bool false, .slice a 0 c, .string s, .int .i64 num, .slice ai ni ci, .slice at' 0 ct] 26))) := (Upd.refl [] w).alloc _
 have hE : s.toList.isEmpty = true := by rw [empty_of]; exact decide_eq_true hs
 go_enter Tryz.func55, Tryz.ntmps55
 go_wp2
 go_ret
 exact ⟨rfl, HU0.out⟩
set_option maxHeartbeats 1000000 in
set_option maxRecDepth 100000 in
theorem sz_42 (a ai at' : Option Addr) (c ci ct : Nat) (s : ByteArray) (w : World) (num : Int) (nl ni nt : Nat) (_bl : nl ≤ 35184372088700) (_bi : ni ≤ 1353245080330) (_bt : nt ≤ 1353245080330) (hs : s.size = 0) (hm : 16384 < num) : Calls Tryz.prog 55 #[.agg #[.int .u8 4, .bool false, .slice a 0 c, .string s, .int .i64 num, .slice ai ni ci, .slice at' 0 ct]] w fun e w' => e = .returned (.int .i64 (-1)) ∧ Upd [] w w' := by
 have HU0 : Hid (Upd [] w (w.alloc (.cells #[.int .u8 4, .bool false, .slice a 0 c, .string s, .int .i64 num, .slice ai ni ci, .slice at' 0 ct] 26))) := (Upd.refl [] w).alloc _
 have hE : s.toList.isEmpty = true := by rw [empty_of]; exact decide_eq_true hs
 have hn0 : decide (num < 0) = false := by simp; omega
 go_enter Tryz.func55, Tryz.ntmps55
 go_wp2
 go_ret
 exact ⟨rfl, HU0.out⟩
set_option maxHeartbeats 1000000 in
set_option maxRecDepth 100000 in
theorem sz_61 (a ai at' : Option Addr) (c ci ct : Nat) (s : ByteArray) (w : World) (num : Int) (nl ni nt : Nat) (_bl : nl ≤ 35184372088700) (_bi : ni ≤ 1353245080330) (_bt : nt ≤ 1353245080330) (hs : s.size = 0) (hm : num ≠ 0) : Calls Tryz.prog 55 #[.agg #[.int .u8 6, .bool false, .slice a 0 c, .string s, .int .i64 num, .slice ai ni ci, .slice at' 0 ct]] w fun e w' => e = .returned (.int .i64 (-1)) ∧ Upd [] w w' := by
 have HU0 : Hid (Upd [] w (w.alloc (.cells #[.int .u8 6, .bool false, .slice a 0 c, .string s, .int .i64 num, .slice ai ni ci, .slice at' 0 ct] 26))) := (Upd.refl [] w).alloc _
 have hE : s.toList.isEmpty = true := by rw [empty_of]; exact decide_eq_true hs
 have hm2 : (num == 0) = false := beq_eq_false_iff_ne.2 hm
 go_enter Tryz.func55, Tryz.ntmps55
 go_wp2
 go_ret
 exact ⟨rfl, HU0.out⟩
set_option maxHeartbeats 1000000 in
set_option maxRecDepth 100000 in
theorem sz_71 (a ai at' : Option Addr) (c ci ct : Nat) (s : ByteArray) (w : World) (num : Int) (nl ni nt : Nat) (_bl : nl ≤ 35184372088700) (_bi : ni ≤ 1353245080330) (_bt : nt ≤ 1353245080330) (hs : s.size = 0) (hm : num ≠ 0) : Calls Tryz.prog 55 #[.agg #[.int .u8 7, .bool false, .slice a 0 c, .string s, .int .i64 num, .slice ai ni ci, .slice at' nt ct]] w fun e w' => e = .returned (.int .i64 (-1)) ∧ Upd [] w w' := by
 have HU0 : Hid (Upd [] w (w.alloc (.cells #[.int .u8 7, .bool false, .slice a 0 c, .string s, .int .i64 num, .slice ai ni ci, .slice at' nt ct] 26))) := (Upd.refl [] w).alloc _
 have hE : s.toList.isEmpty = true := by rw [empty_of]; exact decide_eq_true hs
 have hm2 : (num == 0) = false := beq_eq_false_iff_ne.2 hm
 go_enter Tryz.func55, Tryz.ntmps55
 go_wp2
 go_ret
 exact ⟨rfl, HU0.out⟩
set_option maxHeartbeats 1000000 in
set_option maxRecDepth 100000 in
theorem sz_72 (a ai at' : Option Addr) (c ci ct : Nat) (s : ByteArray) (w : World) (nl ni nt : Nat) (_bl : nl ≤ 35184372088700) (_bi : ni ≤ 1353245080330) (bt : nt ≤ 1353245080330) (hs : s.size = 0) (hn : 1 < nt) : Calls Tryz.prog 55 #[.agg #[.int .u8 7, .bool false, .slice a 0 c, .string s, .int .i64 0, .slice ai ni ci, .slice at' nt ct]] w fun e w' => e = .returned (.int .i64 (-1)) ∧ Upd [] w w' := by
 have HU0 : Hid (Upd [] w (w.alloc (.cells #[.int .u8 7, .bool false, .slice a 0 c, .string s, .int .i64 0, .slice ai ni ci, .slice at' nt ct] 26))) := (Upd.refl [] w).alloc _
 have hE : s.toList.isEmpty = true := by rw [empty_of]; exact decide_eq_true hs
 have hp : (1 : Int) < (nt : Int) := by omega
 go_enter Tryz.func55, Tryz.ntmps55
 go_wp2
 go_ret
 exact ⟨rfl, HU0.out⟩
set_option maxHeartbeats 1000000 in
set_option maxRecDepth 100000 in
theorem sz_73 (a ai at' : Option Addr) (c ci ct : Nat) (s : ByteArray) (w : World)  (hs : s.size = 0) : Calls Tryz.prog 55 #[.agg #[.int .u8 7, .bool false, .slice a 0 c, .string s, .int .i64 0, .slice ai 0 ci, .slice at' 1 ct]] w fun e w' => e = .returned (.int .i64 (-1)) ∧ Upd [] w w' := by
 have HU0 : Hid (Upd [] w (w.alloc (.cells #[.int .u8 7, .bool false, .slice a 0 c, .string s, .int .i64 0, .slice ai 0 ci, .slice at' 1 ct] 26))) := (Upd.refl [] w).alloc _
 have hE : s.toList.isEmpty = true := by rw [empty_of]; exact decide_eq_true hs
 go_enter Tryz.func55, Tryz.ntmps55
 go_wp2
 go_ret
 exact ⟨rfl, HU0.out⟩
set_option maxHeartbeats 1000000 in
set_option maxRecDepth 100000 in
theorem sz_0 (a ai at' : Option Addr) (c ci ct : Nat) (s : ByteArray) (w : World) (k num : Int) (nl ni nt : Nat) (_bl : nl ≤ 35184372088700) (_bi : ni ≤ 1353245080330) (_bt : nt ≤ 1353245080330) (h1 : k ≠ 1) (h2 : k ≠ 2) (h3 : k ≠ 3) (h4 : k ≠ 4) (h5 : k ≠ 5) (h6 : k ≠ 6) (h7 : k ≠ 7) (hs : s.size = 0) : Calls Tryz.prog 55 #[.agg #[.int .u8 k, .bool false, .slice a 0 c, .string s, .int .i64 num, .slice ai ni ci, .slice at' 0 ct]] w fun e w' => e = .returned (.int .i64 (-1)) ∧ Upd [] w w' := by
 have HU0 : Hid (Upd [] w (w.alloc (.cells #[.int .u8 k, .bool false, .slice a 0 c, .string s, .int .i64 num, .slice ai ni ci, .slice at' 0 ct] 26))) := (Upd.refl [] w).alloc _
 have k1 : (k == 1) = false := beq_eq_false_iff_ne.2 h1
 have k2 : (k == 2) = false := beq_eq_false_iff_ne.2 h2
 have k3 : (k == 3) = false := beq_eq_false_iff_ne.2 h3
 have k4 : (k == 4) = false := beq_eq_false_iff_ne.2 h4
 have k5 : (k == 5) = false := beq_eq_false_iff_ne.2 h5
 have k6 : (k == 6) = false := beq_eq_false_iff_ne.2 h6
 have k7 : (k == 7) = false := beq_eq_false_iff_ne.2 h7
 have hE : s.toList.isEmpty = true := by rw [empty_of]; exact decide_eq_true hs
 go_enter Tryz.func55, Tryz.ntmps55
 go_wp2
 go_ret
 exact ⟨rfl, HU0.out⟩
end Go.Proofs.YtalhbbabijlngaaGreatDoor
