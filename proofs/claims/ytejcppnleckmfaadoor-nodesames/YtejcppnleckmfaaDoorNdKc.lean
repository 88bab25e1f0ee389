/- rightKids of package node, by its contract. -/
import Derived.Test.YtejcppnleckmfaaDoorNdKb
namespace Go.Proofs.YtejcppnleckmfaaDoor
open Go.RowKit

set_option maxHeartbeats 1000000 in
set_option maxRecDepth 100000 in
theorem rk_few (a a2 : Option Addr) (n c L c2 le : Nat) (x y : Int) (mo : Bool) (w : World) (hn : n ≤ 2199023255488) (hle : le ≤ 255) (_hL : L ≤ 2199023255488) (h : n < le) : Calls Tryd.prog 43 #[.slice a n c, .agg #[.int .u8 x, .int .u8 y, .int .u8 le, .slice a2 L c2, .bool mo]] w fun e w' => e = .returned (.bool false) ∧ Upd [] w w' := by
  have HU0 : Hid (Upd [] w ((w.alloc (.cells #[.int .u8 x, .int .u8 y, .int .u8 le, .slice a2 L c2, .bool mo] 63)).alloc (.cells #[.slice none 0 0] 61))) := ((Upd.refl [] w).alloc _).alloc _
  have hw : wrap64 (le : Int) = le := by unfold wrap64; omega
  have e0 : ((n : Int) < (le : Int)) := by omega
  go_enter Tryd.func43, Tryd.ntmps43
  go_wp2
  go_ret
  exact ⟨rfl, by repeat (first | with_reducible exact Upd.refl _ _ | with_reducible refine Upd.alloc ?_ _)⟩
set_option maxHeartbeats 1000000 in
set_option maxRecDepth 100000 in
theorem rk_many (a a2 : Option Addr) (n c L c2 le : Nat) (x y : Int) (w : World) (_hn : n ≤ 2199023255488) (hle : le ≤ 255) (_hL : L ≤ 2199023255488) (h : le ≤ n) (h2 : L < n) : Calls Tryd.prog 43 #[.slice a n c, .agg #[.int .u8 x, .int .u8 y, .int .u8 le, .slice a2 L c2, .bool false]] w fun e w' => e = .returned (.bool false) ∧ Upd [] w w' := by
  have HU0 : Hid (Upd [] w ((w.alloc (.cells #[.int .u8 x, .int .u8 y, .int .u8 le, .slice a2 L c2, .bool false] 63)).alloc (.cells #[.slice none 0 0] 61))) := ((Upd.refl [] w).alloc _).alloc _
  have hw : wrap64 (le : Int) = le := by unfold wrap64; omega
  have e0 : decide ((n : Int) < (le : Int)) = false := by simp; omega
  have e1 : ((L : Int) < (n : Int)) := by omega
  go_enter Tryd.func43, Tryd.ntmps43
  go_wp2
  go_ret
  exact ⟨rfl, by repeat (first | with_reducible exact Upd.refl _ _ | with_reducible refine Upd.alloc ?_ _)⟩
set_option maxHeartbeats 1000000 in
set_option maxRecDepth 100000 in
theorem rk_fit (a a2 : Option Addr) (n c L c2 le : Nat) (x y : Int) (mo : Bool) (w : World) (_hn : n ≤ 2199023255488) (hle : le ≤ 255) (_hL : L ≤ 2199023255488) (h : le ≤ n) (h2 : n ≤ L) (z : Bool) (hC : ∀ w0 g, Upd [] w w0 → w.heap.size ≤ g → RolB w0 g (.slice a2 L c2) → Calls Tryd.prog 41 #[.slice a n c, .func (.func 48) #[] #[.pointer (some ⟨g, 0, none⟩)]] w0 fun e w' => e = .returned (.bool z) ∧ Upd [] w w') : Calls Tryd.prog 43 #[.slice a n c, .agg #[.int .u8 x, .int .u8 y, .int .u8 le, .slice a2 L c2, .bool mo]] w fun e w' => e = .returned (.bool z) ∧ Upd [] w w' := by
  have HU0 : Hid (Upd [] w ((w.alloc (.cells #[.int .u8 x, .int .u8 y, .int .u8 le, .slice a2 L c2, .bool mo] 63)).alloc (.cells #[.slice none 0 0] 61))) := ((Upd.refl [] w).alloc _).alloc _
  have hw : wrap64 (le : Int) = le := by unfold wrap64; omega
  have e0 : decide ((n : Int) < (le : Int)) = false := by simp; omega
  have e1 : decide ((L : Int) < (n : Int)) = false := by simp; omega
  have HC : Hid (∀ w0 g, Upd [] w w0 → w.heap.size ≤ g → RolB w0 g (.slice a2 L c2) → Calls Tryd.prog 41 #[.slice a n c, .func (.func 48) #[] #[.pointer (some ⟨g, 0, none⟩)]] w0 fun e w' => e = .returned (.bool z) ∧ Upd [] w w') := hC
  clear hC
  have R1 : Hid (RolB ((w.alloc (.cells #[.int .u8 x, .int .u8 y, .int .u8 le, .slice a2 L c2, .bool mo] 63)).alloc (.cells #[.slice a2 L c2] 61)) (w.heap.size + 1) (.slice a2 L c2)) := FunB.new _ _ _ _ (by simp)
  have HU1 : Hid (Upd [] w ((w.alloc (.cells #[.int .u8 x, .int .u8 y, .int .u8 le, .slice a2 L c2, .bool mo] 63)).alloc (.cells #[.slice a2 L c2] 61))) := ((Upd.refl [] w).alloc _).alloc _
  go_enter Tryd.func43, Tryd.ntmps43
  go_wp2_with fail
  refine (HC.out _ (w.heap.size + 1) HU1.out (by omega) R1.out).mono ?_
  rintro e w1 ⟨rfl, hu⟩
  have HU2 : Hid (Upd [] w w1) := hu
  clear hu
  go_wp2
  go_ret
  exact ⟨rfl, HU2.out⟩
set_option maxHeartbeats 1000000 in
set_option maxRecDepth 100000 in
theorem rk_more (a a2 : Option Addr) (n c L c2 le : Nat) (x y : Int) (w : World) (_hn : n ≤ 2199023255488) (hle : le ≤ 255) (_hL : L ≤ 2199023255488) (h : le ≤ n) (h2 : L < n) (z : Bool) (hC : ∀ w0 g, Upd [] w w0 → w.heap.size ≤ g → RolB w0 g (.slice a2 L c2) → Calls Tryd.prog 41 #[.slice a n c, .func (.func 48) #[] #[.pointer (some ⟨g, 0, none⟩)]] w0 fun e w' => e = .returned (.bool z) ∧ Upd [] w w') : Calls Tryd.prog 43 #[.slice a n c, .agg #[.int .u8 x, .int .u8 y, .int .u8 le, .slice a2 L c2, .bool true]] w fun e w' => e = .returned (.bool z) ∧ Upd [] w w' := by
  have HU0 : Hid (Upd [] w ((w.alloc (.cells #[.int .u8 x, .int .u8 y, .int .u8 le, .slice a2 L c2, .bool true] 63)).alloc (.cells #[.slice none 0 0] 61))) := ((Upd.refl [] w).alloc _).alloc _
  have hw : wrap64 (le : Int) = le := by unfold wrap64; omega
  have e0 : decide ((n : Int) < (le : Int)) = false := by simp; omega
  have e1 : ((L : Int) < (n : Int)) := by omega
  have HC : Hid (∀ w0 g, Upd [] w w0 → w.heap.size ≤ g → RolB w0 g (.slice a2 L c2) → Calls Tryd.prog 41 #[.slice a n c, .func (.func 48) #[] #[.pointer (some ⟨g, 0, none⟩)]] w0 fun e w' => e = .returned (.bool z) ∧ Upd [] w w') := hC
  clear hC
  have R1 : Hid (RolB ((w.alloc (.cells #[.int .u8 x, .int .u8 y, .int .u8 le, .slice a2 L c2, .bool true] 63)).alloc (.cells #[.slice a2 L c2] 61)) (w.heap.size + 1) (.slice a2 L c2)) := FunB.new _ _ _ _ (by simp)
  have HU1 : Hid (Upd [] w ((w.alloc (.cells #[.int .u8 x, .int .u8 y, .int .u8 le, .slice a2 L c2, .bool true] 63)).alloc (.cells #[.slice a2 L c2] 61))) := ((Upd.refl [] w).alloc _).alloc _
  go_enter Tryd.func43, Tryd.ntmps43
  go_wp2_with fail
  refine (HC.out _ (w.heap.size + 1) HU1.out (by omega) R1.out).mono ?_
  rintro e w1 ⟨rfl, hu⟩
  have HU2 : Hid (Upd [] w w1) := hu
  clear hu
  go_wp2
  go_ret
  exact ⟨rfl, HU2.out⟩

end Go.Proofs.YtejcppnleckmfaaDoor
