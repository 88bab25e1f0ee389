/- is of package node: the call. -/
import Derived.Test.YtejcppnleckmfaaDoorNdKc
namespace Go.Proofs.YtejcppnleckmfaaDoor
open Go.RowKit

set_option maxHeartbeats 1000000 in
set_option maxRecDepth 100000 in
theorem is_no (a : Option Addr) (n c : Nat) (k : Int) (s : ByteArray) (num pos r : Int) (w : World) (hF : ∀ W, Upd [] w W → Calls Tryd.prog 42 #[.int .u8 k, .int .u8 r] W fun e w' => e = .returned (.tuple #[.agg #[.int .u8 0, .int .u8 0, .int .u8 0, .slice none 0 0, .bool false], .bool false]) ∧ Upd [] W w') :
    Calls Tryd.prog 27 #[.agg #[.int .u8 k, .string s, .int .i64 num, .int .i64 pos, .slice a n c], .int .u8 r] w fun e w' => e = .returned (.bool false) ∧ Upd [] w w' := by
  have HU0 : Hid (Upd [] w (w.alloc (.cells #[.int .u8 k, .string s, .int .i64 num, .int .i64 pos, .slice a n c] 25))) := (Upd.refl [] w).alloc _
  have tb0 : Tb (w.alloc (.cells #[.int .u8 k, .string s, .int .i64 num, .int .i64 pos, .slice a n c] 25)) w.heap.size #[.int .u8 k, .string s, .int .i64 num, .int .i64 pos, .slice a n c] := Tb.new _ _ _ rfl
  have HF : Hid (∀ W, Upd [] w W → Calls Tryd.prog 42 #[.int .u8 k, .int .u8 r] W fun e w' => e = .returned (.tuple #[.agg #[.int .u8 0, .int .u8 0, .int .u8 0, .slice none 0 0, .bool false], .bool false]) ∧ Upd [] W w') := hF
  clear hF
  go_enter Tryd.func27, Tryd.ntmps27
  go_wp2_with fail
  refine (HF.out _ HU0.out).mono ?_
  rintro e w1 ⟨rfl, hu⟩
  have HU1 : Hid (Upd [] w w1) := HU0.out.trans hu
  have tb1 := tb0.mono hu (by simp)
  have HT1 : Hid (Tb w1 w.heap.size #[.int .u8 k, .string s, .int .i64 num, .int .i64 pos, .slice a n c]) := tb1
  have _y4 : w1.cell? ⟨w.heap.size, 4, none⟩ = some (.slice a n c) := tb1.cell 4
  have hlt := tb1.lt
  clear hu tb0 tb1
  go_wp2
  go_ret
  exact ⟨rfl, HU1.out.alloc _⟩
set_option maxHeartbeats 1000000 in
set_option maxRecDepth 100000 in
theorem is_kids (a : Option Addr) (n c : Nat) (k : Int) (s : ByteArray) (num pos r : Int) (x y : Int) (le L c2 : Nat) (a2 : Option Addr) (mo : Bool) (w : World) (hF : ∀ W, Upd [] w W → Calls Tryd.prog 42 #[.int .u8 k, .int .u8 r] W fun e w' => e = .returned (.tuple #[.agg #[.int .u8 x, .int .u8 y, .int .u8 le, .slice a2 L c2, .bool mo], .bool true]) ∧ Upd [] W w') (hK : ∀ W, Upd [] w W → Calls Tryd.prog 43 #[.slice a n c, .agg #[.int .u8 x, .int .u8 y, .int .u8 le, .slice a2 L c2, .bool mo]] W fun e w' => e = .returned (.bool false) ∧ Upd [] W w') :
    Calls Tryd.prog 27 #[.agg #[.int .u8 k, .string s, .int .i64 num, .int .i64 pos, .slice a n c], .int .u8 r] w fun e w' => e = .returned (.bool false) ∧ Upd [] w w' := by
  have HU0 : Hid (Upd [] w (w.alloc (.cells #[.int .u8 k, .string s, .int .i64 num, .int .i64 pos, .slice a n c] 25))) := (Upd.refl [] w).alloc _
  have tb0 : Tb (w.alloc (.cells #[.int .u8 k, .string s, .int .i64 num, .int .i64 pos, .slice a n c] 25)) w.heap.size #[.int .u8 k, .string s, .int .i64 num, .int .i64 pos, .slice a n c] := Tb.new _ _ _ rfl
  have HF : Hid (∀ W, Upd [] w W → Calls Tryd.prog 42 #[.int .u8 k, .int .u8 r] W fun e w' => e = .returned (.tuple #[.agg #[.int .u8 x, .int .u8 y, .int .u8 le, .slice a2 L c2, .bool mo], .bool true]) ∧ Upd [] W w') := hF
  clear hF
  have HK : Hid (∀ W, Upd [] w W → Calls Tryd.prog 43 #[.slice a n c, .agg #[.int .u8 x, .int .u8 y, .int .u8 le, .slice a2 L c2, .bool mo]] W fun e w' => e = .returned (.bool false) ∧ Upd [] W w') := hK
  clear hK
  go_enter Tryd.func27, Tryd.ntmps27
  go_wp2_with fail
  refine (HF.out _ HU0.out).mono ?_
  rintro e w1 ⟨rfl, hu⟩
  have HU1 : Hid (Upd [] w w1) := HU0.out.trans hu
  have tb1 := tb0.mono hu (by simp)
  have HT1 : Hid (Tb w1 w.heap.size #[.int .u8 k, .string s, .int .i64 num, .int .i64 pos, .slice a n c]) := tb1
  have y4 : w1.cell? ⟨w.heap.size, 4, none⟩ = some (.slice a n c) := tb1.cell 4
  have hlt := tb1.lt
  clear hu tb0 tb1
  have HU2 : Hid (Upd [] w (w1.alloc (.cells #[.int .u8 x, .int .u8 y, .int .u8 le, .slice a2 L c2, .bool mo] 63))) := HU1.out.alloc _
  have y5 : (w1.alloc (.cells #[.int .u8 x, .int .u8 y, .int .u8 le, .slice a2 L c2, .bool mo] 63)).cell? ⟨w.heap.size, 4, none⟩ = some (.slice a n c) := (((Upd.refl [] w1).alloc _).cell (p := ⟨w.heap.size, 4, none⟩) hlt (by simp)).trans y4
  have HT2 : Hid (Tb (w1.alloc (.cells #[.int .u8 x, .int .u8 y, .int .u8 le, .slice a2 L c2, .bool mo] 63)) w.heap.size #[.int .u8 k, .string s, .int .i64 num, .int .i64 pos, .slice a n c]) := HT1.out.old _
  go_wp2_with fail
  refine (HK.out _ HU2.out).mono ?_
  rintro e w2 ⟨rfl, hu⟩
  have HU3 : Hid (Upd [] w w2) := HU2.out.trans hu
  have _tb3 : Tb w2 w.heap.size #[.int .u8 k, .string s, .int .i64 num, .int .i64 pos, .slice a n c] := HT2.out.mono hu (by simp)
  clear hu y4 y5
  go_wp2
  go_ret
  exact ⟨rfl, HU3.out⟩
set_option maxHeartbeats 1000000 in
set_option maxRecDepth 100000 in
theorem is_go (a : Option Addr) (n c : Nat) (k : Int) (s : ByteArray) (num pos r : Int) (x y : Int) (le L c2 : Nat) (a2 : Option Addr) (mo : Bool) (z : Bool) (w : World) (hF : ∀ W, Upd [] w W → Calls Tryd.prog 42 #[.int .u8 k, .int .u8 r] W fun e w' => e = .returned (.tuple #[.agg #[.int .u8 x, .int .u8 y, .int .u8 le, .slice a2 L c2, .bool mo], .bool true]) ∧ Upd [] W w') (hK : ∀ W, Upd [] w W → Calls Tryd.prog 43 #[.slice a n c, .agg #[.int .u8 x, .int .u8 y, .int .u8 le, .slice a2 L c2, .bool mo]] W fun e w' => e = .returned (.bool true) ∧ Upd [] W w') (hR : ∀ W, Upd [] w W → Calls Tryd.prog 44 #[.agg #[.int .u8 k, .string s, .int .i64 num, .int .i64 pos, .slice a n c]] W fun e w' => e = .returned (.bool z) ∧ Upd [] W w') :
    Calls Tryd.prog 27 #[.agg #[.int .u8 k, .string s, .int .i64 num, .int .i64 pos, .slice a n c], .int .u8 r] w fun e w' => e = .returned (.bool z) ∧ Upd [] w w' := by
  have HU0 : Hid (Upd [] w (w.alloc (.cells #[.int .u8 k, .string s, .int .i64 num, .int .i64 pos, .slice a n c] 25))) := (Upd.refl [] w).alloc _
  have tb0 : Tb (w.alloc (.cells #[.int .u8 k, .string s, .int .i64 num, .int .i64 pos, .slice a n c] 25)) w.heap.size #[.int .u8 k, .string s, .int .i64 num, .int .i64 pos, .slice a n c] := Tb.new _ _ _ rfl
  have HF : Hid (∀ W, Upd [] w W → Calls Tryd.prog 42 #[.int .u8 k, .int .u8 r] W fun e w' => e = .returned (.tuple #[.agg #[.int .u8 x, .int .u8 y, .int .u8 le, .slice a2 L c2, .bool mo], .bool true]) ∧ Upd [] W w') := hF
  clear hF
  have HK : Hid (∀ W, Upd [] w W → Calls Tryd.prog 43 #[.slice a n c, .agg #[.int .u8 x, .int .u8 y, .int .u8 le, .slice a2 L c2, .bool mo]] W fun e w' => e = .returned (.bool true) ∧ Upd [] W w') := hK
  clear hK
  have HR : Hid (∀ W, Upd [] w W → Calls Tryd.prog 44 #[.agg #[.int .u8 k, .string s, .int .i64 num, .int .i64 pos, .slice a n c]] W fun e w' => e = .returned (.bool z) ∧ Upd [] W w') := hR
  clear hR
  go_enter Tryd.func27, Tryd.ntmps27
  go_wp2_with fail
  refine (HF.out _ HU0.out).mono ?_
  rintro e w1 ⟨rfl, hu⟩
  have HU1 : Hid (Upd [] w w1) := HU0.out.trans hu
  have tb1 := tb0.mono hu (by simp)
  have HT1 : Hid (Tb w1 w.heap.size #[.int .u8 k, .string s, .int .i64 num, .int .i64 pos, .slice a n c]) := tb1
  have y4 : w1.cell? ⟨w.heap.size, 4, none⟩ = some (.slice a n c) := tb1.cell 4
  have hlt := tb1.lt
  clear hu tb0 tb1
  have HU2 : Hid (Upd [] w (w1.alloc (.cells #[.int .u8 x, .int .u8 y, .int .u8 le, .slice a2 L c2, .bool mo] 63))) := HU1.out.alloc _
  have y5 : (w1.alloc (.cells #[.int .u8 x, .int .u8 y, .int .u8 le, .slice a2 L c2, .bool mo] 63)).cell? ⟨w.heap.size, 4, none⟩ = some (.slice a n c) := (((Upd.refl [] w1).alloc _).cell (p := ⟨w.heap.size, 4, none⟩) hlt (by simp)).trans y4
  have HT2 : Hid (Tb (w1.alloc (.cells #[.int .u8 x, .int .u8 y, .int .u8 le, .slice a2 L c2, .bool mo] 63)) w.heap.size #[.int .u8 k, .string s, .int .i64 num, .int .i64 pos, .slice a n c]) := HT1.out.old _
  go_wp2_with fail
  refine (HK.out _ HU2.out).mono ?_
  rintro e w2 ⟨rfl, hu⟩
  have HU3 : Hid (Upd [] w w2) := HU2.out.trans hu
  have tb3 : Tb w2 w.heap.size #[.int .u8 k, .string s, .int .i64 num, .int .i64 pos, .slice a n c] := HT2.out.mono hu (by simp)
  clear hu y4 y5
  go_wp2_with (first | (refine load_G _ _ rfl _ _ rfl tb3 rfl rfl ?_) | fail)
  refine (HR.out _ HU3.out).mono ?_
  rintro e w3 ⟨rfl, hu⟩
  have HU4 : Hid (Upd [] w w3) := HU3.out.trans hu
  clear hu tb3
  go_wp2
  go_ret
  exact ⟨rfl, HU4.out⟩

end Go.Proofs.YtejcppnleckmfaaDoor
