/- size of the reference of term, of whatever term; Right, Size. -/
import Derived.Test.YtalhbbabijlngaaGreatDoorR2C
namespace Go.Proofs.YtalhbbabijlngaaGreatDoor
open Go.RowKit
def o1 : Option Nat → Int
 | some n => n
 | none => -1
def o2 (z : Int) : Option Nat → Int
 | some _ => z
 | none => -1
set_option maxHeartbeats 1000000 in
set_option maxRecDepth 100000 in
theorem sz_1 (a ai at' : Option Addr) (c ci ct : Nat) (s : ByteArray) (w : World) (num : Int) (neg : Bool) (L : List Nat) (ni nt : Nat) (bl : L.length ≤ 35184372088700) (bi : ni ≤ 1353245080330) (bt : nt ≤ 1353245080330) (HA : At w a L) (o : Bool) (ho : okT 1 neg L s num ni nt = o) :
  Calls Tryz.prog 55 #[.agg #[.int .u8 1, .bool neg, .slice a L.length c, .string s, .int .i64 num, .slice ai ni ci, .slice at' nt ct]] w fun e w' => e = .returned (.int .i64 (if o then 1 + (L.length : Int) else -1)) ∧ Upd [] w w' := by
 have HR : Hid (∀ W, Upd [] w W → Calls Tryz.prog 86 #[.agg #[.int .u8 1, .bool neg, .slice a L.length c, .string s, .int .i64 num, .slice ai ni ci, .slice at' nt ct]] W fun e w' => e = .returned (.bool o) ∧ Upd [] W w') := fun W hu => (rRight_any 1 num neg L s a ai at' c ni ci nt ct W (by omega) (HA.mono hu) (by omega) (by omega)).mono fun e w' ⟨he, hw⟩ => ⟨by rw [he, ho], by rw [hw]; exact (Upd.refl [] W).alloc _⟩
 have tb0 : Tb (w.alloc (.cells #[.int .u8 1, .bool neg, .slice a L.length c, .string s, .int .i64 num, .slice ai ni ci, .slice at' nt ct] 26)) w.heap.size #[.int .u8 1, .bool neg, .slice a L.length c, .string s, .int .i64 num, .slice ai ni ci, .slice at' nt ct] := Tb.new _ _ _ rfl
 have HU0 : Hid (Upd [] w (w.alloc (.cells #[.int .u8 1, .bool neg, .slice a L.length c, .string s, .int .i64 num, .slice ai ni ci, .slice at' nt ct] 26))) := (Upd.refl [] w).alloc _
 have hw0 : IntKind.i64.wrap (1 + (L.length : Int)) = 1 + (L.length : Int) := by rw [IntKind.wrap_i64]; omega
 clear HA ho
 go_enter Tryz.func55, Tryz.ntmps55
 go_wp2_with (first | (refine load_T _ rfl _ rfl _ _ rfl tb0 rfl ?_) | fail)
 refine Calls.mono (HR.out _ HU0.out) ?_
 rintro e w1 ⟨rfl, h1⟩
 have tb1 := tb0.mono h1 (by simp)
 have y2 : w1.cell? ⟨w.heap.size, 2, none⟩ = some (.slice a L.length c) := tb1.cell 2
 have U1 : Hid (Upd [] w w1) := HU0.out.trans h1
 clear h1 tb0 tb1
 cases o with
 | false =>
  go_wp2
  go_ret
  exact ⟨rfl, U1.out⟩
 | true =>
  go_wp2
  go_ret
  exact ⟨rfl, U1.out⟩
set_option maxHeartbeats 1000000 in
set_option maxRecDepth 100000 in
theorem sz_4g (a ai at' : Option Addr) (c ci ct : Nat) (s : ByteArray) (w : World) (num : Int) (ni : Nat) (_bi : ni ≤ 1353245080330) (hs : s.size = 0) (hm : 0 ≤ num) (hm1 : num ≤ 16384) (z : Int) (hit : ∀ W, Upd [] w W → Calls Tryz.prog 87 #[.slice ai ni ci, .int .i64 2, .int .i64 0] W fun e' w' => e' = .returned (.int .i64 z) ∧ Upd [] W w') :
  Calls Tryz.prog 55 #[.agg #[.int .u8 4, .bool false, .slice a 0 c, .string s, .int .i64 num, .slice ai ni ci, .slice at' 0 ct]] w fun e w' => e = .returned (.int .i64 z) ∧ Upd [] w w' := by
 have HIT : Hid (∀ W, Upd [] w W → Calls Tryz.prog 87 #[.slice ai ni ci, .int .i64 2, .int .i64 0] W fun e' w' => e' = .returned (.int .i64 z) ∧ Upd [] W w') := hit
 have HU0 : Hid (Upd [] w (w.alloc (.cells #[.int .u8 4, .bool false, .slice a 0 c, .string s, .int .i64 num, .slice ai ni ci, .slice at' 0 ct] 26))) := (Upd.refl [] w).alloc _
 have hE : s.toList.isEmpty = true := by rw [empty_of]; exact decide_eq_true hs
 clear hit
 have hn0 : decide (num < 0) = false := by simp; omega
 have hn1 : decide ((16384 : Int) < num) = false := by simp; omega
 go_enter Tryz.func55, Tryz.ntmps55
 go_wp2_with fail
 refine Calls.mono (HIT.out _ HU0.out) ?_
 rintro e w1 ⟨rfl, h1⟩
 have U1 : Hid (Upd [] w w1) := HU0.out.trans h1
 clear h1
 go_wp2
 go_ret
 exact ⟨rfl, U1.out⟩
set_option maxHeartbeats 1000000 in
set_option maxRecDepth 100000 in
theorem sz_6g (a ai at' : Option Addr) (c ci ct : Nat) (s : ByteArray) (w : World) (num : Int) (ni : Nat) (_bi : ni ≤ 1353245080330) (hs : s.size = 0) (hm : num = 0) (z : Int) (hit : ∀ W, Upd [] w W → Calls Tryz.prog 87 #[.slice ai ni ci, .int .i64 1, .int .i64 0] W fun e' w' => e' = .returned (.int .i64 z) ∧ Upd [] W w') :
  Calls Tryz.prog 55 #[.agg #[.int .u8 6, .bool false, .slice a 0 c, .string s, .int .i64 num, .slice ai ni ci, .slice at' 0 ct]] w fun e w' => e = .returned (.int .i64 z) ∧ Upd [] w w' := by
 have HIT : Hid (∀ W, Upd [] w W → Calls Tryz.prog 87 #[.slice ai ni ci, .int .i64 1, .int .i64 0] W fun e' w' => e' = .returned (.int .i64 z) ∧ Upd [] W w') := hit
 have HU0 : Hid (Upd [] w (w.alloc (.cells #[.int .u8 6, .bool false, .slice a 0 c, .string s, .int .i64 num, .slice ai ni ci, .slice at' 0 ct] 26))) := (Upd.refl [] w).alloc _
 have hE : s.toList.isEmpty = true := by rw [empty_of]; exact decide_eq_true hs
 clear hit
 subst hm
 go_enter Tryz.func55, Tryz.ntmps55
 go_wp2_with fail
 refine Calls.mono (HIT.out _ HU0.out) ?_
 rintro e w1 ⟨rfl, h1⟩
 have U1 : Hid (Upd [] w w1) := HU0.out.trans h1
 clear h1
 go_wp2
 go_ret
 exact ⟨rfl, U1.out⟩
set_option maxHeartbeats 1000000 in
set_option maxRecDepth 100000 in
theorem sz_7a (a ai : Option Addr) (at' : Option Addr) (c ci ct : Nat) (s : ByteArray) (w : World) (ni : Nat) (_bi : ni ≤ 1353245080330) (hs : s.size = 0)  (z2 : Int) (n1 : Option Nat) (hit : ∀ W, Upd [] w W → Calls Tryz.prog 87 #[.slice ai ni ci, .int .i64 1, .int .i64 1] W fun e' w' => e' = .returned (.int .i64 (o1 n1)) ∧ Upd [] W w')
  (hit2 : ∀ W n, n1 = some n → Upd [] w W → Calls Tryz.prog 87 #[.slice at' 0 ct, .int .i64 n, .int .i64 0] W fun e' w' => e' = .returned (.int .i64 z2) ∧ Upd [] W w') :
  Calls Tryz.prog 55 #[.agg #[.int .u8 7, .bool false, .slice a 0 c, .string s, .int .i64 0, .slice ai ni ci, .slice at' 0 ct]] w fun e w' => e = .returned (.int .i64 (o2 z2 n1)) ∧ Upd [] w w' := by
 have HIT2 : Hid (∀ W n, n1 = some n → Upd [] w W → Calls Tryz.prog 87 #[.slice at' 0 ct, .int .i64 n, .int .i64 0] W fun e' w' => e' = .returned (.int .i64 z2) ∧ Upd [] W w') := hit2
 have HIT : Hid (∀ W, Upd [] w W → Calls Tryz.prog 87 #[.slice ai ni ci, .int .i64 1, .int .i64 1] W fun e' w' => e' = .returned (.int .i64 (o1 n1)) ∧ Upd [] W w') := hit
 have tb0 : Tb (w.alloc (.cells #[.int .u8 7, .bool false, .slice a 0 c, .string s, .int .i64 0, .slice ai ni ci, .slice at' 0 ct] 26)) w.heap.size #[.int .u8 7, .bool false, .slice a 0 c, .string s, .int .i64 0, .slice ai ni ci, .slice at' 0 ct] := Tb.new _ _ _ rfl
 have HU0 : Hid (Upd [] w (w.alloc (.cells #[.int .u8 7, .bool false, .slice a 0 c, .string s, .int .i64 0, .slice ai ni ci, .slice at' 0 ct] 26))) := (Upd.refl [] w).alloc _
 have hE : s.toList.isEmpty = true := by rw [empty_of]; exact decide_eq_true hs
 
 clear hit hit2
 have HTB : Hid (Tb _ _ _) := tb0
 clear tb0
 cases n1 with
 | none =>
  have HIT : Hid (∀ W, Upd [] w W → Calls Tryz.prog 87 #[.slice ai ni ci, .int .i64 1, .int .i64 1] W fun e' w' => e' = .returned (.int .i64 (-1)) ∧ Upd [] W w') := HIT.out
  go_enter Tryz.func55, Tryz.ntmps55
  go_wp2_with fail
  refine Calls.mono (HIT.out _ HU0.out) ?_
  rintro e w1 ⟨rfl, h1⟩
  have U1 : Hid (Upd [] w w1) := HU0.out.trans h1
  clear h1
  go_wp2
  go_ret
  exact ⟨rfl, U1.out⟩
 | some n =>
  have HIT : Hid (∀ W, Upd [] w W → Calls Tryz.prog 87 #[.slice ai ni ci, .int .i64 1, .int .i64 1] W fun e' w' => e' = .returned (.int .i64 (n : Nat)) ∧ Upd [] W w') := HIT.out
  go_enter Tryz.func55, Tryz.ntmps55
  go_wp2_with fail
  refine Calls.mono (HIT.out _ HU0.out) ?_
  rintro e w1 ⟨rfl, h1⟩
  have U1 : Hid (Upd [] w w1) := HU0.out.trans h1
  have tb1 := HTB.out.mono h1 (by simp)
  have y6 : w1.cell? ⟨w.heap.size, 6, none⟩ = some (.slice at' 0 ct) := tb1.cell 6
  have hd : decide (((n : Nat) : Int) < 0) = false := by simp
  clear h1 tb1
  go_wp2_with fail
  refine Calls.mono (HIT2.out _ n rfl U1.out) ?_
  rintro e w2 ⟨rfl, h2⟩
  have U2 : Hid (Upd [] w w2) := U1.out.trans h2
  clear h2
  go_wp2
  go_ret
  exact ⟨rfl, U2.out⟩
set_option maxHeartbeats 1000000 in
set_option maxRecDepth 100000 in
theorem sz_7b (a ai : Option Addr) (b o : Nat) (c ci ct : Nat) (s : ByteArray) (w : World) (ni : Nat) (bi : ni ≤ 1353245080330) (hs : s.size = 0) (kt : Int) (hkt : kt ≠ 7) (hni : 0 < ni) (hb : b < w.heap.size) (hc : w.cell? ⟨b, o, none⟩ = some (.int .u8 kt)) (z2 : Int) (n1 : Option Nat) (hit : ∀ W, Upd [] w W → Calls Tryz.prog 87 #[.slice ai ni ci, .int .i64 1, .int .i64 1] W fun e' w' => e' = .returned (.int .i64 (o1 n1)) ∧ Upd [] W w')
  (hit2 : ∀ W n, n1 = some n → Upd [] w W → Calls Tryz.prog 87 #[.slice (some ⟨b, o, none⟩) 1 ct, .int .i64 n, .int .i64 0] W fun e' w' => e' = .returned (.int .i64 z2) ∧ Upd [] W w') :
  Calls Tryz.prog 55 #[.agg #[.int .u8 7, .bool false, .slice a 0 c, .string s, .int .i64 0, .slice ai ni ci, .slice (some ⟨b, o, none⟩) 1 ct]] w fun e w' => e = .returned (.int .i64 (o2 z2 n1)) ∧ Upd [] w w' := by
 have HIT2 : Hid (∀ W n, n1 = some n → Upd [] w W → Calls Tryz.prog 87 #[.slice (some ⟨b, o, none⟩) 1 ct, .int .i64 n, .int .i64 0] W fun e' w' => e' = .returned (.int .i64 z2) ∧ Upd [] W w') := hit2
 have HIT : Hid (∀ W, Upd [] w W → Calls Tryz.prog 87 #[.slice ai ni ci, .int .i64 1, .int .i64 1] W fun e' w' => e' = .returned (.int .i64 (o1 n1)) ∧ Upd [] W w') := hit
 have tb0 : Tb (w.alloc (.cells #[.int .u8 7, .bool false, .slice a 0 c, .string s, .int .i64 0, .slice ai ni ci, .slice (some ⟨b, o, none⟩) 1 ct] 26)) w.heap.size #[.int .u8 7, .bool false, .slice a 0 c, .string s, .int .i64 0, .slice ai ni ci, .slice (some ⟨b, o, none⟩) 1 ct] := Tb.new _ _ _ rfl
 have HU0 : Hid (Upd [] w (w.alloc (.cells #[.int .u8 7, .bool false, .slice a 0 c, .string s, .int .i64 0, .slice ai ni ci, .slice (some ⟨b, o, none⟩) 1 ct] 26))) := (Upd.refl [] w).alloc _
 have hE : s.toList.isEmpty = true := by rw [empty_of]; exact decide_eq_true hs
 have kq : (kt == 7) = false := beq_eq_false_iff_ne.2 hkt
 have i0 : ((ni : Int) == 0) = false := beq_eq_false_iff_ne.2 (by omega)
 have yc : (w.alloc (.cells #[.int .u8 7, .bool false, .slice a 0 c, .string s, .int .i64 0, .slice ai ni ci, .slice (some ⟨b, o, none⟩) 1 ct] 26)).cell? ⟨b, o, none⟩ = some (.int .u8 kt) := (HU0.out.cell (p := ⟨b, o, none⟩) hb (by simp)).trans hc
 clear hc
 clear hit hit2
 have HTB : Hid (Tb _ _ _) := tb0
 clear tb0
 cases n1 with
 | none =>
  have HIT : Hid (∀ W, Upd [] w W → Calls Tryz.prog 87 #[.slice ai ni ci, .int .i64 1, .int .i64 1] W fun e' w' => e' = .returned (.int .i64 (-1)) ∧ Upd [] W w') := HIT.out
  go_enter Tryz.func55, Tryz.ntmps55
  go_wp2_with fail
  refine Calls.mono (HIT.out _ HU0.out) ?_
  rintro e w1 ⟨rfl, h1⟩
  have U1 : Hid (Upd [] w w1) := HU0.out.trans h1
  clear h1
  go_wp2
  go_ret
  exact ⟨rfl, U1.out⟩
 | some n =>
  have HIT : Hid (∀ W, Upd [] w W → Calls Tryz.prog 87 #[.slice ai ni ci, .int .i64 1, .int .i64 1] W fun e' w' => e' = .returned (.int .i64 (n : Nat)) ∧ Upd [] W w') := HIT.out
  go_enter Tryz.func55, Tryz.ntmps55
  go_wp2_with fail
  refine Calls.mono (HIT.out _ HU0.out) ?_
  rintro e w1 ⟨rfl, h1⟩
  have U1 : Hid (Upd [] w w1) := HU0.out.trans h1
  have tb1 := HTB.out.mono h1 (by simp)
  have y6 : w1.cell? ⟨w.heap.size, 6, none⟩ = some (.slice (some ⟨b, o, none⟩) 1 ct) := tb1.cell 6
  have hd : decide (((n : Nat) : Int) < 0) = false := by simp
  clear h1 tb1 yc
  go_wp2_with fail
  refine Calls.mono (HIT2.out _ n rfl U1.out) ?_
  rintro e w2 ⟨rfl, h2⟩
  have U2 : Hid (Upd [] w w2) := U1.out.trans h2
  clear h2
  go_wp2
  go_ret
  exact ⟨rfl, U2.out⟩
set_option maxHeartbeats 1000000 in
set_option maxRecDepth 100000 in
theorem sz_7c (a ai : Option Addr) (b o : Nat) (c ci ct : Nat) (s : ByteArray) (w : World) (ni : Nat) (bi : ni ≤ 1353245080330) (hs : s.size = 0) (hni : 0 < ni) (hb : b < w.heap.size) (hc : w.cell? ⟨b, o, none⟩ = some (.int .u8 7)) :
  Calls Tryz.prog 55 #[.agg #[.int .u8 7, .bool false, .slice a 0 c, .string s, .int .i64 0, .slice ai ni ci, .slice (some ⟨b, o, none⟩) 1 ct]] w fun e w' => e = .returned (.int .i64 (-1)) ∧ Upd [] w w' := by
 have HU0 : Hid (Upd [] w (w.alloc (.cells #[.int .u8 7, .bool false, .slice a 0 c, .string s, .int .i64 0, .slice ai ni ci, .slice (some ⟨b, o, none⟩) 1 ct] 26))) := (Upd.refl [] w).alloc _
 have hE : s.toList.isEmpty = true := by rw [empty_of]; exact decide_eq_true hs
 have i0 : ((ni : Int) == 0) = false := beq_eq_false_iff_ne.2 (by omega)
 have yc : (w.alloc (.cells #[.int .u8 7, .bool false, .slice a 0 c, .string s, .int .i64 0, .slice ai ni ci, .slice (some ⟨b, o, none⟩) 1 ct] 26)).cell? ⟨b, o, none⟩ = some (.int .u8 7) := (HU0.out.cell (p := ⟨b, o, none⟩) hb (by simp)).trans hc
 clear hc
 go_enter Tryz.func55, Tryz.ntmps55
 go_wp2
 go_ret
 exact ⟨rfl, HU0.out⟩
end Go.Proofs.YtalhbbabijlngaaGreatDoor
