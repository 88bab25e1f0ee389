/- rightFields, by its contract. -/
import Derived.Test.YtnpocmhaoaigfaaGreatDoorSizA
namespace Go.Proofs.YtnpocmhaoaigfaaGreatDoor
open Go.RowKit

/-- A whole term loaded, guarded or not. -/
theorem load_G (w : World) {ops : Array Oper} {rest : List Oper} {o : Oper} {a : Act} {Q : Exit → Act → World → Prop} (x : Operand) (ho : o.op = .load 26 x)
    (g : Nat) (cs : Array Value) (hx : a.eval x = .pointer (some ⟨g, 0, none⟩)) (hg : Tb w g cs) (hc : cs.size = 7) (hw : Region.wanted o (yielded ops a.tmps) = true)
    (h : wpList Tryz.prog ops Q rest (a.put o.dst (.agg cs)) w) : wpList Tryz.prog ops Q (o :: rest) a w := by
  obtain ⟨fs, h1⟩ := term_desc
  refine wpList_step fun K hK => ?_
  rw [if_pos hw]
  exact wp_load_row 26 x ho g hx 26 cs (0, 0) _ hg h1 rfl (by rw [info_term, hc]) (hK _ _ h)
theorem ret_bool {a b : Bool} (h : a = b) : Ending.returned (.bool a) = .returned (.bool b) := by rw [h]
theorem Tb.set {w : World} {g : Nat} {cs : Array Value} (h : Tb w g cs) (i : Nat) (v : Value) : Tb (w.setCell ⟨g, i, none⟩ v) g (cs.setIfInBounds i v) := by
  unfold Tb
  rw [heap_setCell_same w g i _ _ _ h]
theorem Tb.free {w : World} {g : Nat} {cs : Array Value} (h : Tb w g cs) (i : Nat) : w.frozen? ⟨g, i, none⟩ = false := frozen_of_row w g i _ _ h
theorem Tb.other {w : World} {g : Nat} {cs : Array Value} (h : Tb w g cs) (a : Addr) (ha : a.block ≠ g) (u : Value) : Tb (w.setCell a u) g cs := by
  unfold Tb
  rw [heap_setCell_other _ _ _ _ (fun e => ha e.symm)]; exact h

set_option maxHeartbeats 4000000 in
set_option maxRecDepth 100000 in
theorem rf2 (num : Int) (neg : Bool) (s : ByteArray) (a ai at' : Option Addr) (nl c ni ci nt ct : Nat) (w : World) (hn2 : nl ≤ 35184372088800) (hni : ni ≤ 35184372088800) (hnt : nt ≤ 35184372088800) :
    Calls Tryz.prog 35 #[.agg #[.int .u8 2, .bool neg, .slice a nl c, .string s, .int .i64 num, .slice ai ni ci, .slice at' nt ct]] w fun e w' => e = .returned (.bool (bareB neg nl ⟨#[]⟩ num ni nt && decide (s.size ≤ 40))) ∧ Upd [] w w' := by
  obtain ⟨b, hb⟩ : ∃ b, b = bareB neg nl ⟨#[]⟩ num ni nt := ⟨_, rfl⟩
  have HB : Hid (∀ W, Calls Tryz.prog 58 #[.agg #[.int .u8 2, .bool neg, .slice a nl c, .string ⟨#[]⟩, .int .i64 num, .slice ai ni ci, .slice at' nt ct]] W fun e w' => e = .returned (.bool b) ∧ Upd [] W w') := fun W => by
    rw [hb]; exact bare_any _ _ _ _ _ _ _ _ _ _ _ _ _ W (by omega) (by omega) (by omega)
  rw [← hb]
  clear hb
  have tb0 : Tb (w.alloc (.cells #[.int .u8 2, .bool neg, .slice a nl c, .string s, .int .i64 num, .slice ai ni ci, .slice at' nt ct] 26)) w.heap.size #[.int .u8 2, .bool neg, .slice a nl c, .string s, .int .i64 num, .slice ai ni ci, .slice at' nt ct] := Tb.new _ _ _ rfl
  have tbz : Tb ((w.alloc (.cells #[.int .u8 2, .bool neg, .slice a nl c, .string s, .int .i64 num, .slice ai ni ci, .slice at' nt ct] 26)).alloc (.cells #[.int .u8 0, .bool false, .slice none 0 0, .string ⟨#[]⟩, .int .i64 0, .slice none 0 0, .slice none 0 0] 26)) (w.heap.size + 1) #[.int .u8 0, .bool false, .slice none 0 0, .string ⟨#[]⟩, .int .i64 0, .slice none 0 0, .slice none 0 0] := Tb.new _ _ _ (by simp)
  have tb1 := tb0.old (.cells #[.int .u8 0, .bool false, .slice none 0 0, .string ⟨#[]⟩, .int .i64 0, .slice none 0 0, .slice none 0 0] 26)
  have HU0 : Hid (Upd [] w ((w.alloc (.cells #[.int .u8 2, .bool neg, .slice a nl c, .string s, .int .i64 num, .slice ai ni ci, .slice at' nt ct] 26)).alloc (.cells #[.int .u8 0, .bool false, .slice none 0 0, .string ⟨#[]⟩, .int .i64 0, .slice none 0 0, .slice none 0 0] 26))) := ((Upd.refl [] w).alloc _).alloc _
  go_enter Tryz.func35, Tryz.ntmps35
  go_wp2_with (first
    | (refine load_T _ rfl _ rfl _ _ rfl tb0 rfl ?_)
    | (refine store_V _ rfl _ _ rfl _ _ _ _ _ _ _ _ _ _ _ _ _ _ _ rfl rfl tbz rfl ?_; intro w1 hT1 hU1; have tb2 := tb1.mono hU1 (by simp); have x0 : w1.cell? ⟨w.heap.size, 0, none⟩ = some (.int .u8 2) := tb2.cell 0; have y3 : (w1).cell? ⟨w.heap.size + 1, 3, none⟩ = some (.string s) := (hT1).cell 3; have z3 : (w1).frozen? ⟨w.heap.size + 1, 3, none⟩ = false := (hT1).free 3; have r3 : Tb ((w1).setCell ⟨w.heap.size + 1, 3, none⟩ (.string ⟨#[]⟩)) (w.heap.size + 1) #[.int .u8 2, .bool neg, .slice a nl c, .string ⟨#[]⟩, .int .i64 num, .slice ai ni ci, .slice at' nt ct] := Tb.set hT1 3 _; have q3 : Tb ((w1).setCell ⟨w.heap.size + 1, 3, none⟩ (.string ⟨#[]⟩)) w.heap.size #[.int .u8 2, .bool neg, .slice a nl c, .string s, .int .i64 num, .slice ai ni ci, .slice at' nt ct] := Tb.other tb2 _ (by simp) _; have HU1 : Hid (Upd [] w ((w1).setCell ⟨w.heap.size + 1, 3, none⟩ (.string ⟨#[]⟩))) := (Upd.setCell (HU0.out.then hU1 (by simp)) (Or.inl (by simp)) _))
    | (refine load_T _ rfl _ rfl _ _ rfl r3 rfl ?_))
  refine (HB.out _).mono ?_
  rintro e w2 ⟨rfl, hU2⟩
  have tb5 := Tb.mono q3 hU2 (by simp)
  have HU2 : Hid (Upd [] w w2) := HU1.out.trans hU2
  clear tb0 tbz tb1 HU0 hT1 hU1 tb2 x0 y3 z3 r3 q3 HU1 hU2
  cases b
  · go_wp2
    go_ret
    exact ⟨by simp, HU2.out⟩
  · have c3 : w2.cell? ⟨w.heap.size, 3, none⟩ = some (.string s) := tb5.cell 3
    go_wp2
    go_ret
    exact ⟨by first | rfl | (simp <;> omega), HU2.out⟩

set_option maxHeartbeats 4000000 in
set_option maxRecDepth 100000 in
theorem rf3 (num : Int) (neg : Bool) (s : ByteArray) (a ai at' : Option Addr) (nl c ni ci nt ct : Nat) (w : World) (hn2 : nl ≤ 35184372088800) (hni : ni ≤ 35184372088800) (hnt : nt ≤ 35184372088800) :
    Calls Tryz.prog 35 #[.agg #[.int .u8 3, .bool neg, .slice a nl c, .string s, .int .i64 num, .slice ai ni ci, .slice at' nt ct]] w fun e w' => e = .returned (.bool (bareB neg nl s 0 ni nt && decide (0 ≤ num ∧ num ≤ 1099511627776))) ∧ Upd [] w w' := by
  obtain ⟨b, hb⟩ : ∃ b, b = bareB neg nl s 0 ni nt := ⟨_, rfl⟩
  have HB : Hid (∀ W, Calls Tryz.prog 58 #[.agg #[.int .u8 3, .bool neg, .slice a nl c, .string s, .int .i64 0, .slice ai ni ci, .slice at' nt ct]] W fun e w' => e = .returned (.bool b) ∧ Upd [] W w') := fun W => by
    rw [hb]; exact bare_any _ _ _ _ _ _ _ _ _ _ _ _ _ W (by omega) (by omega) (by omega)
  rw [← hb]
  clear hb
  have tb0 : Tb (w.alloc (.cells #[.int .u8 3, .bool neg, .slice a nl c, .string s, .int .i64 num, .slice ai ni ci, .slice at' nt ct] 26)) w.heap.size #[.int .u8 3, .bool neg, .slice a nl c, .string s, .int .i64 num, .slice ai ni ci, .slice at' nt ct] := Tb.new _ _ _ rfl
  have tbz : Tb ((w.alloc (.cells #[.int .u8 3, .bool neg, .slice a nl c, .string s, .int .i64 num, .slice ai ni ci, .slice at' nt ct] 26)).alloc (.cells #[.int .u8 0, .bool false, .slice none 0 0, .string ⟨#[]⟩, .int .i64 0, .slice none 0 0, .slice none 0 0] 26)) (w.heap.size + 1) #[.int .u8 0, .bool false, .slice none 0 0, .string ⟨#[]⟩, .int .i64 0, .slice none 0 0, .slice none 0 0] := Tb.new _ _ _ (by simp)
  have tb1 := tb0.old (.cells #[.int .u8 0, .bool false, .slice none 0 0, .string ⟨#[]⟩, .int .i64 0, .slice none 0 0, .slice none 0 0] 26)
  have HU0 : Hid (Upd [] w ((w.alloc (.cells #[.int .u8 3, .bool neg, .slice a nl c, .string s, .int .i64 num, .slice ai ni ci, .slice at' nt ct] 26)).alloc (.cells #[.int .u8 0, .bool false, .slice none 0 0, .string ⟨#[]⟩, .int .i64 0, .slice none 0 0, .slice none 0 0] 26))) := ((Upd.refl [] w).alloc _).alloc _
  go_enter Tryz.func35, Tryz.ntmps35
  go_wp2_with (first
    | (refine load_T _ rfl _ rfl _ _ rfl tb0 rfl ?_)
    | (refine store_V _ rfl _ _ rfl _ _ _ _ _ _ _ _ _ _ _ _ _ _ _ rfl rfl tbz rfl ?_; intro w1 hT1 hU1; have tb2 := tb1.mono hU1 (by simp); have x0 : w1.cell? ⟨w.heap.size, 0, none⟩ = some (.int .u8 3) := tb2.cell 0; have y4 : (w1).cell? ⟨w.heap.size + 1, 4, none⟩ = some (.int .i64 num) := (hT1).cell 4; have z4 : (w1).frozen? ⟨w.heap.size + 1, 4, none⟩ = false := (hT1).free 4; have r4 : Tb ((w1).setCell ⟨w.heap.size + 1, 4, none⟩ (.int .i64 0)) (w.heap.size + 1) #[.int .u8 3, .bool neg, .slice a nl c, .string s, .int .i64 0, .slice ai ni ci, .slice at' nt ct] := Tb.set hT1 4 _; have q4 : Tb ((w1).setCell ⟨w.heap.size + 1, 4, none⟩ (.int .i64 0)) w.heap.size #[.int .u8 3, .bool neg, .slice a nl c, .string s, .int .i64 num, .slice ai ni ci, .slice at' nt ct] := Tb.other tb2 _ (by simp) _; have HU1 : Hid (Upd [] w ((w1).setCell ⟨w.heap.size + 1, 4, none⟩ (.int .i64 0))) := (Upd.setCell (HU0.out.then hU1 (by simp)) (Or.inl (by simp)) _))
    | (refine load_T _ rfl _ rfl _ _ rfl r4 rfl ?_))
  refine (HB.out _).mono ?_
  rintro e w2 ⟨rfl, hU2⟩
  have tb5 := Tb.mono q4 hU2 (by simp)
  have HU2 : Hid (Upd [] w w2) := HU1.out.trans hU2
  clear tb0 tbz tb1 HU0 hT1 hU1 tb2 x0 y4 z4 r4 q4 HU1 hU2
  cases b
  · go_wp2
    go_ret
    exact ⟨by simp, HU2.out⟩
  · have c4 : w2.cell? ⟨w.heap.size, 4, none⟩ = some (.int .i64 num) := tb5.cell 4
    by_cases h0 : 0 ≤ num
    · by_cases h1 : num ≤ 1099511627776
      · go_wp2
        go_ret
        exact ⟨by simp [h0, h1], HU2.out⟩
      · go_wp2
        go_ret
        exact ⟨ret_bool (by simp <;> intros <;> omega), HU2.out⟩
    · go_wp2
      go_ret
      exact ⟨ret_bool (by simp <;> intros <;> omega), HU2.out⟩

set_option maxHeartbeats 4000000 in
set_option maxRecDepth 100000 in
theorem rf5 (num : Int) (neg : Bool) (s : ByteArray) (a ai at' : Option Addr) (nl c ni ci nt ct : Nat) (w : World) (hn2 : nl ≤ 35184372088800) (hni : ni ≤ 35184372088800) (hnt : nt ≤ 35184372088800) :
    Calls Tryz.prog 35 #[.agg #[.int .u8 5, .bool neg, .slice a nl c, .string s, .int .i64 num, .slice ai ni ci, .slice at' nt ct]] w fun e w' => e = .returned (.bool (bareB neg nl s 0 ni nt && decide (0 ≤ num ∧ num ≤ 1099511627776))) ∧ Upd [] w w' := by
  obtain ⟨b, hb⟩ : ∃ b, b = bareB neg nl s 0 ni nt := ⟨_, rfl⟩
  have HB : Hid (∀ W, Calls Tryz.prog 58 #[.agg #[.int .u8 5, .bool neg, .slice a nl c, .string s, .int .i64 0, .slice ai ni ci, .slice at' nt ct]] W fun e w' => e = .returned (.bool b) ∧ Upd [] W w') := fun W => by
    rw [hb]; exact bare_any _ _ _ _ _ _ _ _ _ _ _ _ _ W (by omega) (by omega) (by omega)
  rw [← hb]
  clear hb
  have tb0 : Tb (w.alloc (.cells #[.int .u8 5, .bool neg, .slice a nl c, .string s, .int .i64 num, .slice ai ni ci, .slice at' nt ct] 26)) w.heap.size #[.int .u8 5, .bool neg, .slice a nl c, .string s, .int .i64 num, .slice ai ni ci, .slice at' nt ct] := Tb.new _ _ _ rfl
  have tbz : Tb ((w.alloc (.cells #[.int .u8 5, .bool neg, .slice a nl c, .string s, .int .i64 num, .slice ai ni ci, .slice at' nt ct] 26)).alloc (.cells #[.int .u8 0, .bool false, .slice none 0 0, .string ⟨#[]⟩, .int .i64 0, .slice none 0 0, .slice none 0 0] 26)) (w.heap.size + 1) #[.int .u8 0, .bool false, .slice none 0 0, .string ⟨#[]⟩, .int .i64 0, .slice none 0 0, .slice none 0 0] := Tb.new _ _ _ (by simp)
  have tb1 := tb0.old (.cells #[.int .u8 0, .bool false, .slice none 0 0, .string ⟨#[]⟩, .int .i64 0, .slice none 0 0, .slice none 0 0] 26)
  have HU0 : Hid (Upd [] w ((w.alloc (.cells #[.int .u8 5, .bool neg, .slice a nl c, .string s, .int .i64 num, .slice ai ni ci, .slice at' nt ct] 26)).alloc (.cells #[.int .u8 0, .bool false, .slice none 0 0, .string ⟨#[]⟩, .int .i64 0, .slice none 0 0, .slice none 0 0] 26))) := ((Upd.refl [] w).alloc _).alloc _
  go_enter Tryz.func35, Tryz.ntmps35
  go_wp2_with (first
    | (refine load_T _ rfl _ rfl _ _ rfl tb0 rfl ?_)
    | (refine store_V _ rfl _ _ rfl _ _ _ _ _ _ _ _ _ _ _ _ _ _ _ rfl rfl tbz rfl ?_; intro w1 hT1 hU1; have tb2 := tb1.mono hU1 (by simp); have x0 : w1.cell? ⟨w.heap.size, 0, none⟩ = some (.int .u8 5) := tb2.cell 0; have y4 : (w1).cell? ⟨w.heap.size + 1, 4, none⟩ = some (.int .i64 num) := (hT1).cell 4; have z4 : (w1).frozen? ⟨w.heap.size + 1, 4, none⟩ = false := (hT1).free 4; have r4 : Tb ((w1).setCell ⟨w.heap.size + 1, 4, none⟩ (.int .i64 0)) (w.heap.size + 1) #[.int .u8 5, .bool neg, .slice a nl c, .string s, .int .i64 0, .slice ai ni ci, .slice at' nt ct] := Tb.set hT1 4 _; have q4 : Tb ((w1).setCell ⟨w.heap.size + 1, 4, none⟩ (.int .i64 0)) w.heap.size #[.int .u8 5, .bool neg, .slice a nl c, .string s, .int .i64 num, .slice ai ni ci, .slice at' nt ct] := Tb.other tb2 _ (by simp) _; have HU1 : Hid (Upd [] w ((w1).setCell ⟨w.heap.size + 1, 4, none⟩ (.int .i64 0))) := (Upd.setCell (HU0.out.then hU1 (by simp)) (Or.inl (by simp)) _))
    | (refine load_T _ rfl _ rfl _ _ rfl r4 rfl ?_))
  refine (HB.out _).mono ?_
  rintro e w2 ⟨rfl, hU2⟩
  have tb5 := Tb.mono q4 hU2 (by simp)
  have HU2 : Hid (Upd [] w w2) := HU1.out.trans hU2
  clear tb0 tbz tb1 HU0 hT1 hU1 tb2 x0 y4 z4 r4 q4 HU1 hU2
  cases b
  · go_wp2
    go_ret
    exact ⟨by simp, HU2.out⟩
  · have c4 : w2.cell? ⟨w.heap.size, 4, none⟩ = some (.int .i64 num) := tb5.cell 4
    by_cases h0 : 0 ≤ num
    · by_cases h1 : num ≤ 1099511627776
      · go_wp2
        go_ret
        exact ⟨by simp [h0, h1], HU2.out⟩
      · go_wp2
        go_ret
        exact ⟨ret_bool (by simp <;> intros <;> omega), HU2.out⟩
    · go_wp2
      go_ret
      exact ⟨ret_bool (by simp <;> intros <;> omega), HU2.out⟩

set_option maxHeartbeats 4000000 in
set_option maxRecDepth 100000 in
theorem rf4 (num : Int) (neg : Bool) (s : ByteArray) (a ai at' : Option Addr) (nl c ni ci nt ct : Nat) (w : World) (hn2 : nl ≤ 35184372088800) (_hni : ni ≤ 35184372088800) (hnt : nt ≤ 35184372088800) :
    Calls Tryz.prog 35 #[.agg #[.int .u8 4, .bool neg, .slice a nl c, .string s, .int .i64 num, .slice ai ni ci, .slice at' nt ct]] w fun e w' => e = .returned (.bool (bareB neg nl s 0 0 nt && decide (0 ≤ num ∧ num ≤ 16384))) ∧ Upd [] w w' := by
  obtain ⟨b, hb⟩ : ∃ b, b = bareB neg nl s 0 0 nt := ⟨_, rfl⟩
  have HB : Hid (∀ W, Calls Tryz.prog 58 #[.agg #[.int .u8 4, .bool neg, .slice a nl c, .string s, .int .i64 0, .slice none 0 0, .slice at' nt ct]] W fun e w' => e = .returned (.bool b) ∧ Upd [] W w') := fun W => by
    rw [hb]; exact bare_any _ _ _ _ _ _ _ _ _ _ _ _ _ W (by omega) (by omega) (by omega)
  rw [← hb]
  clear hb
  have tb0 : Tb (w.alloc (.cells #[.int .u8 4, .bool neg, .slice a nl c, .string s, .int .i64 num, .slice ai ni ci, .slice at' nt ct] 26)) w.heap.size #[.int .u8 4, .bool neg, .slice a nl c, .string s, .int .i64 num, .slice ai ni ci, .slice at' nt ct] := Tb.new _ _ _ rfl
  have tbz : Tb ((w.alloc (.cells #[.int .u8 4, .bool neg, .slice a nl c, .string s, .int .i64 num, .slice ai ni ci, .slice at' nt ct] 26)).alloc (.cells #[.int .u8 0, .bool false, .slice none 0 0, .string ⟨#[]⟩, .int .i64 0, .slice none 0 0, .slice none 0 0] 26)) (w.heap.size + 1) #[.int .u8 0, .bool false, .slice none 0 0, .string ⟨#[]⟩, .int .i64 0, .slice none 0 0, .slice none 0 0] := Tb.new _ _ _ (by simp)
  have tb1 := tb0.old (.cells #[.int .u8 0, .bool false, .slice none 0 0, .string ⟨#[]⟩, .int .i64 0, .slice none 0 0, .slice none 0 0] 26)
  have HU0 : Hid (Upd [] w ((w.alloc (.cells #[.int .u8 4, .bool neg, .slice a nl c, .string s, .int .i64 num, .slice ai ni ci, .slice at' nt ct] 26)).alloc (.cells #[.int .u8 0, .bool false, .slice none 0 0, .string ⟨#[]⟩, .int .i64 0, .slice none 0 0, .slice none 0 0] 26))) := ((Upd.refl [] w).alloc _).alloc _
  go_enter Tryz.func35, Tryz.ntmps35
  go_wp2_with (first
    | (refine load_T _ rfl _ rfl _ _ rfl tb0 rfl ?_)
    | (refine store_V _ rfl _ _ rfl _ _ _ _ _ _ _ _ _ _ _ _ _ _ _ rfl rfl tbz rfl ?_; intro w1 hT1 hU1; have tb2 := tb1.mono hU1 (by simp); have x0 : w1.cell? ⟨w.heap.size, 0, none⟩ = some (.int .u8 4) := tb2.cell 0; have y4 : (w1).cell? ⟨w.heap.size + 1, 4, none⟩ = some (.int .i64 num) := (hT1).cell 4; have z4 : (w1).frozen? ⟨w.heap.size + 1, 4, none⟩ = false := (hT1).free 4; have r4 : Tb ((w1).setCell ⟨w.heap.size + 1, 4, none⟩ (.int .i64 0)) (w.heap.size + 1) #[.int .u8 4, .bool neg, .slice a nl c, .string s, .int .i64 0, .slice ai ni ci, .slice at' nt ct] := Tb.set hT1 4 _; have q4 : Tb ((w1).setCell ⟨w.heap.size + 1, 4, none⟩ (.int .i64 0)) w.heap.size #[.int .u8 4, .bool neg, .slice a nl c, .string s, .int .i64 num, .slice ai ni ci, .slice at' nt ct] := Tb.other tb2 _ (by simp) _; have y5 : ((w1).setCell ⟨w.heap.size + 1, 4, none⟩ (.int .i64 0)).cell? ⟨w.heap.size + 1, 5, none⟩ = some (.slice ai ni ci) := (r4).cell 5; have z5 : ((w1).setCell ⟨w.heap.size + 1, 4, none⟩ (.int .i64 0)).frozen? ⟨w.heap.size + 1, 5, none⟩ = false := (r4).free 5; have r5 : Tb (((w1).setCell ⟨w.heap.size + 1, 4, none⟩ (.int .i64 0)).setCell ⟨w.heap.size + 1, 5, none⟩ (.slice none 0 0)) (w.heap.size + 1) #[.int .u8 4, .bool neg, .slice a nl c, .string s, .int .i64 0, .slice none 0 0, .slice at' nt ct] := Tb.set r4 5 _; have q5 : Tb (((w1).setCell ⟨w.heap.size + 1, 4, none⟩ (.int .i64 0)).setCell ⟨w.heap.size + 1, 5, none⟩ (.slice none 0 0)) w.heap.size #[.int .u8 4, .bool neg, .slice a nl c, .string s, .int .i64 num, .slice ai ni ci, .slice at' nt ct] := Tb.other q4 _ (by simp) _; have HU1 : Hid (Upd [] w (((w1).setCell ⟨w.heap.size + 1, 4, none⟩ (.int .i64 0)).setCell ⟨w.heap.size + 1, 5, none⟩ (.slice none 0 0))) := (Upd.setCell (Upd.setCell (HU0.out.then hU1 (by simp)) (Or.inl (by simp)) _) (Or.inl (by simp)) _))
    | (refine load_T _ rfl _ rfl _ _ rfl r5 rfl ?_))
  refine (HB.out _).mono ?_
  rintro e w2 ⟨rfl, hU2⟩
  have tb5 := Tb.mono q5 hU2 (by simp)
  have HU2 : Hid (Upd [] w w2) := HU1.out.trans hU2
  clear tb0 tbz tb1 HU0 hT1 hU1 tb2 x0 y4 z4 r4 q4 y5 z5 r5 q5 HU1 hU2
  cases b
  · go_wp2
    go_ret
    exact ⟨by simp, HU2.out⟩
  · have c4 : w2.cell? ⟨w.heap.size, 4, none⟩ = some (.int .i64 num) := tb5.cell 4
    by_cases h0 : 0 ≤ num
    · by_cases h1 : num ≤ 16384
      · go_wp2
        go_ret
        exact ⟨by simp [h0, h1], HU2.out⟩
      · go_wp2
        go_ret
        exact ⟨ret_bool (by simp <;> intros <;> omega), HU2.out⟩
    · go_wp2
      go_ret
      exact ⟨ret_bool (by simp <;> intros <;> omega), HU2.out⟩

set_option maxHeartbeats 4000000 in
set_option maxRecDepth 100000 in
theorem rf6 (num : Int) (neg : Bool) (s : ByteArray) (a ai at' : Option Addr) (nl c ni ci nt ct : Nat) (w : World) (hn2 : nl ≤ 35184372088800) (_hni : ni ≤ 35184372088800) (hnt : nt ≤ 35184372088800) :
    Calls Tryz.prog 35 #[.agg #[.int .u8 6, .bool neg, .slice a nl c, .string s, .int .i64 num, .slice ai ni ci, .slice at' nt ct]] w fun e w' => e = .returned (.bool (bareB neg nl s num 0 nt)) ∧ Upd [] w w' := by
  obtain ⟨b, hb⟩ : ∃ b, b = bareB neg nl s num 0 nt := ⟨_, rfl⟩
  have HB : Hid (∀ W, Calls Tryz.prog 58 #[.agg #[.int .u8 6, .bool neg, .slice a nl c, .string s, .int .i64 num, .slice none 0 0, .slice at' nt ct]] W fun e w' => e = .returned (.bool b) ∧ Upd [] W w') := fun W => by
    rw [hb]; exact bare_any _ _ _ _ _ _ _ _ _ _ _ _ _ W (by omega) (by omega) (by omega)
  rw [← hb]
  clear hb
  have tb0 : Tb (w.alloc (.cells #[.int .u8 6, .bool neg, .slice a nl c, .string s, .int .i64 num, .slice ai ni ci, .slice at' nt ct] 26)) w.heap.size #[.int .u8 6, .bool neg, .slice a nl c, .string s, .int .i64 num, .slice ai ni ci, .slice at' nt ct] := Tb.new _ _ _ rfl
  have tbz : Tb ((w.alloc (.cells #[.int .u8 6, .bool neg, .slice a nl c, .string s, .int .i64 num, .slice ai ni ci, .slice at' nt ct] 26)).alloc (.cells #[.int .u8 0, .bool false, .slice none 0 0, .string ⟨#[]⟩, .int .i64 0, .slice none 0 0, .slice none 0 0] 26)) (w.heap.size + 1) #[.int .u8 0, .bool false, .slice none 0 0, .string ⟨#[]⟩, .int .i64 0, .slice none 0 0, .slice none 0 0] := Tb.new _ _ _ (by simp)
  have tb1 := tb0.old (.cells #[.int .u8 0, .bool false, .slice none 0 0, .string ⟨#[]⟩, .int .i64 0, .slice none 0 0, .slice none 0 0] 26)
  have HU0 : Hid (Upd [] w ((w.alloc (.cells #[.int .u8 6, .bool neg, .slice a nl c, .string s, .int .i64 num, .slice ai ni ci, .slice at' nt ct] 26)).alloc (.cells #[.int .u8 0, .bool false, .slice none 0 0, .string ⟨#[]⟩, .int .i64 0, .slice none 0 0, .slice none 0 0] 26))) := ((Upd.refl [] w).alloc _).alloc _
  go_enter Tryz.func35, Tryz.ntmps35
  go_wp2_with (first
    | (refine load_T _ rfl _ rfl _ _ rfl tb0 rfl ?_)
    | (refine store_V _ rfl _ _ rfl _ _ _ _ _ _ _ _ _ _ _ _ _ _ _ rfl rfl tbz rfl ?_; intro w1 hT1 hU1; have tb2 := tb1.mono hU1 (by simp); have x0 : w1.cell? ⟨w.heap.size, 0, none⟩ = some (.int .u8 6) := tb2.cell 0; have y5 : (w1).cell? ⟨w.heap.size + 1, 5, none⟩ = some (.slice ai ni ci) := (hT1).cell 5; have z5 : (w1).frozen? ⟨w.heap.size + 1, 5, none⟩ = false := (hT1).free 5; have r5 : Tb ((w1).setCell ⟨w.heap.size + 1, 5, none⟩ (.slice none 0 0)) (w.heap.size + 1) #[.int .u8 6, .bool neg, .slice a nl c, .string s, .int .i64 num, .slice none 0 0, .slice at' nt ct] := Tb.set hT1 5 _; have q5 : Tb ((w1).setCell ⟨w.heap.size + 1, 5, none⟩ (.slice none 0 0)) w.heap.size #[.int .u8 6, .bool neg, .slice a nl c, .string s, .int .i64 num, .slice ai ni ci, .slice at' nt ct] := Tb.other tb2 _ (by simp) _; have HU1 : Hid (Upd [] w ((w1).setCell ⟨w.heap.size + 1, 5, none⟩ (.slice none 0 0))) := (Upd.setCell (HU0.out.then hU1 (by simp)) (Or.inl (by simp)) _))
    | (refine load_T _ rfl _ rfl _ _ rfl r5 rfl ?_))
  refine (HB.out _).mono ?_
  rintro e w2 ⟨rfl, hU2⟩
  have tb5 := Tb.mono q5 hU2 (by simp)
  have HU2 : Hid (Upd [] w w2) := HU1.out.trans hU2
  clear tb0 tbz tb1 HU0 hT1 hU1 tb2 x0 y5 z5 r5 q5 HU1 hU2
  go_wp2
  go_ret
  exact ⟨rfl, HU2.out⟩

set_option maxHeartbeats 4000000 in
set_option maxRecDepth 100000 in
theorem rf7 (num : Int) (neg : Bool) (s : ByteArray) (a ai at' : Option Addr) (nl c ni ci nt ct : Nat) (w : World) (hn2 : nl ≤ 35184372088800) (hni : ni ≤ 35184372088800) (hnt : nt ≤ 35184372088800) (T : List Tm) (d : Nat) (HT : RowAt (In w d) w at' T) (hTl : nt = T.length) :
    Calls Tryz.prog 35 #[.agg #[.int .u8 7, .bool neg, .slice a nl c, .string s, .int .i64 num, .slice ai ni ci, .slice at' nt ct]] w fun e w' => e = .returned (.bool (bareB neg nl s num 0 0 && tailB ni T)) ∧ Upd [] w w' := by
  obtain ⟨b, hb⟩ : ∃ b, b = bareB neg nl s num 0 0 := ⟨_, rfl⟩
  have HB : Hid (∀ W, Calls Tryz.prog 58 #[.agg #[.int .u8 7, .bool neg, .slice a nl c, .string s, .int .i64 num, .slice none 0 0, .slice none 0 0]] W fun e w' => e = .returned (.bool b) ∧ Upd [] W w') := fun W => by
    rw [hb]; exact bare_any _ _ _ _ _ _ _ _ _ _ _ _ _ W (by omega) (by omega) (by omega)
  rw [← hb]
  clear hb
  have HTL : Hid (∀ W, Upd [] w W → Calls Tryz.prog 59 #[.agg #[.int .u8 7, .bool neg, .slice a nl c, .string s, .int .i64 num, .slice ai ni ci, .slice at' nt ct]] W fun e w' => e = .returned (.bool (tailB ni T)) ∧ Upd [] W w') := fun W hU => by
    subst hTl; exact rightTail_any _ _ _ _ _ _ _ _ _ _ _ _ d T W hni hnt (HT.imp hU (fun cs t h => In.mono hU d cs t h))
  obtain ⟨tt, htt⟩ : ∃ tt, tt = tailB ni T := ⟨_, rfl⟩
  rw [← htt] at HTL ⊢
  clear HT htt hTl
  have tb0 : Tb (w.alloc (.cells #[.int .u8 7, .bool neg, .slice a nl c, .string s, .int .i64 num, .slice ai ni ci, .slice at' nt ct] 26)) w.heap.size #[.int .u8 7, .bool neg, .slice a nl c, .string s, .int .i64 num, .slice ai ni ci, .slice at' nt ct] := Tb.new _ _ _ rfl
  have tbz : Tb ((w.alloc (.cells #[.int .u8 7, .bool neg, .slice a nl c, .string s, .int .i64 num, .slice ai ni ci, .slice at' nt ct] 26)).alloc (.cells #[.int .u8 0, .bool false, .slice none 0 0, .string ⟨#[]⟩, .int .i64 0, .slice none 0 0, .slice none 0 0] 26)) (w.heap.size + 1) #[.int .u8 0, .bool false, .slice none 0 0, .string ⟨#[]⟩, .int .i64 0, .slice none 0 0, .slice none 0 0] := Tb.new _ _ _ (by simp)
  have tb1 := tb0.old (.cells #[.int .u8 0, .bool false, .slice none 0 0, .string ⟨#[]⟩, .int .i64 0, .slice none 0 0, .slice none 0 0] 26)
  have HU0 : Hid (Upd [] w ((w.alloc (.cells #[.int .u8 7, .bool neg, .slice a nl c, .string s, .int .i64 num, .slice ai ni ci, .slice at' nt ct] 26)).alloc (.cells #[.int .u8 0, .bool false, .slice none 0 0, .string ⟨#[]⟩, .int .i64 0, .slice none 0 0, .slice none 0 0] 26))) := ((Upd.refl [] w).alloc _).alloc _
  go_enter Tryz.func35, Tryz.ntmps35
  go_wp2_with (first
    | (refine load_T _ rfl _ rfl _ _ rfl tb0 rfl ?_)
    | (refine store_V _ rfl _ _ rfl _ _ _ _ _ _ _ _ _ _ _ _ _ _ _ rfl rfl tbz rfl ?_; intro w1 hT1 hU1; have tb2 := tb1.mono hU1 (by simp); have x0 : w1.cell? ⟨w.heap.size, 0, none⟩ = some (.int .u8 7) := tb2.cell 0; have y5 : (w1).cell? ⟨w.heap.size + 1, 5, none⟩ = some (.slice ai ni ci) := (hT1).cell 5; have z5 : (w1).frozen? ⟨w.heap.size + 1, 5, none⟩ = false := (hT1).free 5; have r5 : Tb ((w1).setCell ⟨w.heap.size + 1, 5, none⟩ (.slice none 0 0)) (w.heap.size + 1) #[.int .u8 7, .bool neg, .slice a nl c, .string s, .int .i64 num, .slice none 0 0, .slice at' nt ct] := Tb.set hT1 5 _; have q5 : Tb ((w1).setCell ⟨w.heap.size + 1, 5, none⟩ (.slice none 0 0)) w.heap.size #[.int .u8 7, .bool neg, .slice a nl c, .string s, .int .i64 num, .slice ai ni ci, .slice at' nt ct] := Tb.other tb2 _ (by simp) _; have y6 : ((w1).setCell ⟨w.heap.size + 1, 5, none⟩ (.slice none 0 0)).cell? ⟨w.heap.size + 1, 6, none⟩ = some (.slice at' nt ct) := (r5).cell 6; have z6 : ((w1).setCell ⟨w.heap.size + 1, 5, none⟩ (.slice none 0 0)).frozen? ⟨w.heap.size + 1, 6, none⟩ = false := (r5).free 6; have r6 : Tb (((w1).setCell ⟨w.heap.size + 1, 5, none⟩ (.slice none 0 0)).setCell ⟨w.heap.size + 1, 6, none⟩ (.slice none 0 0)) (w.heap.size + 1) #[.int .u8 7, .bool neg, .slice a nl c, .string s, .int .i64 num, .slice none 0 0, .slice none 0 0] := Tb.set r5 6 _; have q6 : Tb (((w1).setCell ⟨w.heap.size + 1, 5, none⟩ (.slice none 0 0)).setCell ⟨w.heap.size + 1, 6, none⟩ (.slice none 0 0)) w.heap.size #[.int .u8 7, .bool neg, .slice a nl c, .string s, .int .i64 num, .slice ai ni ci, .slice at' nt ct] := Tb.other q5 _ (by simp) _; have HU1 : Hid (Upd [] w (((w1).setCell ⟨w.heap.size + 1, 5, none⟩ (.slice none 0 0)).setCell ⟨w.heap.size + 1, 6, none⟩ (.slice none 0 0))) := (Upd.setCell (Upd.setCell (HU0.out.then hU1 (by simp)) (Or.inl (by simp)) _) (Or.inl (by simp)) _))
    | (refine load_T _ rfl _ rfl _ _ rfl r6 rfl ?_))
  refine (HB.out _).mono ?_
  rintro e w2 ⟨rfl, hU2⟩
  have tb5 := Tb.mono q6 hU2 (by simp)
  have HU2 : Hid (Upd [] w w2) := HU1.out.trans hU2
  clear tb0 tbz tb1 HU0 hT1 hU1 tb2 x0 y5 z5 r5 q5 y6 z6 r6 q6 HU1 hU2
  cases b
  · go_wp2
    go_ret
    exact ⟨by simp, HU2.out⟩
  · go_wp2_with (first | (refine load_G _ _ rfl _ _ rfl tb5 rfl rfl ?_) | fail)
    refine (HTL.out _ HU2.out).mono ?_
    rintro e w3 ⟨rfl, hU3⟩
    go_wp2
    go_ret
    exact ⟨by simp, HU2.out.trans hU3⟩

theorem bare_and (neg : Bool) (nl : Nat) (s : ByteArray) (num : Int) (ni nt : Nat) : bareB neg nl s num ni nt = (decide (neg = false ∧ nl = 0) && decide (s.size = 0 ∧ num = 0 ∧ ni = 0 ∧ nt = 0)) := by
  unfold bareB
  rw [Bool.eq_iff_iff]
  simp only [Bool.and_eq_true, decide_eq_true_eq, beq_iff_eq, Bool.not_eq_true']
  constructor <;> intro h <;> simp_all
theorem okL_eq (neg : Bool) (L : List Nat) : okL neg L = limbsOk neg L := rfl

set_option maxHeartbeats 4000000 in
set_option maxRecDepth 100000 in
/-- rightFields: whether a term's own fields are right. -/
theorem rightFields_any (k num : Int) (neg : Bool) (L : List Nat) (s : ByteArray) (a ai at' : Option Addr) (c ni ci ct d : Nat) (T : List Tm) (w : World) (hn2 : L.length ≤ 35184372088800) (hni : ni ≤ 35184372088800) (hnt : T.length ≤ 35184372088800) (HL : At w a L) (HT : RowAt (In w d) w at' T) :
    Calls Tryz.prog 35 #[.agg #[.int .u8 k, .bool neg, .slice a L.length c, .string s, .int .i64 num, .slice ai ni ci, .slice at' T.length ct]] w fun e w' => e = .returned (.bool (okF k num neg L s ni T)) ∧ Upd [] w w' := by
  by_cases h1 : k = 1
  · subst h1
    have HR : Hid (∀ W, Upd [] w W → _) := fun W hu => Right_any 1 num neg L s a ai at' c ni ci T.length ct W (by omega) (HL.mono hu) (by omega) (by omega)
    have e : okF 1 num neg L s ni T = okT 1 neg L s num ni T.length := by
      unfold okF okT
      rw [if_pos rfl, okL_eq, Bool.eq_iff_iff]
      simp [and_assoc]
    rw [e]
    clear e HL HT
    have tb0 : Tb (w.alloc (.cells #[.int .u8 1, .bool neg, .slice a L.length c, .string s, .int .i64 num, .slice ai ni ci, .slice at' T.length ct] 26)) w.heap.size #[.int .u8 1, .bool neg, .slice a L.length c, .string s, .int .i64 num, .slice ai ni ci, .slice at' T.length ct] := Tb.new _ _ _ rfl
    have tbz : Tb ((w.alloc (.cells #[.int .u8 1, .bool neg, .slice a L.length c, .string s, .int .i64 num, .slice ai ni ci, .slice at' T.length ct] 26)).alloc (.cells #[.int .u8 0, .bool false, .slice none 0 0, .string ⟨#[]⟩, .int .i64 0, .slice none 0 0, .slice none 0 0] 26)) (w.heap.size + 1) #[.int .u8 0, .bool false, .slice none 0 0, .string ⟨#[]⟩, .int .i64 0, .slice none 0 0, .slice none 0 0] := Tb.new _ _ _ (by simp)
    have tb1 := tb0.old (.cells #[.int .u8 0, .bool false, .slice none 0 0, .string ⟨#[]⟩, .int .i64 0, .slice none 0 0, .slice none 0 0] 26)
    have HU0 : Hid (Upd [] w ((w.alloc (.cells #[.int .u8 1, .bool neg, .slice a L.length c, .string s, .int .i64 num, .slice ai ni ci, .slice at' T.length ct] 26)).alloc (.cells #[.int .u8 0, .bool false, .slice none 0 0, .string ⟨#[]⟩, .int .i64 0, .slice none 0 0, .slice none 0 0] 26))) := ((Upd.refl [] w).alloc _).alloc _
    go_enter Tryz.func35, Tryz.ntmps35
    go_wp2_with (first
      | (refine load_T _ rfl _ rfl _ _ rfl tb0 rfl ?_)
      | (refine store_V _ rfl _ _ rfl _ _ _ _ _ _ _ _ _ _ _ _ _ _ _ rfl rfl tbz rfl ?_; intro w1 hT1 hU1; have tb2 := tb1.mono hU1 (by simp); have x0 : w1.cell? ⟨w.heap.size, 0, none⟩ = some (.int .u8 1) := tb2.cell 0; have HU1 : Hid (Upd [] w w1) := HU0.out.then hU1 (by simp))
      | (refine load_T _ rfl _ rfl _ _ rfl tb2 rfl ?_))
    refine (HR.out _ HU1.out).mono ?_
    rintro e w2 ⟨rfl, rfl⟩
    go_wp2
    go_ret
    exact ⟨rfl, HU1.out.alloc _⟩
  unfold okF
  rw [if_neg h1]
  by_cases h2 : k = 2
  · subst h2
    refine (rf2 num neg s a ai at' L.length c ni ci T.length ct w hn2 hni hnt).mono ?_
    rintro e w' ⟨rfl, hU⟩
    refine ⟨ret_bool ?_, hU⟩
    rw [bare_and, if_pos rfl, Bool.and_assoc]
    congr 1
    rw [Bool.eq_iff_iff]
    simp only [Bool.and_eq_true, decide_eq_true_eq]
    constructor
    · rintro ⟨⟨_, a1, a2, a3⟩, a4⟩; exact ⟨a4, a1, a2, a3⟩
    · rintro ⟨a4, a1, a2, a3⟩; exact ⟨⟨rfl, a1, a2, a3⟩, a4⟩
  rw [if_neg h2]
  by_cases h3 : k = 3 ∨ k = 5
  · rw [if_pos h3]
    have hc : ∀ e w', (e = Ending.returned (.bool (bareB neg L.length s 0 ni T.length && decide (0 ≤ num ∧ num ≤ 1099511627776))) ∧ Upd [] w w') → (e = .returned (.bool (decide (neg = false ∧ L.length = 0) && decide (s.size = 0 ∧ 0 ≤ num ∧ num ≤ 1099511627776 ∧ ni = 0 ∧ T.length = 0))) ∧ Upd [] w w') := by
      rintro e w' ⟨rfl, hU⟩
      refine ⟨ret_bool ?_, hU⟩
      rw [bare_and, Bool.and_assoc]
      congr 1
      rw [Bool.eq_iff_iff]
      simp only [Bool.and_eq_true, decide_eq_true_eq, true_and]
      constructor
      · rintro ⟨⟨a1, a2, a3⟩, a4, a5⟩; exact ⟨a1, a4, a5, a2, a3⟩
      · rintro ⟨a1, a4, a5, a2, a3⟩; exact ⟨⟨a1, a2, a3⟩, a4, a5⟩
    rcases h3 with rfl | rfl
    · exact (rf3 num neg s a ai at' L.length c ni ci T.length ct w hn2 hni hnt).mono hc
    · exact (rf5 num neg s a ai at' L.length c ni ci T.length ct w hn2 hni hnt).mono hc
  rw [if_neg h3]
  by_cases h4 : k = 4
  · subst h4
    refine (rf4 num neg s a ai at' L.length c ni ci T.length ct w hn2 hni hnt).mono ?_
    rintro e w' ⟨rfl, hU⟩
    refine ⟨ret_bool ?_, hU⟩
    rw [bare_and, if_pos rfl, Bool.and_assoc]
    congr 1
    rw [Bool.eq_iff_iff]
    simp only [Bool.and_eq_true, decide_eq_true_eq, true_and]
    constructor
    · rintro ⟨⟨a1, a3⟩, a4, a5⟩; exact ⟨a1, a4, a5, a3⟩
    · rintro ⟨a1, a4, a5, a3⟩; exact ⟨⟨a1, a3⟩, a4, a5⟩
  rw [if_neg h4]
  by_cases h6 : k = 6
  · subst h6
    refine (rf6 num neg s a ai at' L.length c ni ci T.length ct w hn2 hni hnt).mono ?_
    rintro e w' ⟨rfl, hU⟩
    refine ⟨ret_bool ?_, hU⟩
    rw [bare_and, if_pos rfl]
    congr 1
    rw [Bool.eq_iff_iff]
    simp
  rw [if_neg h6]
  by_cases h7 : k = 7
  · subst h7
    refine (rf7 num neg s a ai at' L.length c ni ci T.length ct w hn2 hni hnt T d HT rfl).mono ?_
    rintro e w' ⟨rfl, hU⟩
    refine ⟨ret_bool ?_, hU⟩
    rw [bare_and, if_pos rfl, Bool.and_assoc]
    congr 1
    unfold tailB
    congr 1
    rw [Bool.eq_iff_iff]
    simp
  rw [if_neg h7, Bool.and_false]
  have k1 : (k == 1) = false := by simp [h1]
  have k2 : (k == 2) = false := by simp [h2]
  have k3 : (k == 3) = false := by simp; omega
  have k5 : (k == 5) = false := by simp; omega
  have k4 : (k == 4) = false := by simp [h4]
  have k6 : (k == 6) = false := by simp [h6]
  have k7 : (k == 7) = false := by simp [h7]
  clear h1 h2 h3 h4 h6 h7 HL HT
  have tb0 : Tb (w.alloc (.cells #[.int .u8 k, .bool neg, .slice a L.length c, .string s, .int .i64 num, .slice ai ni ci, .slice at' T.length ct] 26)) w.heap.size #[.int .u8 k, .bool neg, .slice a L.length c, .string s, .int .i64 num, .slice ai ni ci, .slice at' T.length ct] := Tb.new _ _ _ rfl
  have tbz : Tb ((w.alloc (.cells #[.int .u8 k, .bool neg, .slice a L.length c, .string s, .int .i64 num, .slice ai ni ci, .slice at' T.length ct] 26)).alloc (.cells #[.int .u8 0, .bool false, .slice none 0 0, .string ⟨#[]⟩, .int .i64 0, .slice none 0 0, .slice none 0 0] 26)) (w.heap.size + 1) #[.int .u8 0, .bool false, .slice none 0 0, .string ⟨#[]⟩, .int .i64 0, .slice none 0 0, .slice none 0 0] := Tb.new _ _ _ (by simp)
  have tb1 := tb0.old (.cells #[.int .u8 0, .bool false, .slice none 0 0, .string ⟨#[]⟩, .int .i64 0, .slice none 0 0, .slice none 0 0] 26)
  have HU0 : Hid (Upd [] w ((w.alloc (.cells #[.int .u8 k, .bool neg, .slice a L.length c, .string s, .int .i64 num, .slice ai ni ci, .slice at' T.length ct] 26)).alloc (.cells #[.int .u8 0, .bool false, .slice none 0 0, .string ⟨#[]⟩, .int .i64 0, .slice none 0 0, .slice none 0 0] 26))) := ((Upd.refl [] w).alloc _).alloc _
  go_enter Tryz.func35, Tryz.ntmps35
  go_wp2_with (first
    | (refine load_T _ rfl _ rfl _ _ rfl tb0 rfl ?_)
    | (refine store_V _ rfl _ _ rfl _ _ _ _ _ _ _ _ _ _ _ _ _ _ _ rfl rfl tbz rfl ?_; intro w1 hT1 hU1; have tb2 := tb1.mono hU1 (by simp); have x0 : w1.cell? ⟨w.heap.size, 0, none⟩ = some (.int .u8 k) := tb2.cell 0; have HU1 : Hid (Upd [] w w1) := HU0.out.then hU1 (by simp)))
  go_ret
  exact ⟨rfl, HU1.out⟩

end Go.Proofs.YtnpocmhaoaigfaaGreatDoor
