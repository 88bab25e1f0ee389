/- rightBranches and rightNum of package node, by their contracts. -/
import Derived.Test.YtehfoblfmehbdaaDoorNdW

namespace Go.Proofs.YtehfoblfmehbdaaDoor
open Go.RowKit

theorem rb_any (b o c d m : Nat) (K : List Nd) (w : World) (hs : K.length ≤ 2199023255488) (hK : RowN (NIn w d) w (some ⟨b, o, none⟩) K) (hm : m ≤ K.length) (hc1 : K.length ≤ c) (hc2 : c ≤ 9223372036854775807) :
    Calls Tryd.prog 71 #[.slice (some ⟨b, o, none⟩) K.length c, .int .i64 m] w fun e w' => e = .returned (.bool (kdAll 20 (K.take m) && kdAll 15 (K.drop m))) ∧ Upd [] w w' := by
  have hA1 : ∀ W g, Upd [] w W → KindB W g 20 → Calls Tryd.prog 42 #[.slice (some ⟨b, o, none⟩) m c, kf g] W fun e w' => e = .returned (.bool (kdAll 20 (K.take m))) ∧ Upd [] W w' := fun W g hu hg => by
    have hl : (K.take m).length = m := by simp; omega
    have := all_kind (some ⟨b, o, none⟩) c d (K.take m) 20 g W (by omega) ((hK.imp hu (NIn.mono hu d)).take m) hg
    rw [hl] at this
    exact this
  cases hb : kdAll 20 (K.take m) with
  | false =>
    rw [hb] at hA1
    exact rb_no b o K.length m c w hm hc1 hc2 hA1
  | true =>
    rw [hb] at hA1
    by_cases he : m = K.length
    · subst he
      have hd : K.drop K.length = [] := by simp
      rw [hd]
      have hA2 : ∀ W g a' c', Upd [] w W → KindB W g 15 → Calls Tryd.prog 42 #[.slice a' 0 c', kf g] W fun e w' => e = .returned (.bool (kdAll 15 [])) ∧ Upd [] W w' := fun W g a' c' _ hg =>
        all_kind a' c' d [] 15 g W (by simp) (Or.inl rfl) hg
      by_cases hc : K.length = c
      · subst hc; exact rb_eqc b o K.length _ w hs hA1 hA2
      · exact rb_eq b o K.length c _ w hs (by omega) hc2 hA1 hA2
    · refine rb_lt b o K.length m c _ w hs (by omega) hc1 hc2 hA1 (fun W g c' hu hg => ?_)
      have := all_kind (some ⟨b, o + m * 5, none⟩) c' d (K.drop m) 15 g W (by simp; omega) ((hK.imp hu (NIn.mono hu d)).drop m) hg
      rw [List.length_drop] at this
      exact this

end Go.Proofs.YtehfoblfmehbdaaDoor

/- rightNum of package node, by its contract. -/
namespace Go.Proofs.YtehfoblfmehbdaaDoor
open Go.RowKit

set_option maxHeartbeats 1000000 in
set_option maxRecDepth 100000 in
theorem nm_0 (a : Option Addr) (n : Nat) (k : Int) (c : Nat) (s : ByteArray) (num pos : Int) (w : World) (h6 : k ≠ 6) (h11 : k ≠ 11) (h14 : k ≠ 14) (h21 : k ≠ 21) : Calls Tryd.prog 65 #[.agg #[.int .u8 k, .string s, .int .i64 num, .int .i64 pos, .slice a n c]] w fun e w' => e = .returned (.bool (num == 0)) ∧ Upd [] w w' := by
  have HU0 : Hid (Upd [] w (w.alloc (.cells #[.int .u8 k, .string s, .int .i64 num, .int .i64 pos, .slice a n c] 25))) := (Upd.refl [] w).alloc _
  have k6 : (k == 6) = false := beq_eq_false_iff_ne.2 h6
  have k11 : (k == 11) = false := beq_eq_false_iff_ne.2 h11
  have k14 : (k == 14) = false := beq_eq_false_iff_ne.2 h14
  have k21 : (k == 21) = false := beq_eq_false_iff_ne.2 h21
  go_enter Tryd.func65, Tryd.ntmps65
  go_wp2
  go_ret
  exact ⟨rfl, HU0.out⟩
set_option maxHeartbeats 1000000 in
set_option maxRecDepth 100000 in
theorem nm_6a (a : Option Addr) (n : Nat) (c : Nat) (s : ByteArray) (num pos : Int) (w : World) (h : num = 0) : Calls Tryd.prog 65 #[.agg #[.int .u8 6, .string s, .int .i64 num, .int .i64 pos, .slice a n c]] w fun e w' => e = .returned (.bool true) ∧ Upd [] w w' := by
  have HU0 : Hid (Upd [] w (w.alloc (.cells #[.int .u8 6, .string s, .int .i64 num, .int .i64 pos, .slice a n c] 25))) := (Upd.refl [] w).alloc _
  subst h
  go_enter Tryd.func65, Tryd.ntmps65
  go_wp2
  go_ret
  exact ⟨rfl, HU0.out⟩
set_option maxHeartbeats 1000000 in
set_option maxRecDepth 100000 in
theorem nm_6b (a : Option Addr) (n : Nat) (c : Nat) (s : ByteArray) (num pos : Int) (w : World) (h : num = 1) (hn : n ≤ 2199023255488) : Calls Tryd.prog 65 #[.agg #[.int .u8 6, .string s, .int .i64 num, .int .i64 pos, .slice a n c]] w fun e w' => e = .returned (.bool (decide (2 ≤ n))) ∧ Upd [] w w' := by
  have HU0 : Hid (Upd [] w (w.alloc (.cells #[.int .u8 6, .string s, .int .i64 num, .int .i64 pos, .slice a n c] 25))) := (Upd.refl [] w).alloc _
  subst h
  obtain ⟨z, hz⟩ : ∃ z, decide (2 ≤ n) = z := ⟨_, rfl⟩
  have hz2 : decide ((2 : Int) ≤ (n : Int)) = z := by rw [← hz]; simp; omega
  rw [hz]
  go_enter Tryd.func65, Tryd.ntmps65
  go_wp2
  go_ret
  exact ⟨rfl, HU0.out⟩
set_option maxHeartbeats 1000000 in
set_option maxRecDepth 100000 in
theorem nm_6c (a : Option Addr) (n : Nat) (c : Nat) (s : ByteArray) (num pos : Int) (w : World) (h : num ≠ 0) (h1 : num ≠ 1) : Calls Tryd.prog 65 #[.agg #[.int .u8 6, .string s, .int .i64 num, .int .i64 pos, .slice a n c]] w fun e w' => e = .returned (.bool false) ∧ Upd [] w w' := by
  have HU0 : Hid (Upd [] w (w.alloc (.cells #[.int .u8 6, .string s, .int .i64 num, .int .i64 pos, .slice a n c] 25))) := (Upd.refl [] w).alloc _
  have e0 : (num == 0) = false := beq_eq_false_iff_ne.2 h
  have e1 : (num == 1) = false := beq_eq_false_iff_ne.2 h1
  go_enter Tryd.func65, Tryd.ntmps65
  go_wp2
  go_ret
  exact ⟨rfl, HU0.out⟩
set_option maxHeartbeats 1000000 in
set_option maxRecDepth 100000 in
theorem nm_11a (a : Option Addr) (n : Nat) (c : Nat) (s : ByteArray) (num pos : Int) (w : World) (h : 0 ≤ num) : Calls Tryd.prog 65 #[.agg #[.int .u8 11, .string s, .int .i64 num, .int .i64 pos, .slice a n c]] w fun e w' => e = .returned (.bool (decide (num ≤ 255))) ∧ Upd [] w w' := by
  have HU0 : Hid (Upd [] w (w.alloc (.cells #[.int .u8 11, .string s, .int .i64 num, .int .i64 pos, .slice a n c] 25))) := (Upd.refl [] w).alloc _
  obtain ⟨z, hz⟩ : ∃ z, decide (num ≤ 255) = z := ⟨_, rfl⟩
  rw [hz]
  go_enter Tryd.func65, Tryd.ntmps65
  go_wp2
  go_ret
  exact ⟨rfl, HU0.out⟩
set_option maxHeartbeats 1000000 in
set_option maxRecDepth 100000 in
theorem nm_11b (a : Option Addr) (n : Nat) (c : Nat) (s : ByteArray) (num pos : Int) (w : World) (h : ¬ 0 ≤ num) : Calls Tryd.prog 65 #[.agg #[.int .u8 11, .string s, .int .i64 num, .int .i64 pos, .slice a n c]] w fun e w' => e = .returned (.bool false) ∧ Upd [] w w' := by
  have HU0 : Hid (Upd [] w (w.alloc (.cells #[.int .u8 11, .string s, .int .i64 num, .int .i64 pos, .slice a n c] 25))) := (Upd.refl [] w).alloc _
  have e0 : decide (0 ≤ num) = false := decide_eq_false h
  go_enter Tryd.func65, Tryd.ntmps65
  go_wp2
  go_ret
  exact ⟨rfl, HU0.out⟩
set_option maxHeartbeats 1000000 in
set_option maxRecDepth 100000 in
theorem nm_14c (a : Option Addr) (n : Nat) (c : Nat) (s : ByteArray) (num pos : Int) (w : World) (h : num ≠ 0) (h1 : num ≠ 1) : Calls Tryd.prog 65 #[.agg #[.int .u8 14, .string s, .int .i64 num, .int .i64 pos, .slice a n c]] w fun e w' => e = .returned (.bool false) ∧ Upd [] w w' := by
  have HU0 : Hid (Upd [] w (w.alloc (.cells #[.int .u8 14, .string s, .int .i64 num, .int .i64 pos, .slice a n c] 25))) := (Upd.refl [] w).alloc _
  have e0 : (num == 0) = false := beq_eq_false_iff_ne.2 h
  have e1 : (num == 1) = false := beq_eq_false_iff_ne.2 h1
  go_enter Tryd.func65, Tryd.ntmps65
  go_wp2
  go_ret
  exact ⟨rfl, HU0.out⟩
set_option maxHeartbeats 1000000 in
set_option maxRecDepth 100000 in
theorem nm_14a (b o n m : Nat) (c : Nat) (s : ByteArray) (num pos : Int) (w : World) (h : num = 0) (hm : (m : Int) = (n : Int)) (hn : n ≤ 2199023255488) (z : Bool) (hC : ∀ W, Upd [] w W → Calls Tryd.prog 71 #[.slice (some ⟨b, o, none⟩) n c, .int .i64 m] W fun e w' => e = .returned (.bool z) ∧ Upd [] W w') : Calls Tryd.prog 65 #[.agg #[.int .u8 14, .string s, .int .i64 num, .int .i64 pos, .slice (some ⟨b, o, none⟩) n c]] w fun e w' => e = .returned (.bool z) ∧ Upd [] w w' := by
  have HU0 : Hid (Upd [] w (w.alloc (.cells #[.int .u8 14, .string s, .int .i64 num, .int .i64 pos, .slice (some ⟨b, o, none⟩) n c] 25))) := (Upd.refl [] w).alloc _
  subst h
  have HC : Hid (∀ W, Upd [] w W → Calls Tryd.prog 71 #[.slice (some ⟨b, o, none⟩) n c, .int .i64 (n : Int)] W fun e w' => e = .returned (.bool z) ∧ Upd [] W w') := by rw [← hm]; exact hC
  have hw : wrap64 (n : Int) = (n : Int) := by unfold wrap64; omega
  clear hC hm
  go_enter Tryd.func65, Tryd.ntmps65
  go_wp2_with fail
  refine (HC.out _ HU0.out).mono ?_
  rintro e w1 ⟨rfl, hu⟩
  have HU1 : Hid (Upd [] w w1) := HU0.out.trans hu
  clear hu
  go_wp2
  go_ret
  exact ⟨rfl, HU1.out⟩
set_option maxHeartbeats 1000000 in
set_option maxRecDepth 100000 in
theorem nm_14b (b o n m : Nat) (c : Nat) (s : ByteArray) (num pos : Int) (w : World) (h : num = 1) (hm : (m : Int) = ((n : Int) - 1)) (hn : n ≤ 2199023255488) (z : Bool) (hC : ∀ W, Upd [] w W → Calls Tryd.prog 71 #[.slice (some ⟨b, o, none⟩) n c, .int .i64 m] W fun e w' => e = .returned (.bool z) ∧ Upd [] W w') : Calls Tryd.prog 65 #[.agg #[.int .u8 14, .string s, .int .i64 num, .int .i64 pos, .slice (some ⟨b, o, none⟩) n c]] w fun e w' => e = .returned (.bool z) ∧ Upd [] w w' := by
  have HU0 : Hid (Upd [] w (w.alloc (.cells #[.int .u8 14, .string s, .int .i64 num, .int .i64 pos, .slice (some ⟨b, o, none⟩) n c] 25))) := (Upd.refl [] w).alloc _
  subst h
  have HC : Hid (∀ W, Upd [] w W → Calls Tryd.prog 71 #[.slice (some ⟨b, o, none⟩) n c, .int .i64 ((n : Int) - 1)] W fun e w' => e = .returned (.bool z) ∧ Upd [] W w') := by rw [← hm]; exact hC
  have hw : wrap64 ((n : Int) - 1) = ((n : Int) - 1) := by unfold wrap64; omega
  clear hC hm
  go_enter Tryd.func65, Tryd.ntmps65
  go_wp2_with fail
  refine (HC.out _ HU0.out).mono ?_
  rintro e w1 ⟨rfl, hu⟩
  have HU1 : Hid (Upd [] w w1) := HU0.out.trans hu
  clear hu
  go_wp2
  go_ret
  exact ⟨rfl, HU1.out⟩
set_option maxHeartbeats 1000000 in
set_option maxRecDepth 100000 in
theorem nm_21 (b o n b1 o1 n1 c1 n2 c2 : Nat) (a2 : Option Addr) (q0 q1 q2 q3 : Value) (c : Nat) (s : ByteArray) (num pos : Int) (w : World) (hn : n ≤ 2199023255488) (h0n : 0 < n) (hn1 : n1 ≤ 2199023255488) (h0n1 : 0 < n1) (_hn2 : n2 ≤ 2199023255488) (hb : b < w.heap.size) (hb1 : b1 < w.heap.size) (hone : (#[q0, q1, q2, q3, .slice (some ⟨b1, o1, none⟩) n1 c1] : Array Value).all (·.oneCell') = true) (h0 : w.cell? ⟨b, o, none⟩ = some (q0)) (h1 : w.cell? ⟨b, o + 1, none⟩ = some (q1)) (h2 : w.cell? ⟨b, o + 2, none⟩ = some (q2)) (h3 : w.cell? ⟨b, o + 3, none⟩ = some (q3)) (h4 : w.cell? ⟨b, o + 4, none⟩ = some (.slice (some ⟨b1, o1, none⟩) n1 c1)) (h5 : w.cell? ⟨b1, o1 + 4, none⟩ = some (.slice a2 n2 c2)) : Calls Tryd.prog 65 #[.agg #[.int .u8 21, .string s, .int .i64 num, .int .i64 pos, .slice (some ⟨b, o, none⟩) n c]] w fun e w' => e = .returned (.bool (num == n2)) ∧ Upd [] w w' := by
  have HU0 : Hid (Upd [] w (w.alloc (.cells #[.int .u8 21, .string s, .int .i64 num, .int .i64 pos, .slice (some ⟨b, o, none⟩) n c] 25))) := (Upd.refl [] w).alloc _
  have hx0 : (w.alloc (.cells #[.int .u8 21, .string s, .int .i64 num, .int .i64 pos, .slice (some ⟨b, o, none⟩) n c] 25)).cell? ⟨b, o, none⟩ = some (q0) := (HU0.out.cell (p := ⟨b, o, none⟩) hb (by simp)).trans h0
  have hx1 : (w.alloc (.cells #[.int .u8 21, .string s, .int .i64 num, .int .i64 pos, .slice (some ⟨b, o, none⟩) n c] 25)).cell? ⟨b, o + 1, none⟩ = some (q1) := (HU0.out.cell (p := ⟨b, o + 1, none⟩) hb (by simp)).trans h1
  have hx2 : (w.alloc (.cells #[.int .u8 21, .string s, .int .i64 num, .int .i64 pos, .slice (some ⟨b, o, none⟩) n c] 25)).cell? ⟨b, o + 2, none⟩ = some (q2) := (HU0.out.cell (p := ⟨b, o + 2, none⟩) hb (by simp)).trans h2
  have hx3 : (w.alloc (.cells #[.int .u8 21, .string s, .int .i64 num, .int .i64 pos, .slice (some ⟨b, o, none⟩) n c] 25)).cell? ⟨b, o + 3, none⟩ = some (q3) := (HU0.out.cell (p := ⟨b, o + 3, none⟩) hb (by simp)).trans h3
  have hx4 : (w.alloc (.cells #[.int .u8 21, .string s, .int .i64 num, .int .i64 pos, .slice (some ⟨b, o, none⟩) n c] 25)).cell? ⟨b, o + 4, none⟩ = some (.slice (some ⟨b1, o1, none⟩) n1 c1) := (HU0.out.cell (p := ⟨b, o + 4, none⟩) hb (by simp)).trans h4
  have hy : (w.alloc (.cells #[.int .u8 21, .string s, .int .i64 num, .int .i64 pos, .slice (some ⟨b, o, none⟩) n c] 25)).cell? ⟨b1, o1 + 4, none⟩ = some (.slice a2 n2 c2) := (HU0.out.cell (p := ⟨b1, o1 + 4, none⟩) hb1 (by simp)).trans h5
  have i0 : (0 : Int) < (n : Int) := by omega
  have i1 : (0 : Int) < (n1 : Int) := by omega
  have tz : Tb ((w.alloc (.cells #[.int .u8 21, .string s, .int .i64 num, .int .i64 pos, .slice (some ⟨b, o, none⟩) n c] 25)).alloc (.cells #[.int .u8 0, .string ⟨#[]⟩, .int .i64 0, .int .i64 0, .slice none 0 0] 25)) (w.heap.size + 1) #[.int .u8 0, .string ⟨#[]⟩, .int .i64 0, .int .i64 0, .slice none 0 0] := Tb.new _ _ _ (by simp)
  have HUZ : Hid (Upd [] w ((w.alloc (.cells #[.int .u8 21, .string s, .int .i64 num, .int .i64 pos, .slice (some ⟨b, o, none⟩) n c] 25)).alloc (.cells #[.int .u8 0, .string ⟨#[]⟩, .int .i64 0, .int .i64 0, .slice none 0 0] 25))) := HU0.out.alloc _
  have HNE : Hid (∀ x ∈ [w.heap.size + 1], w.heap.size ≤ x ∨ x ∈ ([] : List Nat)) := by show ∀ x ∈ [w.heap.size + 1], _; simp
  have TA : Hid (Tb ((w.alloc (.cells #[.int .u8 21, .string s, .int .i64 num, .int .i64 pos, .slice (some ⟨b, o, none⟩) n c] 25)).alloc (.cells #[.int .u8 0, .string ⟨#[]⟩, .int .i64 0, .int .i64 0, .slice none 0 0] 25)) w.heap.size #[.int .u8 21, .string s, .int .i64 num, .int .i64 pos, .slice (some ⟨b, o, none⟩) n c]) := (Tb.new _ _ _ rfl).old _
  have H2 : Hid (w.cell? ⟨b1, o1 + 4, none⟩ = some (.slice a2 n2 c2)) := h5
  clear h0 h1 h2 h3 h4 h5 hy
  go_enter Tryd.func65, Tryd.ntmps65
  go_wp2_with (first
    | (refine store_T _ rfl _ _ rfl _ #[q0, q1, q2, q3, .slice (some ⟨b1, o1, none⟩) n1 c1] _ rfl rfl tz rfl rfl hone ?_; intro w1 t1 u1; have U1 : Hid (Upd [] w w1) := (HUZ.out.then u1 HNE.out); have y4 : w1.cell? ⟨w.heap.size + 1, 4, none⟩ = some (.slice (some ⟨b1, o1, none⟩) n1 c1) := t1.cell 4; have y5 : w1.cell? ⟨b1, o1 + 4, none⟩ = some (.slice a2 n2 c2) := (U1.out.cell (p := ⟨b1, o1 + 4, none⟩) hb1 (by simp)).trans H2.out; have y6 : w1.cell? ⟨w.heap.size, 2, none⟩ = some (.int .i64 num) := (TA.out.mono u1 (by simp)).cell 2; clear u1 tz hx0 hx1 hx2 hx3 hx4)
    | fail)
  go_region_held3 (fun w' => w'.cell? ⟨w.heap.size + 1, 4, none⟩ = some (.slice (some ⟨b1, o1, none⟩) n1 c1) ∧ w'.cell? ⟨b1, o1 + 4, none⟩ = some (.slice a2 n2 c2) ∧ w'.cell? ⟨w.heap.size, 2, none⟩ = some (.int .i64 num))
    (go_keep)
    (fail)
  go_wp2
  go_ret
  exact ⟨rfl, U1.out.drew⟩

end Go.Proofs.YtehfoblfmehbdaaDoor
