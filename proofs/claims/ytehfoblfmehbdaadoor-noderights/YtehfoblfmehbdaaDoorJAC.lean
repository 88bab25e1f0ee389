/- rightText of package node, by its contract. -/
import Derived.Test.YtehfoblfmehbdaaDoorJAB

namespace Go.Proofs.YtehfoblfmehbdaaDoor
open Go.RowKit

/-- The document's text of a node of a kind. -/
def txB (k : Int) (s : ByteArray) (n : Nat) : Bool := if k = 1 then numS s else if k = 2 ∨ k = 11 ∨ k = 21 then decide (s.size ≤ 40) else if k = 3 then varS s else if k = 4 then decide (s.size ≤ 400) else if k = 7 then opB s n else decide (s.size = 0)

theorem empty_dec (s : ByteArray) : s.toList.isEmpty = decide (s.size = 0) := by
  by_cases h : s.size = 0
  · rw [empty_is h, ← decide_eq_emptyBytes]; simp
  · rw [empty_isn h, decide_eq_false h]
set_option maxHeartbeats 1000000 in
set_option maxRecDepth 100000 in
theorem tx_1 (a : Option Addr) (n c : Nat)  (s : ByteArray) (num pos : Int) (w : World) (hs : s.size ≤ 9223372036854775807) : Calls Tryd.prog 64 #[.agg #[.int .u8 1, .string s, .int .i64 num, .int .i64 pos, .slice a n c]] w fun e w' => e = .returned (.bool (numS s)) ∧ Upd [] w w' := by
  have HU0 : Hid (Upd [] w (w.alloc (.cells #[.int .u8 1, .string s, .int .i64 num, .int .i64 pos, .slice a n c] 25))) := (Upd.refl [] w).alloc _
  have HC : Hid (∀ W, Calls Tryd.prog 68 #[.string s] W fun e w' => e = .returned (.bool (numS s)) ∧ w' = W) := fun W => isNumber_any s W hs
  go_enter Tryd.func64, Tryd.ntmps64
  go_wp2_with fail
  refine (HC.out _).mono ?_
  rintro e w1 ⟨rfl, rfl⟩
  go_wp2
  go_ret
  exact ⟨rfl, HU0.out⟩
set_option maxHeartbeats 1000000 in
set_option maxRecDepth 100000 in
theorem tx_2 (a : Option Addr) (n c : Nat)  (s : ByteArray) (num pos : Int) (w : World) (hs : s.size ≤ 9223372036854775807) : Calls Tryd.prog 64 #[.agg #[.int .u8 2, .string s, .int .i64 num, .int .i64 pos, .slice a n c]] w fun e w' => e = .returned (.bool (decide (s.size ≤ 40))) ∧ Upd [] w w' := by
  have HU0 : Hid (Upd [] w (w.alloc (.cells #[.int .u8 2, .string s, .int .i64 num, .int .i64 pos, .slice a n c] 25))) := (Upd.refl [] w).alloc _
  obtain ⟨b, hb⟩ : ∃ b, decide (s.size ≤ 40) = b := ⟨_, rfl⟩
  have hb2 : decide ((s.size : Int) ≤ 40) = b := by rw [← hb]; simp; omega
  rw [hb]
  go_enter Tryd.func64, Tryd.ntmps64
  go_wp2
  go_ret
  exact ⟨rfl, HU0.out⟩
set_option maxHeartbeats 1000000 in
set_option maxRecDepth 100000 in
theorem tx_11 (a : Option Addr) (n c : Nat)  (s : ByteArray) (num pos : Int) (w : World) (hs : s.size ≤ 9223372036854775807) : Calls Tryd.prog 64 #[.agg #[.int .u8 11, .string s, .int .i64 num, .int .i64 pos, .slice a n c]] w fun e w' => e = .returned (.bool (decide (s.size ≤ 40))) ∧ Upd [] w w' := by
  have HU0 : Hid (Upd [] w (w.alloc (.cells #[.int .u8 11, .string s, .int .i64 num, .int .i64 pos, .slice a n c] 25))) := (Upd.refl [] w).alloc _
  obtain ⟨b, hb⟩ : ∃ b, decide (s.size ≤ 40) = b := ⟨_, rfl⟩
  have hb2 : decide ((s.size : Int) ≤ 40) = b := by rw [← hb]; simp; omega
  rw [hb]
  go_enter Tryd.func64, Tryd.ntmps64
  go_wp2
  go_ret
  exact ⟨rfl, HU0.out⟩
set_option maxHeartbeats 1000000 in
set_option maxRecDepth 100000 in
theorem tx_21 (a : Option Addr) (n c : Nat)  (s : ByteArray) (num pos : Int) (w : World) (hs : s.size ≤ 9223372036854775807) : Calls Tryd.prog 64 #[.agg #[.int .u8 21, .string s, .int .i64 num, .int .i64 pos, .slice a n c]] w fun e w' => e = .returned (.bool (decide (s.size ≤ 40))) ∧ Upd [] w w' := by
  have HU0 : Hid (Upd [] w (w.alloc (.cells #[.int .u8 21, .string s, .int .i64 num, .int .i64 pos, .slice a n c] 25))) := (Upd.refl [] w).alloc _
  obtain ⟨b, hb⟩ : ∃ b, decide (s.size ≤ 40) = b := ⟨_, rfl⟩
  have hb2 : decide ((s.size : Int) ≤ 40) = b := by rw [← hb]; simp; omega
  rw [hb]
  go_enter Tryd.func64, Tryd.ntmps64
  go_wp2
  go_ret
  exact ⟨rfl, HU0.out⟩
set_option maxHeartbeats 1000000 in
set_option maxRecDepth 100000 in
theorem tx_3 (a : Option Addr) (n c : Nat)  (s : ByteArray) (num pos : Int) (w : World) (hs : s.size ≤ 9223372036854775807) : Calls Tryd.prog 64 #[.agg #[.int .u8 3, .string s, .int .i64 num, .int .i64 pos, .slice a n c]] w fun e w' => e = .returned (.bool (varS s)) ∧ Upd [] w w' := by
  have HU0 : Hid (Upd [] w (w.alloc (.cells #[.int .u8 3, .string s, .int .i64 num, .int .i64 pos, .slice a n c] 25))) := (Upd.refl [] w).alloc _
  have HC : Hid (∀ W, Calls Tryd.prog 69 #[.string s] W fun e w' => e = .returned (.bool (varS s)) ∧ w' = W) := fun W => isVariable_any s W hs
  go_enter Tryd.func64, Tryd.ntmps64
  go_wp2_with fail
  refine (HC.out _).mono ?_
  rintro e w1 ⟨rfl, rfl⟩
  go_wp2
  go_ret
  exact ⟨rfl, HU0.out⟩
set_option maxHeartbeats 1000000 in
set_option maxRecDepth 100000 in
theorem tx_4 (a : Option Addr) (n c : Nat)  (s : ByteArray) (num pos : Int) (w : World) (hs : s.size ≤ 9223372036854775807) : Calls Tryd.prog 64 #[.agg #[.int .u8 4, .string s, .int .i64 num, .int .i64 pos, .slice a n c]] w fun e w' => e = .returned (.bool (decide (s.size ≤ 400))) ∧ Upd [] w w' := by
  have HU0 : Hid (Upd [] w (w.alloc (.cells #[.int .u8 4, .string s, .int .i64 num, .int .i64 pos, .slice a n c] 25))) := (Upd.refl [] w).alloc _
  obtain ⟨b, hb⟩ : ∃ b, decide (s.size ≤ 400) = b := ⟨_, rfl⟩
  have hb2 : decide ((s.size : Int) ≤ 400) = b := by rw [← hb]; simp; omega
  rw [hb]
  go_enter Tryd.func64, Tryd.ntmps64
  go_wp2
  go_ret
  exact ⟨rfl, HU0.out⟩
set_option maxHeartbeats 1000000 in
set_option maxRecDepth 100000 in
theorem tx_7 (a : Option Addr) (n c : Nat)  (s : ByteArray) (num pos : Int) (w : World) (_hs : s.size ≤ 9223372036854775807) (_hn : n ≤ 2199023255488) (hO : Ops w) : Calls Tryd.prog 64 #[.agg #[.int .u8 7, .string s, .int .i64 num, .int .i64 pos, .slice a n c]] w fun e w' => e = .returned (.bool (opB s n)) ∧ Upd [] w w' := by
  have HU0 : Hid (Upd [] w (w.alloc (.cells #[.int .u8 7, .string s, .int .i64 num, .int .i64 pos, .slice a n c] 25))) := (Upd.refl [] w).alloc _
  have HC : Hid (∀ W, Upd [] w W → Calls Tryd.prog 70 #[.string s, .int .i64 n] W fun e w' => e = .returned (.bool (opB s n)) ∧ Upd [] W w') := fun W hu => isOperator_any s n W (hO.mono hu)
  clear hO
  go_enter Tryd.func64, Tryd.ntmps64
  go_wp2_with fail
  refine (HC.out _ HU0.out).mono ?_
  rintro e w1 ⟨rfl, hu⟩
  have HU1 : Hid (Upd [] w w1) := HU0.out.trans hu
  clear hu
  go_wp2
  go_ret
  exact ⟨rfl, HU1.out⟩
set_option maxHeartbeats 1000000 in
set_option maxRecDepth 100000 in
theorem tx_0 (a : Option Addr) (n c : Nat) (k : Int) (s : ByteArray) (num pos : Int) (w : World) (h1 : k ≠ 1) (h2 : k ≠ 2) (h3 : k ≠ 3) (h4 : k ≠ 4) (h7 : k ≠ 7) (h11 : k ≠ 11) (h21 : k ≠ 21) : Calls Tryd.prog 64 #[.agg #[.int .u8 k, .string s, .int .i64 num, .int .i64 pos, .slice a n c]] w fun e w' => e = .returned (.bool (decide (s.size = 0))) ∧ Upd [] w w' := by
  have HU0 : Hid (Upd [] w (w.alloc (.cells #[.int .u8 k, .string s, .int .i64 num, .int .i64 pos, .slice a n c] 25))) := (Upd.refl [] w).alloc _
  have k1 : (k == 1) = false := beq_eq_false_iff_ne.2 h1
  have k2 : (k == 2) = false := beq_eq_false_iff_ne.2 h2
  have k3 : (k == 3) = false := beq_eq_false_iff_ne.2 h3
  have k4 : (k == 4) = false := beq_eq_false_iff_ne.2 h4
  have k7 : (k == 7) = false := beq_eq_false_iff_ne.2 h7
  have k11 : (k == 11) = false := beq_eq_false_iff_ne.2 h11
  have k21 : (k == 21) = false := beq_eq_false_iff_ne.2 h21
  obtain ⟨b, hb⟩ : ∃ b, s.toList.isEmpty = b := ⟨_, rfl⟩
  have HE : Hid (decide (s.size = 0) = b) := by rw [← hb]; exact (empty_dec s).symm
  go_enter Tryd.func64, Tryd.ntmps64
  go_wp2
  go_ret
  exact ⟨by rw [HE.out]; rfl, HU0.out⟩

theorem rightText_any (a : Option Addr) (n c : Nat) (k : Int) (s : ByteArray) (num pos : Int) (w : World) (hs : s.size ≤ 9223372036854775807) (hn : n ≤ 2199023255488) (hO : Ops w) :
    Calls Tryd.prog 64 #[.agg #[.int .u8 k, .string s, .int .i64 num, .int .i64 pos, .slice a n c]] w fun e w' => e = .returned (.bool (txB k s n)) ∧ Upd [] w w' := by
  unfold txB
  by_cases h1 : k = 1
  · subst h1; rw [if_pos rfl]; exact tx_1 a n c s num pos w hs
  rw [if_neg h1]
  by_cases h2 : k = 2
  · subst h2; rw [if_pos (by simp)]; exact tx_2 a n c s num pos w hs
  by_cases h11 : k = 11
  · subst h11; rw [if_pos (by simp)]; exact tx_11 a n c s num pos w hs
  by_cases h21 : k = 21
  · subst h21; rw [if_pos (by simp)]; exact tx_21 a n c s num pos w hs
  rw [if_neg (by simp [h2, h11, h21])]
  by_cases h3 : k = 3
  · subst h3; rw [if_pos rfl]; exact tx_3 a n c s num pos w hs
  rw [if_neg h3]
  by_cases h4 : k = 4
  · subst h4; rw [if_pos rfl]; exact tx_4 a n c s num pos w hs
  rw [if_neg h4]
  by_cases h7 : k = 7
  · subst h7; rw [if_pos rfl]; exact tx_7 a n c s num pos w hs hn hO
  rw [if_neg h7]
  exact tx_0 a n c k s num pos w h1 h2 h3 h4 h7 h11 h21

end Go.Proofs.YtehfoblfmehbdaaDoor

/- rightBranches of package node, by its contract. -/
namespace Go.Proofs.YtehfoblfmehbdaaDoor
open Go.RowKit

/-- A box of a kind. -/
def KindB (w : World) (g : Nat) (k : Int) : Prop := w.heap[g]? = some (.cells #[.int .u8 k] 22 (0, 0))
theorem KindB.lt {w : World} {g : Nat} {k : Int} (h : KindB w g k) : g < w.heap.size := lt_of_block h
theorem KindB.mono {w w' : World} {g : Nat} {k : Int} (h : KindB w g k) (hu : Upd [] w w') : KindB w' g k := (hu.block g h.lt (by simp)).trans h
theorem KindB.cell {w : World} {g : Nat} {k : Int} (h : KindB w g k) : w.cell? ⟨g, 0, none⟩ = some (.int .u8 k) := cell_of_row w g 0 _ _ _ h

/-- The closure that asks for a kind. -/
abbrev kf (g : Nat) : Value := .func (.func 77) #[] #[.pointer (some ⟨g, 0, none⟩)]

set_option maxHeartbeats 1000000 in
set_option maxRecDepth 100000 in
theorem of_any (k : Int) (w : World) : Calls Tryd.prog 76 #[.int .u8 k] w fun e w' => ∃ g, e = .returned (kf g) ∧ KindB w' g k ∧ Upd [] w w' := by
  have HU0 : Hid (Upd [] w (w.alloc (.cells #[.int .u8 k] 22))) := (Upd.refl [] w).alloc _
  have HK : Hid (KindB (w.alloc (.cells #[.int .u8 k] 22)) w.heap.size k) := heap_alloc_new w _
  go_enter Tryd.func76, Tryd.ntmps76
  go_wp2
  go_ret
  exact ⟨w.heap.size, rfl, HK.out, HU0.out⟩

set_option maxHeartbeats 1000000 in
set_option maxRecDepth 100000 in
theorem asks_kind (k0 k : Int) (g : Nat) (q1 q2 q3 q4 : Value) (w : World) (hg : KindB w g k0) : Calls Tryd.prog 77 #[.agg #[.int .u8 k, q1, q2, q3, q4], .pointer (some ⟨g, 0, none⟩)] w fun e w' => e = .returned (.bool (k == k0)) ∧ Upd [] w w' := by
  have HU0 : Hid (Upd [] w (w.alloc (.cells #[.int .u8 k, q1, q2, q3, q4] 25))) := (Upd.refl [] w).alloc _
  have hc := (hg.mono HU0.out).cell
  have hne : g ≠ w.heap.size := Nat.ne_of_lt hg.lt
  clear hg
  go_enter Tryd.func77, Tryd.ntmps77
  go_wp2
  go_ret
  exact ⟨rfl, HU0.out⟩

/-- Of all kids the kind. -/
def kdAll (k0 : Int) (K : List Nd) : Bool := K.all fun n => n.kd == k0
structure KdI (w : World) (k0 : Int) (g : Nat) (K : List Nd) (j : Nat) (W : World) : Prop where
  upd : Upd [] w W
  got : kdAll k0 (K.take j) = true
structure KdF (w : World) (k0 : Int) (K : List Nd) (W : World) : Prop where
  upd : Upd [] w W
  not : kdAll k0 K = false

theorem all_kind (a : Option Addr) (c d : Nat) (K : List Nd) (k0 : Int) (g : Nat) (w : World) (hs : K.length ≤ 2199023255488) (hK : RowN (NIn w d) w a K) (hg : KindB w g k0) :
    Calls Tryd.prog 42 #[.slice a K.length c, kf g] w fun e w' => e = .returned (.bool (kdAll k0 K)) ∧ Upd [] w w' := by
  refine (all_gen a c d K 77 #[.pointer (some ⟨g, 0, none⟩)] (KdI w k0 g K) (KdF w k0 K) w hs Tryd.call77 ⟨Upd.refl _ _, rfl⟩ (fun k W h => hK.imp h.upd (NIn.mono h.upd d)) (fun k W V h hu => ⟨h.upd.trans hu, h.got⟩) (fun k hk cs W h hin => ?_)).mono ?_
  · obtain ⟨q0, q1, q2, q3, q4, rfl⟩ := list5 hin.len
    have hq : q0 = .int .u8 K[k].kd := by have := hin.kd; simpa using this
    subst hq
    refine (asks_kind k0 K[k].kd g q1 q2 q3 q4 W (hg.mono h.upd)).mono ?_
    rintro e w' ⟨rfl, hu⟩
    refine ⟨_, rfl, fun hy => ⟨h.upd.trans hu, ?_⟩, fun hn => ⟨h.upd.trans hu, ?_⟩⟩
    · have := h.got
      unfold kdAll at *
      rw [List.take_succ_eq_append_getElem hk, List.all_append, this, List.all_cons, hy]; rfl
    · unfold kdAll
      exact List.all_eq_false.2 ⟨K[k], List.getElem_mem hk, by simpa using hn⟩
  · rintro e w' ⟨b, rfl, hy, hn⟩
    cases b with
    | true => have := (hy rfl).got; rw [List.take_length] at this; exact ⟨by rw [this], (hy rfl).upd⟩
    | false => exact ⟨by rw [(hn rfl).not], (hn rfl).upd⟩

theorem RowN.take {R : List Value → Nd → Prop} {w : World} {a : Option Addr} {K : List Nd} (h : RowN R w a K) (m : Nat) : RowN R w a (K.take m) := by
  rcases h with rfl | ⟨b, o, e, hlt, hc⟩
  · exact Or.inl (by simp)
  · refine Or.inr ⟨b, o, e, hlt, fun i hi => ?_⟩
    rw [List.length_take] at hi
    obtain ⟨cs, k1, k2, k3⟩ := hc i (by omega)
    exact ⟨cs, k1, k2, by rw [List.getElem_take]; exact k3⟩
theorem RowN.drop {R : List Value → Nd → Prop} {w : World} {b o : Nat} {K : List Nd} (h : RowN R w (some ⟨b, o, none⟩) K) (m : Nat) : RowN R w (some ⟨b, o + m * 5, none⟩) (K.drop m) := by
  rcases h with rfl | ⟨b, o, e, hlt, hc⟩
  · exact Or.inl (by simp)
  · cases e
    refine Or.inr ⟨b, o + m * 5, rfl, hlt, fun i hi => ?_⟩
    rw [List.length_drop] at hi
    obtain ⟨cs, k1, k2, k3⟩ := hc (m + i) (by omega)
    refine ⟨cs, k1, fun j hj => ?_, by rw [List.getElem_drop]; exact k3⟩
    rw [← k2 j hj]
    congr 2
    omega

end Go.Proofs.YtehfoblfmehbdaaDoor
