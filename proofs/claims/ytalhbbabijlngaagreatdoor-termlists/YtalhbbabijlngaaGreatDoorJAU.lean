/- The statements' makers of terms, by their contracts. -/
import Derived.Test.YtalhbbabijlngaaGreatDoorJAL
import Derived.Test.YtalhbbabijlngaaGreatDoorJAT
import Derived.Test.YtalhbbabijlngaaGreatDoorJAS
import Derived.Test.YtalhbbabijlngaaGreatDoorJAO
namespace Go.Proofs.YtalhbbabijlngaaGreatDoor
open Go.RowKit
def tmI (n : Nat) : Tm := .mk 1 0 false [n] ⟨#[]⟩ [] []
def tmA (s : ByteArray) : Tm := .mk 2 0 false [] s [] []
def tmL (I : List Tm) : Tm := .mk 7 0 false [] ⟨#[]⟩ I []
def tmU (I : List Tm) : Tm := .mk 6 0 false [] ⟨#[]⟩ I []
def tmP (I : List Tm) (u : Tm) : Tm := .mk 7 0 false [] ⟨#[]⟩ I [u]
def Lb (w : World) (g n : Nat) : Prop := w.heap[g]? = some (.cells #[.int .u32 (n : Nat)] 47 (0, 0))
theorem Lb.mono {w w' : World} {g n : Nat} (h : Lb w g n) (hu : Upd [] w w') : Lb w' g n := (hu.block g (lt_of_block h) (by simp)).trans h
theorem in_whole {w : World} {g n : Nat} (h : Lb w g n) (hn : n < 4294967296) : In w 1 [.int .u8 1, .bool false, .slice (some ⟨g, 0, none⟩) 1 1, .string ⟨#[]⟩, .int .i64 0, .slice none 0 0, .slice none 0 0] (tmI n) := by
 refine ⟨some ⟨g, 0, none⟩, none, none, 1, 0, 0, rfl, Or.inr ⟨g, 0, rfl, lt_of_block h, fun i hi => ?_⟩, ?_, Or.inl rfl, Or.inl rfl⟩
 ·have : i = 0 := by simpa using hi
  subst this
  exact cell_of_row w g 0 _ _ _ h
 ·unfold Dig; simp; omega
theorem in_atom (w : World) (s : ByteArray) : In w 1 [.int .u8 2, .bool false, .slice none 0 0, .string s, .int .i64 0, .slice none 0 0, .slice none 0 0] (tmA s) :=
 ⟨none, none, none, 0, 0, 0, rfl, Or.inl rfl, Dig.nil, Or.inl rfl, Or.inl rfl⟩
theorem row_one {w : World} {g d : Nat} {q0 q1 q2 q3 q4 q5 q6 : Value} {t : Tm} (h : Tb w g #[q0, q1, q2, q3, q4, q5, q6]) (ht : In w d [q0, q1, q2, q3, q4, q5, q6] t) : RowAt (In w d) w (some ⟨g, 0, none⟩) [t] := by
 refine Or.inr ⟨g, 0, rfl, lt_of_block h, fun i hi => ?_⟩
 have : i = 0 := by simpa using hi
 subst this
 refine ⟨_, rfl, fun j hj => ?_, ht⟩
 rw [show (⟨g, 0 + (0 * 7 + j), none⟩ : Addr) = ⟨g, j, none⟩ by simp, Lib.cell_of_heap h j]
 match j, hj with
 | 0, _ => rfl
 | 1, _ => rfl
 | 2, _ => rfl
 | 3, _ => rfl
 | 4, _ => rfl
 | 5, _ => rfl
 | 6, _ => rfl
theorem row_two {w : World} {g d : Nat} {q0 q1 q2 q3 q4 q5 q6 p0 p1 p2 p3 p4 p5 p6 : Value} {t u : Tm} (h : Tb w g #[q0, q1, q2, q3, q4, q5, q6, p0, p1, p2, p3, p4, p5, p6]) (ht : In w d [q0, q1, q2, q3, q4, q5, q6] t) (hu : In w d [p0, p1, p2, p3, p4, p5, p6] u) : RowAt (In w d) w (some ⟨g, 0, none⟩) [t, u] := by
 refine Or.inr ⟨g, 0, rfl, lt_of_block h, fun i hi => ?_⟩
 have : i = 0 ∨ i = 1 := by simp at hi; omega
 rcases this with rfl | rfl
 ·refine ⟨_, rfl, fun j hj => ?_, ht⟩
  rw [show (⟨g, 0 + (0 * 7 + j), none⟩ : Addr) = ⟨g, j, none⟩ by simp, Lib.cell_of_heap h j]
  match j, hj with
  | 0, _ => rfl
  | 1, _ => rfl
  | 2, _ => rfl
  | 3, _ => rfl
  | 4, _ => rfl
  | 5, _ => rfl
  | 6, _ => rfl
 ·refine ⟨_, rfl, fun j hj => ?_, hu⟩
  rw [show (⟨g, 0 + (1 * 7 + j), none⟩ : Addr) = ⟨g, 7 + j, none⟩ by simp, Lib.cell_of_heap h (7 + j)]
  match j, hj with
  | 0, _ => rfl
  | 1, _ => rfl
  | 2, _ => rfl
  | 3, _ => rfl
  | 4, _ => rfl
  | 5, _ => rfl
  | 6, _ => rfl
theorem in_list {w : World} {d : Nat} {a : Option Addr} {I : List Tm} (h : RowAt (In w d) w a I) (n : Nat) (hn : n = I.length) (c : Nat) : In w (d + 1) [.int .u8 7, .bool false, .slice none 0 0, .string ⟨#[]⟩, .int .i64 0, .slice a n c, .slice none 0 0] (tmL I) := by
 subst hn
 exact ⟨none, a, none, 0, c, 0, rfl, Or.inl rfl, Dig.nil, h, Or.inl rfl⟩
theorem in_tuple {w : World} {d : Nat} {a : Option Addr} {I : List Tm} (h : RowAt (In w d) w a I) (n : Nat) (hn : n = I.length) (c : Nat) : In w (d + 1) [.int .u8 6, .bool false, .slice none 0 0, .string ⟨#[]⟩, .int .i64 0, .slice a n c, .slice none 0 0] (tmU I) := by
 subst hn
 exact ⟨none, a, none, 0, c, 0, rfl, Or.inl rfl, Dig.nil, h, Or.inl rfl⟩
theorem in_improper {w : World} {d : Nat} {a a' : Option Addr} {I : List Tm} {u : Tm} (h : RowAt (In w d) w a I) (n : Nat) (hn : n = I.length) (c : Nat) (h' : RowAt (In w d) w a' [u]) (c' : Nat) : In w (d + 1) [.int .u8 7, .bool false, .slice none 0 0, .string ⟨#[]⟩, .int .i64 0, .slice a n c, .slice a' 1 c'] (tmP I u) := by
 subst hn
 exact ⟨none, a, a', 0, c, c', rfl, Or.inl rfl, Dig.nil, h, h'⟩
set_option maxHeartbeats 1000000 in
set_option maxRecDepth 100000 in
theorem atom_any (s : ByteArray) (w : World) : Calls Tryz.prog 32 #[.string s] w fun e w' => e = .returned (.agg #[.int .u8 2, .bool false, .slice none 0 0, .string s, .int .i64 0, .slice none 0 0, .slice none 0 0]) ∧ Upd [] w w' := by
 have tbz : Tb (w.alloc (.cells #[.int .u8 0, .bool false, .slice none 0 0, .string ⟨#[]⟩, .int .i64 0, .slice none 0 0, .slice none 0 0] 26)) w.heap.size #[.int .u8 0, .bool false, .slice none 0 0, .string ⟨#[]⟩, .int .i64 0, .slice none 0 0, .slice none 0 0] := Tb.new _ _ _ rfl
 go_enter Tryz.func32, Tryz.ntmps32
 go_wp2_with (refine store_V _ rfl _ _ rfl _ _ _ _ _ _ _ _ _ _ _ _ _ _ _ rfl rfl tbz rfl ?_; intro w2 hT2 hU2)
 exact ret_T Tryz.results32 rfl _ _ rfl hT2 rfl ⟨rfl, ((Upd.refl [] w).alloc _).then hU2 (by simp)⟩
set_option maxHeartbeats 1000000 in
set_option maxRecDepth 100000 in
theorem list_any (a : Option Addr) (n c : Nat) (w : World) : Calls Tryz.prog 35 #[.slice a n c] w fun e w' => e = .returned (.agg #[.int .u8 7, .bool false, .slice none 0 0, .string ⟨#[]⟩, .int .i64 0, .slice a n c, .slice none 0 0]) ∧ Upd [] w w' := by
 have tbz : Tb (w.alloc (.cells #[.int .u8 0, .bool false, .slice none 0 0, .string ⟨#[]⟩, .int .i64 0, .slice none 0 0, .slice none 0 0] 26)) w.heap.size #[.int .u8 0, .bool false, .slice none 0 0, .string ⟨#[]⟩, .int .i64 0, .slice none 0 0, .slice none 0 0] := Tb.new _ _ _ rfl
 go_enter Tryz.func35, Tryz.ntmps35
 go_wp2_with (refine store_V _ rfl _ _ rfl _ _ _ _ _ _ _ _ _ _ _ _ _ _ _ rfl rfl tbz rfl ?_; intro w2 hT2 hU2)
 exact ret_T Tryz.results35 rfl _ _ rfl hT2 rfl ⟨rfl, ((Upd.refl [] w).alloc _).then hU2 (by simp)⟩
set_option maxHeartbeats 1000000 in
set_option maxRecDepth 100000 in
theorem tuple_any (a : Option Addr) (n c : Nat) (w : World) : Calls Tryz.prog 31 #[.slice a n c] w fun e w' => e = .returned (.agg #[.int .u8 6, .bool false, .slice none 0 0, .string ⟨#[]⟩, .int .i64 0, .slice a n c, .slice none 0 0]) ∧ Upd [] w w' := by
 have tbz : Tb (w.alloc (.cells #[.int .u8 0, .bool false, .slice none 0 0, .string ⟨#[]⟩, .int .i64 0, .slice none 0 0, .slice none 0 0] 26)) w.heap.size #[.int .u8 0, .bool false, .slice none 0 0, .string ⟨#[]⟩, .int .i64 0, .slice none 0 0, .slice none 0 0] := Tb.new _ _ _ rfl
 go_enter Tryz.func31, Tryz.ntmps31
 go_wp2_with (refine store_V _ rfl _ _ rfl _ _ _ _ _ _ _ _ _ _ _ _ _ _ _ rfl rfl tbz rfl ?_; intro w2 hT2 hU2)
 exact ret_T Tryz.results31 rfl _ _ rfl hT2 rfl ⟨rfl, ((Upd.refl [] w).alloc _).then hU2 (by simp)⟩
def WhP (n : Nat) (w : World) (e : Ending) (w' : World) : Prop := ∃ g, e = .returned (.agg #[.int .u8 1, .bool false, .slice (some ⟨g, 0, none⟩) 1 1, .string ⟨#[]⟩, .int .i64 0, .slice none 0 0, .slice none 0 0]) ∧ Lb w' g n ∧ Upd [] w w'
set_option maxHeartbeats 1000000 in
set_option maxRecDepth 100000 in
theorem lwhole_any (n : Nat) (w : World) : Calls Tryz.prog 34 #[.int .u32 n] w (WhP n w) := by
 have tbz : Tb ((w.alloc (.cells #[.int .u8 0, .bool false, .slice none 0 0, .string ⟨#[]⟩, .int .i64 0, .slice none 0 0, .slice none 0 0] 26)).alloc (.cells #[.int .u32 (n : Nat)] 47)) w.heap.size #[.int .u8 0, .bool false, .slice none 0 0, .string ⟨#[]⟩, .int .i64 0, .slice none 0 0, .slice none 0 0] := (Tb.new _ _ _ rfl).old _
 have hL : Lb ((w.alloc (.cells #[.int .u8 0, .bool false, .slice none 0 0, .string ⟨#[]⟩, .int .i64 0, .slice none 0 0, .slice none 0 0] 26)).alloc (.cells #[.int .u32 (n : Nat)] 47)) (w.heap.size + 1) n := by
  have := heap_alloc_new (w.alloc (.cells #[.int .u8 0, .bool false, .slice none 0 0, .string ⟨#[]⟩, .int .i64 0, .slice none 0 0, .slice none 0 0] 26)) (.cells #[.int .u32 (n : Nat)] 47)
  unfold Lb
  rw [show w.heap.size + 1 = (w.alloc (.cells #[.int .u8 0, .bool false, .slice none 0 0, .string ⟨#[]⟩, .int .i64 0, .slice none 0 0, .slice none 0 0] 26)).heap.size by simp]
  exact this
 have HL : Hid _ := hL
 clear hL
 go_enter Tryz.func34, Tryz.ntmps34
 go_wp2_with (refine store_V _ rfl _ _ rfl _ _ _ _ _ _ _ _ _ _ _ _ _ _ _ rfl rfl tbz rfl ?_; intro w2 hT2 hU2)
 refine ret_T Tryz.results34 rfl _ _ rfl hT2 rfl ⟨w.heap.size + 1, rfl, ?_, (((Upd.refl [] w).alloc _).alloc _).then hU2 (by simp)⟩
 exact (hU2.block _ (by simp) (by simp)).trans HL.out
def ImP (a : Option Addr) (n c : Nat) (cs : Array Value) (w : World) (e : Ending) (w' : World) : Prop := ∃ g, e = .returned (.agg #[.int .u8 7, .bool false, .slice none 0 0, .string ⟨#[]⟩, .int .i64 0, .slice a n c, .slice (some ⟨g, 0, none⟩) 1 1]) ∧ Tb w' g cs ∧ Upd [] w w'
set_option maxHeartbeats 1000000 in
set_option maxRecDepth 100000 in
theorem improper_any (a : Option Addr) (n c : Nat) (k num : Int) (neg : Bool) (s : ByteArray) (a1 a2 a3 : Option Addr) (n1 n2 n3 c1 c2 c3 : Nat) (w : World) : Calls Tryz.prog 33 #[.agg #[.int .u8 k, .bool neg, .slice a1 n1 c1, .string s, .int .i64 num, .slice a2 n2 c2, .slice a3 n3 c3], .slice a n c] w (ImP a n c #[.int .u8 k, .bool neg, .slice a1 n1 c1, .string s, .int .i64 num, .slice a2 n2 c2, .slice a3 n3 c3] w) := by
 go_enter Tryz.func33, Tryz.ntmps33
 have tbz : Tb (((w.alloc (.cells #[.int .u8 k, .bool neg, .slice a1 n1 c1, .string s, .int .i64 num, .slice a2 n2 c2, .slice a3 n3 c3] 26)).alloc (.cells #[.int .u8 0, .bool false, .slice none 0 0, .string ⟨#[]⟩, .int .i64 0, .slice none 0 0, .slice none 0 0] 26)).alloc (.cells #[.int .u8 k, .bool neg, .slice a1 n1 c1, .string s, .int .i64 num, .slice a2 n2 c2, .slice a3 n3 c3] 26)) (w.heap.size + 1) #[.int .u8 0, .bool false, .slice none 0 0, .string ⟨#[]⟩, .int .i64 0, .slice none 0 0, .slice none 0 0] := (Tb.new _ _ _ (by simp)).old _
 have tbn : Tb (((w.alloc (.cells #[.int .u8 k, .bool neg, .slice a1 n1 c1, .string s, .int .i64 num, .slice a2 n2 c2, .slice a3 n3 c3] 26)).alloc (.cells #[.int .u8 0, .bool false, .slice none 0 0, .string ⟨#[]⟩, .int .i64 0, .slice none 0 0, .slice none 0 0] 26)).alloc (.cells #[.int .u8 k, .bool neg, .slice a1 n1 c1, .string s, .int .i64 num, .slice a2 n2 c2, .slice a3 n3 c3] 26)) (w.heap.size + 1 + 1) #[.int .u8 k, .bool neg, .slice a1 n1 c1, .string s, .int .i64 num, .slice a2 n2 c2, .slice a3 n3 c3] := Tb.new _ _ _ (by simp)
 have HTN : Hid _ := tbn
 clear tbn
 go_wp2_with (refine store_V _ rfl _ _ rfl _ _ _ _ _ _ _ _ _ _ _ _ _ _ _ rfl rfl tbz rfl ?_; intro w2 hT2 hU2)
 refine ret_T Tryz.results33 rfl _ _ rfl hT2 rfl ⟨w.heap.size + 1 + 1, rfl, ?_, ((((Upd.refl [] w).alloc _).alloc _).alloc _).then hU2 (by simp)⟩
 exact (hU2.block _ (by simp) (by simp)).trans HTN.out
end Go.Proofs.YtalhbbabijlngaaGreatDoor
namespace Go.Proofs.YtalhbbabijlngaaGreatDoor
open Go.RowKit
def tmE : Tm := tmU [tmA ⟨#[97]⟩, tmP [tmI 1, tmI 2] (tmA ⟨#[98]⟩)]
theorem isText_1 : IsText [49] 1 := ⟨[49], rfl, Or.inr ⟨by decide, ⟨by unfold IsDig; decide, by decide, fun x hx => by simp at hx; omega⟩⟩⟩
theorem isText_2 : IsText [50] 2 := ⟨[50], rfl, Or.inr ⟨by decide, ⟨by unfold IsDig; decide, by decide, fun x hx => by simp at hx; omega⟩⟩⟩
theorem wtx_1 : wtx 1 = [49] := by rw [wtx_eq isText_1]; rfl
theorem wtx_2 : wtx 2 = [50] := by rw [wtx_eq isText_2]; rfl
theorem szS_E : szS tmE = 10 := by decide
theorem tsz_E : tsz tmE ≤ 1353245080330 := by decide
theorem okS_1 : okS (tmI 1) = true := by decide
theorem okS_0 : okS (.mk 0 0 false [] ⟨#[]⟩ [] []) = false := by decide
theorem okS_12 : okS (tmL [tmI 1, tmI 2]) = true := by decide
theorem okS_2 : okS (tmL [tmI 2]) = true := by decide
theorem cmp_1 : cmpS (tmP [tmI 1] (tmI 2)) (tmL [tmI 1]) = -1 := by decide
theorem cmp_2 : cmpS (tmL [tmI 1]) (tmL [tmI 1, tmI 1]) = -1 := by decide
theorem sam_1 : samS (tmI 1) (tmI 1) = true := by decide
theorem sam_2 : samS (consT (tmI 1) [tmI 2] []) (tmL [tmI 1, tmI 2]) = true := by decide
theorem atx_a : atomTx (byt ⟨#[97]⟩) = [97] := by decide
theorem atx_b : atomTx (byt ⟨#[98]⟩) = [98] := by decide
theorem atx_ab : atomTx (byt ⟨#[97, 32, 98]⟩) = [39, 97, 32, 98, 39] := by decide
theorem atx_if : atomTx (byt ⟨#[105, 102]⟩) = [39, 105, 102, 39] := by decide
theorem tx_E : txT tmE = [123, 97, 44, 91, 49, 44, 50, 124, 98, 93, 125] := by
 have z1 : zv false [1] = 1 := by decide
 have z2 : zv false [2] = 2 := by decide
 simp [tmE, tmU, tmA, tmP, tmI, txT, txC, txB, atx_a, atx_b, z1, z2, wtx_1, wtx_2]
theorem tx_ab : txT (tmA ⟨#[97, 32, 98]⟩) = [39, 97, 32, 98, 39] := by simp [tmA, txT, atx_ab]
theorem tx_if : txT (tmA ⟨#[105, 102]⟩) = [39, 105, 102, 39] := by simp [tmA, txT, atx_if]
theorem tx_nil : txT (tmL []) = [91, 93] := by simp [tmL, txT, txC, txB]
end Go.Proofs.YtalhbbabijlngaaGreatDoor
namespace Go.Proofs.YtalhbbabijlngaaGreatDoor
open Go.RowKit
def zeroT : Tm := .mk 0 0 false [] ⟨#[]⟩ [] []
def consI (h : Tm) : Tm → Tm
 | .mk k num neg L s I T => if k = 7 then consT h I T else consT h [] [.mk k num neg L s I T]
def consS (h t : Tm) : Tm := if okS h && okS t && okS (consI h t) then consI h t else zeroT
def restT : Tm → Tm
 | .mk _ _ _ _ _ I T => if I.length ≤ 1 then T.headD nilT else .mk 7 0 false [] ⟨#[]⟩ (I.drop 1) T
def headT : Tm → Tm
 | .mk _ _ _ _ _ I _ => I.headD nilT
def splits : Tm → Bool
 | .mk k _ _ _ _ I _ => decide (k = 7) && decide (0 < I.length)
theorem consI_l (h : Tm) (num : Int) (neg : Bool) (L : List Nat) (s : ByteArray) (I T : List Tm) : consI h (.mk 7 num neg L s I T) = consT h I T := by rw [consI, if_pos rfl]
theorem consI_e (h : Tm) (k num : Int) (neg : Bool) (L : List Nat) (s : ByteArray) (I T : List Tm) (hk : ¬ k = 7) : consI h (.mk k num neg L s I T) = consT h [] [.mk k num neg L s I T] := by rw [consI, if_neg hk]
theorem okS_iff (t : Tm) : okS t = true ↔ okT' t = true ∧ szT t ≤ 4096 := by
 unfold okS
 rw [Bool.and_eq_true, decide_eq_true_eq]
theorem empty_bytes {s : ByteArray} (h : s.size = 0) : s = ⟨#[]⟩ := by
 obtain ⟨⟨l⟩⟩ := s
 cases l with
 | nil => rfl
 | cons x r => simp [ByteArray.size] at h
theorem okF_list {num : Int} {neg : Bool} {L : List Nat} {s : ByteArray} {n : Nat} {T : List Tm} (h : okF 7 num neg L s n T = true) : num = 0 ∧ neg = false ∧ L = [] ∧ s = ⟨#[]⟩ ∧ (T = [] ∨ ∃ u, T = [u] ∧ 0 < n ∧ u.kd ≠ 7) := by
 unfold okF at h
 simp only [show ¬ ((7 : Int) = 1) by decide, show ¬ ((7 : Int) = 2) by decide, show ¬ ((7 : Int) = 3 ∨ (7 : Int) = 5) by decide, show ¬ ((7 : Int) = 4) by decide, show ¬ ((7 : Int) = 6) by decide, if_false, if_true, Bool.and_eq_true, decide_eq_true_eq] at h
 obtain ⟨⟨h1, h2⟩, ⟨h3, h4⟩, h5⟩ := h
 refine ⟨h4, h1, List.eq_nil_of_length_eq_zero h2, empty_bytes h3, ?_⟩
 match T, h5 with
 | [], _ => exact Or.inl rfl
 | [u], h5 =>
  simp only [Bool.and_eq_true, decide_eq_true_eq] at h5
  exact Or.inr ⟨u, rfl, h5.1, h5.2⟩
 | _ :: _ :: _, h5 => simp at h5
theorem okF_mk (n : Nat) (T : List Tm) (h : T = [] ∨ ∃ u, T = [u] ∧ 0 < n ∧ u.kd ≠ 7) : okF 7 0 false [] ⟨#[]⟩ n T = true := by
 rcases h with rfl | ⟨u, rfl, h1, h2⟩
 ·rfl
 ·unfold okF
  simp [h1, h2]
  rfl
theorem cons_ok (h t : Tm) (hh : okT' h = true) (ht : okT' t = true) : okT' (consI h t) = true := by
 obtain ⟨k, num, neg, L, s, I, T⟩ := t
 by_cases hk : k = 7
 ·subst hk
  rw [consI_l, consT, okT']
  rw [okT', Bool.and_eq_true, Bool.and_eq_true] at ht
  obtain ⟨_, _, _, _, hT⟩ := okF_list ht.1.1
  rw [okR, hh, ht.1.2, ht.2, okF_mk _ _ (by
   rcases hT with h | ⟨u, h1, _, h3⟩
   ·exact Or.inl h
   ·exact Or.inr ⟨u, h1, by simp, h3⟩)]
  rfl
 ·rw [consI_e _ _ _ _ _ _ _ _ hk, consT, okT', okR, okR, okR, okR, hh, ht, okF_mk [h].length [.mk k num neg L s I T] (Or.inr ⟨.mk k num neg L s I T, rfl, by simp, hk⟩)]
  rfl
theorem cons_sz (h t : Tm) : szT (consI h t) = szT h + szT t + (if t.kd = 7 then 1 else 2) := by
 obtain ⟨k, num, neg, L, s, I, T⟩ := t
 by_cases hk : k = 7
 ·subst hk
  rw [consI_l]
  have e1 : ownZ 7 ([] : List Nat).length (h :: I).length = 1 + (I.length + 1) := rfl
  have e2 : ownZ 7 L.length I.length = 1 + I.length := rfl
  rw [consT, szT, szT, szR, e1, e2]
  simp only [Tm.kd, if_true]
  omega
 ·rw [consI_e _ _ _ _ _ _ _ _ hk, consT, szT, szR, szR, szR, szR]
  have e1 : ownZ 7 ([] : List Nat).length [h].length = 2 := rfl
  rw [e1, show (Tm.mk k num neg L s I T).kd = k from rfl, if_neg hk]
  omega
theorem parts_ok (t : Tm) (ht : okS t = true) (hs : splits t = true) : okS (headT t) = true ∧ okS (restT t) = true ∧ consI (headT t) (restT t) = t := by
 obtain ⟨k, num, neg, L, s, I, T⟩ := t
 rw [okS_iff] at ht
 unfold splits at hs
 rw [Bool.and_eq_true, decide_eq_true_eq, decide_eq_true_eq] at hs
 obtain ⟨rfl, hI⟩ := hs
 obtain ⟨ht, hz⟩ := ht
 rw [okT', Bool.and_eq_true, Bool.and_eq_true] at ht
 obtain ⟨rfl, rfl, rfl, rfl, hT⟩ := okF_list ht.1.1
 cases I with
 | nil => simp at hI
 | cons x r =>
  rw [szT, szR, List.length_cons] at hz
  have hr := ht.1.2
  rw [okR, Bool.and_eq_true] at hr
  have ho : ownZ 7 ([] : List Nat).length (r.length + 1) = 1 + (r.length + 1) := rfl
  rw [ho] at hz
  refine ⟨?_, ?_, ?_⟩
  ·rw [okS_iff]; exact ⟨hr.1, by simp only [headT, List.headD_cons]; omega⟩
  ·rw [okS_iff, restT]
   cases r with
   | nil =>
    rw [if_pos (by simp)]
    rcases hT with rfl | ⟨u, rfl, h1, h2⟩
    ·exact ⟨rfl, by decide⟩
    ·have h3 := ht.2
     rw [okR, Bool.and_eq_true] at h3
     rw [szR, szR, szR] at hz
     exact ⟨h3.1, by simp only [List.headD_cons]; omega⟩
   | cons y q =>
    rw [if_neg (by simp), okT', List.drop_one, List.tail_cons, hr.2, ht.2, okF_mk _ _ (by
     rcases hT with h | ⟨u, h1, _, h3⟩
     ·exact Or.inl h
     ·exact Or.inr ⟨u, h1, by simp, h3⟩)]
    refine ⟨rfl, ?_⟩
    rw [szT]
    have ho2 : ownZ 7 ([] : List Nat).length (y :: q).length = 1 + (y :: q).length := rfl
    rw [ho2]
    omega
  ·rw [restT, headT]
   cases r with
   | nil =>
    rw [if_pos (by simp)]
    rcases hT with rfl | ⟨u, rfl, h1, h2⟩
    ·rfl
    ·obtain ⟨k, num, neg, L, s, I, T⟩ := u
     simp only [List.headD_cons]
     rw [consI_e _ _ _ _ _ _ _ _ (show ¬ k = 7 from h2)]
     rfl
   | cons y q =>
    rw [if_neg (by simp)]
    simp only [List.headD_cons, List.drop_one, List.tail_cons]
    rw [consI_l]
    rfl
end Go.Proofs.YtalhbbabijlngaaGreatDoor
namespace Go.Proofs.YtalhbbabijlngaaGreatDoor
open Go.RowKit
theorem cellA {W : World} {p : Addr} {v : Value} (h : W.cell? p = some v) (o : Obj) : (W.alloc o).cell? p = some v := (((Upd.refl [] W).alloc o).cell (World.block_lt_of_cell? _ _ h) (by simp)).trans h
theorem cellD {W : World} {p : Addr} {v : Value} (h : W.cell? p = some v) : W.drew.cell? p = some v := (((Upd.refl [] W).drew).cell (World.block_lt_of_cell? _ _ h) (by simp)).trans h
theorem cellU {W W' : World} {p : Addr} {v : Value} (hu : Upd [] W W') (h : W.cell? p = some v) : W'.cell? p = some v := (hu.cell (World.block_lt_of_cell? _ _ h) (by simp)).trans h
theorem Upd.wid {S : List Nat} {a b : World} (h : Upd [] a b) : Upd S a b := ⟨h.os, h.tape, h.output, h.size, fun k hk _ => h.block k hk (by simp)⟩
theorem cellN {W : World} {v : Value} (T : TypeId) {g : Nat} (h : g = W.heap.size) : (W.alloc (.cells #[v] T)).cell? ⟨g, 0, none⟩ = some v := by subst h; exact nw0 W v T
def fk (b : Bool) : Int := if b then 7 else 0
def fa (b : Bool) (a : Option Addr) : Option Addr := if b then a else none
def fn (b : Bool) (n : Nat) : Nat := if b then n else 0
theorem fit_gen (d a3n c3 a4n c4 : Nat) (a3 a4 : Option Addr) (V : World) (t : Tm) (b : Bool) (hb : okS t = b) (hin : In V d [.int .u8 7, .bool false, .slice none 0 0, .string ⟨#[]⟩, .int .i64 0, .slice a3 a3n c3, .slice a4 a4n c4] t) (hz : tsz t ≤ 1353245080330) :
  Calls Tryz.prog 63 #[.agg #[.int .u8 7, .bool false, .slice none 0 0, .string ⟨#[]⟩, .int .i64 0, .slice a3 a3n c3, .slice a4 a4n c4]] V fun e w' => e = .returned (.agg #[.int .u8 (fk b), .bool false, .slice none 0 0, .string ⟨#[]⟩, .int .i64 0, .slice (fa b a3) (fn b a3n) (fn b c3), .slice (fa b a4) (fn b a4n) (fn b c4)]) ∧ Upd [] V w' := by
 have := fitting_in d V _ t hin hz
 unfold fitC at this
 rw [hb] at this
 cases b
 ·exact this
 ·exact this
def CapC (cs : List Value) : Prop := ∃ a n c, cs[5]? = some (.slice a n c) ∧ n ≤ c ∧ c ≤ 9223372036854775807
def pickT (b : Bool) (t : Tm) : Tm := if b then t else zeroT
theorem zero_in (w : World) (d : Nat) : In w (d + 1) zeroC zeroT := ⟨none, none, none, 0, 0, 0, rfl, At.nil _ _, Dig.nil, Or.inl rfl, Or.inl rfl⟩
end Go.Proofs.YtalhbbabijlngaaGreatDoor
namespace Go.Proofs.YtalhbbabijlngaaGreatDoor
open Go.RowKit
end Go.Proofs.YtalhbbabijlngaaGreatDoor
