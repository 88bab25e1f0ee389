/- The statements' makers of terms, by their contracts. -/
import Derived.Test.YtabknipgbmdipaaGreatDoorJAL
import Derived.Test.YtabknipgbmdipaaGreatDoorConT
import Derived.Test.YtabknipgbmdipaaGreatDoorJAS
import Derived.Test.YtabknipgbmdipaaGreatDoorJAT
import Derived.Test.YtabknipgbmdipaaGreatDoorJAN

namespace Go.Proofs.YtabknipgbmdipaaGreatDoor
open Go.RowKit

def tmI (n : Nat) : Tm := .mk 1 0 false [n] ⟨#[]⟩ [] []
def tmA (s : ByteArray) : Tm := .mk 2 0 false [] s [] []
def tmL (I : List Tm) : Tm := .mk 7 0 false [] ⟨#[]⟩ I []
def tmU (I : List Tm) : Tm := .mk 6 0 false [] ⟨#[]⟩ I []
def tmP (I : List Tm) (u : Tm) : Tm := .mk 7 0 false [] ⟨#[]⟩ I [u]

/-- A limb in a block of its own. -/
def Lb (w : World) (g n : Nat) : Prop := w.heap[g]? = some (.cells #[.int .u32 (n : Nat)] 47 (0, 0))
theorem Lb.mono {w w' : World} {g n : Nat} (h : Lb w g n) (hu : Upd [] w w') : Lb w' g n := (hu.block g (lt_of_block h) (by simp)).trans h
theorem in_whole {w : World} {g n : Nat} (h : Lb w g n) (hn : n < 4294967296) : In w 1 [.int .u8 1, .bool false, .slice (some ⟨g, 0, none⟩) 1 1, .string ⟨#[]⟩, .int .i64 0, .slice none 0 0, .slice none 0 0] (tmI n) := by
  refine ⟨some ⟨g, 0, none⟩, none, none, 1, 0, 0, rfl, Or.inr ⟨g, 0, rfl, lt_of_block h, fun i hi => ?_⟩, ?_, Or.inl rfl, Or.inl rfl⟩
  · have : i = 0 := by simpa using hi
    subst this
    exact cell_of_row w g 0 _ _ _ h
  · unfold Dig; simp; omega
theorem in_atom (w : World) (s : ByteArray) : In w 1 [.int .u8 2, .bool false, .slice none 0 0, .string s, .int .i64 0, .slice none 0 0, .slice none 0 0] (tmA s) :=
  ⟨none, none, none, 0, 0, 0, rfl, Or.inl rfl, Dig.nil, Or.inl rfl, Or.inl rfl⟩
theorem row_one {w : World} {g d : Nat} {q0 q1 q2 q3 q4 q5 q6 : Value} {t : Tm} (h : Tb w g #[q0, q1, q2, q3, q4, q5, q6]) (ht : In w d [q0, q1, q2, q3, q4, q5, q6] t) : RowAt (In w d) w (some ⟨g, 0, none⟩) [t] := by
  refine Or.inr ⟨g, 0, rfl, lt_of_block h, fun i hi => ?_⟩
  have : i = 0 := by simpa using hi
  subst this
  refine ⟨_, rfl, fun j hj => ?_, ht⟩
  rw [show (⟨g, 0 + (0 * 7 + j), none⟩ : Addr) = ⟨g, j, none⟩ by simp, Lib.cell_of_heap h j]
  match j, hj with
  | 0, _ => rfl
  | 1, _ => rfl
  | 2, _ => rfl
  | 3, _ => rfl
  | 4, _ => rfl
  | 5, _ => rfl
  | 6, _ => rfl
theorem row_two {w : World} {g d : Nat} {q0 q1 q2 q3 q4 q5 q6 p0 p1 p2 p3 p4 p5 p6 : Value} {t u : Tm} (h : Tb w g #[q0, q1, q2, q3, q4, q5, q6, p0, p1, p2, p3, p4, p5, p6]) (ht : In w d [q0, q1, q2, q3, q4, q5, q6] t) (hu : In w d [p0, p1, p2, p3, p4, p5, p6] u) : RowAt (In w d) w (some ⟨g, 0, none⟩) [t, u] := by
  refine Or.inr ⟨g, 0, rfl, lt_of_block h, fun i hi => ?_⟩
  have : i = 0 ∨ i = 1 := by simp at hi; omega
  rcases this with rfl | rfl
  · refine ⟨_, rfl, fun j hj => ?_, ht⟩
    rw [show (⟨g, 0 + (0 * 7 + j), none⟩ : Addr) = ⟨g, j, none⟩ by simp, Lib.cell_of_heap h j]
    match j, hj with
    | 0, _ => rfl
    | 1, _ => rfl
    | 2, _ => rfl
    | 3, _ => rfl
    | 4, _ => rfl
    | 5, _ => rfl
    | 6, _ => rfl
  · refine ⟨_, rfl, fun j hj => ?_, hu⟩
    rw [show (⟨g, 0 + (1 * 7 + j), none⟩ : Addr) = ⟨g, 7 + j, none⟩ by simp, Lib.cell_of_heap h (7 + j)]
    match j, hj with
    | 0, _ => rfl
    | 1, _ => rfl
    | 2, _ => rfl
    | 3, _ => rfl
    | 4, _ => rfl
    | 5, _ => rfl
    | 6, _ => rfl
theorem in_list {w : World} {d : Nat} {a : Option Addr} {I : List Tm} (h : RowAt (In w d) w a I) (n : Nat) (hn : n = I.length) (c : Nat) : In w (d + 1) [.int .u8 7, .bool false, .slice none 0 0, .string ⟨#[]⟩, .int .i64 0, .slice a n c, .slice none 0 0] (tmL I) := by
  subst hn
  exact ⟨none, a, none, 0, c, 0, rfl, Or.inl rfl, Dig.nil, h, Or.inl rfl⟩
theorem in_tuple {w : World} {d : Nat} {a : Option Addr} {I : List Tm} (h : RowAt (In w d) w a I) (n : Nat) (hn : n = I.length) (c : Nat) : In w (d + 1) [.int .u8 6, .bool false, .slice none 0 0, .string ⟨#[]⟩, .int .i64 0, .slice a n c, .slice none 0 0] (tmU I) := by
  subst hn
  exact ⟨none, a, none, 0, c, 0, rfl, Or.inl rfl, Dig.nil, h, Or.inl rfl⟩
theorem in_improper {w : World} {d : Nat} {a a' : Option Addr} {I : List Tm} {u : Tm} (h : RowAt (In w d) w a I) (n : Nat) (hn : n = I.length) (c : Nat) (h' : RowAt (In w d) w a' [u]) (c' : Nat) : In w (d + 1) [.int .u8 7, .bool false, .slice none 0 0, .string ⟨#[]⟩, .int .i64 0, .slice a n c, .slice a' 1 c'] (tmP I u) := by
  subst hn
  exact ⟨none, a, a', 0, c, c', rfl, Or.inl rfl, Dig.nil, h, h'⟩
theorem RowAt.more {w : World} {d : Nat} {a : Option Addr} {I : List Tm} (h : RowAt (In w d) w a I) : RowAt (In w (d + 1)) w a I := h.imp (Upd.refl [] w) (fun cs t h => In.more d cs t h)

set_option maxHeartbeats 1000000 in
set_option maxRecDepth 100000 in
theorem atom_any (s : ByteArray) (w : World) : Calls Tryz.prog 32 #[.string s] w fun e w' => e = .returned (.agg #[.int .u8 2, .bool false, .slice none 0 0, .string s, .int .i64 0, .slice none 0 0, .slice none 0 0]) ∧ Upd [] w w' := by
  have tbz : Tb (w.alloc (.cells #[.int .u8 0, .bool false, .slice none 0 0, .string ⟨#[]⟩, .int .i64 0, .slice none 0 0, .slice none 0 0] 26)) w.heap.size #[.int .u8 0, .bool false, .slice none 0 0, .string ⟨#[]⟩, .int .i64 0, .slice none 0 0, .slice none 0 0] := Tb.new _ _ _ rfl
  go_enter Tryz.func32, Tryz.ntmps32
  go_wp2_with (refine store_V _ rfl _ _ rfl _ _ _ _ _ _ _ _ _ _ _ _ _ _ _ rfl rfl tbz rfl ?_; intro w2 hT2 hU2)
  exact ret_T Tryz.results32 rfl _ _ rfl hT2 rfl ⟨rfl, ((Upd.refl [] w).alloc _).then hU2 (by simp)⟩
set_option maxHeartbeats 1000000 in
set_option maxRecDepth 100000 in
theorem list_any (a : Option Addr) (n c : Nat) (w : World) : Calls Tryz.prog 35 #[.slice a n c] w fun e w' => e = .returned (.agg #[.int .u8 7, .bool false, .slice none 0 0, .string ⟨#[]⟩, .int .i64 0, .slice a n c, .slice none 0 0]) ∧ Upd [] w w' := by
  have tbz : Tb (w.alloc (.cells #[.int .u8 0, .bool false, .slice none 0 0, .string ⟨#[]⟩, .int .i64 0, .slice none 0 0, .slice none 0 0] 26)) w.heap.size #[.int .u8 0, .bool false, .slice none 0 0, .string ⟨#[]⟩, .int .i64 0, .slice none 0 0, .slice none 0 0] := Tb.new _ _ _ rfl
  go_enter Tryz.func35, Tryz.ntmps35
  go_wp2_with (refine store_V _ rfl _ _ rfl _ _ _ _ _ _ _ _ _ _ _ _ _ _ _ rfl rfl tbz rfl ?_; intro w2 hT2 hU2)
  exact ret_T Tryz.results35 rfl _ _ rfl hT2 rfl ⟨rfl, ((Upd.refl [] w).alloc _).then hU2 (by simp)⟩
set_option maxHeartbeats 1000000 in
set_option maxRecDepth 100000 in
theorem tuple_any (a : Option Addr) (n c : Nat) (w : World) : Calls Tryz.prog 31 #[.slice a n c] w fun e w' => e = .returned (.agg #[.int .u8 6, .bool false, .slice none 0 0, .string ⟨#[]⟩, .int .i64 0, .slice a n c, .slice none 0 0]) ∧ Upd [] w w' := by
  have tbz : Tb (w.alloc (.cells #[.int .u8 0, .bool false, .slice none 0 0, .string ⟨#[]⟩, .int .i64 0, .slice none 0 0, .slice none 0 0] 26)) w.heap.size #[.int .u8 0, .bool false, .slice none 0 0, .string ⟨#[]⟩, .int .i64 0, .slice none 0 0, .slice none 0 0] := Tb.new _ _ _ rfl
  go_enter Tryz.func31, Tryz.ntmps31
  go_wp2_with (refine store_V _ rfl _ _ rfl _ _ _ _ _ _ _ _ _ _ _ _ _ _ _ rfl rfl tbz rfl ?_; intro w2 hT2 hU2)
  exact ret_T Tryz.results31 rfl _ _ rfl hT2 rfl ⟨rfl, ((Upd.refl [] w).alloc _).then hU2 (by simp)⟩

/-- An integer made. -/
def WhP (n : Nat) (w : World) (e : Ending) (w' : World) : Prop := ∃ g, e = .returned (.agg #[.int .u8 1, .bool false, .slice (some ⟨g, 0, none⟩) 1 1, .string ⟨#[]⟩, .int .i64 0, .slice none 0 0, .slice none 0 0]) ∧ Lb w' g n ∧ Upd [] w w'
set_option maxHeartbeats 1000000 in
set_option maxRecDepth 100000 in
theorem lwhole_any (n : Nat) (w : World) : Calls Tryz.prog 34 #[.int .u32 n] w (WhP n w) := by
  have tbz : Tb ((w.alloc (.cells #[.int .u8 0, .bool false, .slice none 0 0, .string ⟨#[]⟩, .int .i64 0, .slice none 0 0, .slice none 0 0] 26)).alloc (.cells #[.int .u32 (n : Nat)] 47)) w.heap.size #[.int .u8 0, .bool false, .slice none 0 0, .string ⟨#[]⟩, .int .i64 0, .slice none 0 0, .slice none 0 0] := (Tb.new _ _ _ rfl).old _
  have hL : Lb ((w.alloc (.cells #[.int .u8 0, .bool false, .slice none 0 0, .string ⟨#[]⟩, .int .i64 0, .slice none 0 0, .slice none 0 0] 26)).alloc (.cells #[.int .u32 (n : Nat)] 47)) (w.heap.size + 1) n := by
    have := heap_alloc_new (w.alloc (.cells #[.int .u8 0, .bool false, .slice none 0 0, .string ⟨#[]⟩, .int .i64 0, .slice none 0 0, .slice none 0 0] 26)) (.cells #[.int .u32 (n : Nat)] 47)
    unfold Lb
    rw [show w.heap.size + 1 = (w.alloc (.cells #[.int .u8 0, .bool false, .slice none 0 0, .string ⟨#[]⟩, .int .i64 0, .slice none 0 0, .slice none 0 0] 26)).heap.size by simp]
    exact this
  have HL : Hid _ := hL
  clear hL
  go_enter Tryz.func34, Tryz.ntmps34
  go_wp2_with (refine store_V _ rfl _ _ rfl _ _ _ _ _ _ _ _ _ _ _ _ _ _ _ rfl rfl tbz rfl ?_; intro w2 hT2 hU2)
  refine ret_T Tryz.results34 rfl _ _ rfl hT2 rfl ⟨w.heap.size + 1, rfl, ?_, (((Upd.refl [] w).alloc _).alloc _).then hU2 (by simp)⟩
  exact (hU2.block _ (by simp) (by simp)).trans HL.out

/-- A list with a tail made. -/
def ImP (a : Option Addr) (n c : Nat) (cs : Array Value) (w : World) (e : Ending) (w' : World) : Prop := ∃ g, e = .returned (.agg #[.int .u8 7, .bool false, .slice none 0 0, .string ⟨#[]⟩, .int .i64 0, .slice a n c, .slice (some ⟨g, 0, none⟩) 1 1]) ∧ Tb w' g cs ∧ Upd [] w w'
set_option maxHeartbeats 1000000 in
set_option maxRecDepth 100000 in
theorem improper_any (a : Option Addr) (n c : Nat) (k num : Int) (neg : Bool) (s : ByteArray) (a1 a2 a3 : Option Addr) (n1 n2 n3 c1 c2 c3 : Nat) (w : World) : Calls Tryz.prog 33 #[.agg #[.int .u8 k, .bool neg, .slice a1 n1 c1, .string s, .int .i64 num, .slice a2 n2 c2, .slice a3 n3 c3], .slice a n c] w (ImP a n c #[.int .u8 k, .bool neg, .slice a1 n1 c1, .string s, .int .i64 num, .slice a2 n2 c2, .slice a3 n3 c3] w) := by
  go_enter Tryz.func33, Tryz.ntmps33
  have tbz : Tb (((w.alloc (.cells #[.int .u8 k, .bool neg, .slice a1 n1 c1, .string s, .int .i64 num, .slice a2 n2 c2, .slice a3 n3 c3] 26)).alloc (.cells #[.int .u8 0, .bool false, .slice none 0 0, .string ⟨#[]⟩, .int .i64 0, .slice none 0 0, .slice none 0 0] 26)).alloc (.cells #[.int .u8 k, .bool neg, .slice a1 n1 c1, .string s, .int .i64 num, .slice a2 n2 c2, .slice a3 n3 c3] 26)) (w.heap.size + 1) #[.int .u8 0, .bool false, .slice none 0 0, .string ⟨#[]⟩, .int .i64 0, .slice none 0 0, .slice none 0 0] := (Tb.new _ _ _ (by simp)).old _
  have tbn : Tb (((w.alloc (.cells #[.int .u8 k, .bool neg, .slice a1 n1 c1, .string s, .int .i64 num, .slice a2 n2 c2, .slice a3 n3 c3] 26)).alloc (.cells #[.int .u8 0, .bool false, .slice none 0 0, .string ⟨#[]⟩, .int .i64 0, .slice none 0 0, .slice none 0 0] 26)).alloc (.cells #[.int .u8 k, .bool neg, .slice a1 n1 c1, .string s, .int .i64 num, .slice a2 n2 c2, .slice a3 n3 c3] 26)) (w.heap.size + 1 + 1) #[.int .u8 k, .bool neg, .slice a1 n1 c1, .string s, .int .i64 num, .slice a2 n2 c2, .slice a3 n3 c3] := Tb.new _ _ _ (by simp)
  have HTN : Hid _ := tbn
  clear tbn
  go_wp2_with (refine store_V _ rfl _ _ rfl _ _ _ _ _ _ _ _ _ _ _ _ _ _ _ rfl rfl tbz rfl ?_; intro w2 hT2 hU2)
  refine ret_T Tryz.results33 rfl _ _ rfl hT2 rfl ⟨w.heap.size + 1 + 1, rfl, ?_, ((((Upd.refl [] w).alloc _).alloc _).alloc _).then hU2 (by simp)⟩
  exact (hU2.block _ (by simp) (by simp)).trans HTN.out
end Go.Proofs.YtabknipgbmdipaaGreatDoor

/- What is told of the terms that the statements begin with. -/
namespace Go.Proofs.YtabknipgbmdipaaGreatDoor
open Go.RowKit

def tmE : Tm := tmU [tmA ⟨#[97]⟩, tmP [tmI 1, tmI 2] (tmA ⟨#[98]⟩)]
theorem isText_1 : IsText [49] 1 := ⟨[49], rfl, Or.inr ⟨by decide, ⟨by unfold IsDig; decide, by decide, fun x hx => by simp at hx; omega⟩⟩⟩
theorem isText_2 : IsText [50] 2 := ⟨[50], rfl, Or.inr ⟨by decide, ⟨by unfold IsDig; decide, by decide, fun x hx => by simp at hx; omega⟩⟩⟩
theorem wtx_1 : wtx 1 = [49] := by rw [wtx_eq isText_1]; rfl
theorem wtx_2 : wtx 2 = [50] := by rw [wtx_eq isText_2]; rfl
theorem szS_E : szS tmE = 10 := by decide
theorem tsz_E : tsz tmE ≤ 1353245080330 := by decide
theorem okS_1 : okS (tmI 1) = true := by decide
theorem okS_0 : okS (.mk 0 0 false [] ⟨#[]⟩ [] []) = false := by decide
theorem okS_12 : okS (tmL [tmI 1, tmI 2]) = true := by decide
theorem okS_2 : okS (tmL [tmI 2]) = true := by decide
theorem cmp_1 : cmpS (tmP [tmI 1] (tmI 2)) (tmL [tmI 1]) = -1 := by decide
theorem cmp_2 : cmpS (tmL [tmI 1]) (tmL [tmI 1, tmI 1]) = -1 := by decide
theorem sam_1 : samS (tmI 1) (tmI 1) = true := by decide
theorem sam_2 : samS (consT (tmI 1) [tmI 2] []) (tmL [tmI 1, tmI 2]) = true := by decide
theorem atx_a : atomTx (byt ⟨#[97]⟩) = [97] := by decide
theorem atx_b : atomTx (byt ⟨#[98]⟩) = [98] := by decide
theorem atx_ab : atomTx (byt ⟨#[97, 32, 98]⟩) = [39, 97, 32, 98, 39] := by decide
theorem atx_if : atomTx (byt ⟨#[105, 102]⟩) = [39, 105, 102, 39] := by decide
theorem tx_E : txT tmE = [123, 97, 44, 91, 49, 44, 50, 124, 98, 93, 125] := by
  have z1 : zv false [1] = 1 := by decide
  have z2 : zv false [2] = 2 := by decide
  simp [tmE, tmU, tmA, tmP, tmI, txT, txC, txB, atx_a, atx_b, z1, z2, wtx_1, wtx_2]
theorem tx_ab : txT (tmA ⟨#[97, 32, 98]⟩) = [39, 97, 32, 98, 39] := by simp [tmA, txT, atx_ab]
theorem tx_if : txT (tmA ⟨#[105, 102]⟩) = [39, 105, 102, 39] := by simp [tmA, txT, atx_if]
theorem tx_nil : txT (tmL []) = [91, 93] := by simp [tmL, txT, txC, txB]
end Go.Proofs.YtabknipgbmdipaaGreatDoor
