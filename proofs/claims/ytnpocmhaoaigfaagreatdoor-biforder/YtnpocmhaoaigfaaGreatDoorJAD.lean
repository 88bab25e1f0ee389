/- A region that draws its order, whose own operations only read, and whose callees may make memory: walked once, in the order of the text. -/
import Derived.Test.YtnpocmhaoaigfaaGreatDoorJAA
import Derived.Deep.QuietTactic
import Derived.BigQuiet
import Derived.Test.YtnpocmhaoaigfaaGreatDoorOrdB

namespace Go.Proofs.YtnpocmhaoaigfaaGreatDoor
open Go.RowKit

/-- A world in which nothing of an elder one has turned. -/
structure Ext (w : World) where
  W : World
  h : Upd [] w W

theorem Ext.call {f : FuncId} {args : Array Value} {w : World} {v : Value} {n : Ext w} (h : Calls Tryz.prog f args n.W fun e w' => e = .returned v ∧ Upd [] n.W w') :
    Calls Tryz.prog f args n.W fun e w'' => e = .returned v ∧ ∃ m : Ext w, w'' = m.W :=
  h.mono fun _ w'' ⟨he, hu⟩ => ⟨he, ⟨w'', n.h.trans hu⟩, rfl⟩
theorem Ext.cell {w : World} (n : Ext w) {p : Addr} {v : Value} (h : w.cell? p = some v) : n.W.cell? p = some v :=
  (n.h.cell (World.block_lt_of_cell? _ _ h) (by simp)).trans h

theorem wp_region_ext {id : Nat} {Q : Exit → Act → World → Prop} {a : Act} {w : World} {l : List Oper} (hm : Tryz.prog.follows .mixedOrders = true) (hB : Region.lexB .any l.toArray = true)
    (h : wpQuiet Tryz.prog l.toArray (fun w' => ∃ n : Ext w, w' = n.W) (fun a' => ∀ w', (∃ n : Ext w, w' = n.W) → Q .normal a' w') l a) : (Code.region id l.toArray true).wp Tryz.prog Q a w :=
  wp_region_quiet (C := fun w' => ∃ n : Ext w, w' = n.W) hm hB ⟨⟨w.drew, (Upd.refl [] w).drew⟩, rfl⟩ (by simpa using h)

end Go.Proofs.YtnpocmhaoaigfaaGreatDoor

/- tailOf, orderLists, order: by their contracts. -/
namespace Go.Proofs.YtnpocmhaoaigfaaGreatDoor
open Go.RowKit

/-- What stands behind a list. -/
def nilT : Tm := .mk 7 0 false [] ⟨#[]⟩ [] []
def nilC : List Value := [.int .u8 7, .bool false, .slice none 0 0, .string ⟨#[]⟩, .int .i64 0, .slice none 0 0, .slice none 0 0]
theorem nil_in (w : World) (d : Nat) : In w (d + 1) nilC nilT := ⟨none, none, none, 0, 0, 0, rfl, At.nil _ _, Dig.nil, Or.inl rfl, Or.inl rfl⟩

/-- tailOf answers these cells, whatever comes: they stand for what stands behind the list. -/
def TailP (w : World) (d : Nat) (cs : List Value) (T : List Tm) (X : List Value) : Prop := X.length = 7 ∧ X.toArray.all (·.oneCell') = true ∧ (0 < d → In w d X (T.headD nilT)) ∧ ∀ W, Upd [] w W → Calls Tryz.prog 64 #[.agg cs.toArray] W fun e w' => e = .returned (.agg X.toArray) ∧ Upd [] W w'

set_option maxHeartbeats 4000000 in
set_option maxRecDepth 100000 in
theorem tailOf_nil (k num : Int) (neg : Bool) (a ai at' : Option Addr) (n c ni ci ct : Nat) (s : ByteArray) (w : World) :
    Calls Tryz.prog 64 #[.agg #[.int .u8 k, .bool neg, .slice a n c, .string s, .int .i64 num, .slice ai ni ci, .slice at' 0 ct]] w fun e w' => e = .returned (.agg nilC.toArray) ∧ Upd [] w w' := by
  have tbz : Tb ((w.alloc (.cells #[.int .u8 k, .bool neg, .slice a n c, .string s, .int .i64 num, .slice ai ni ci, .slice at' 0 ct] 26)).alloc (.cells #[.int .u8 0, .bool false, .slice none 0 0, .string ⟨#[]⟩, .int .i64 0, .slice none 0 0, .slice none 0 0] 26)) (w.heap.size + 1) #[.int .u8 0, .bool false, .slice none 0 0, .string ⟨#[]⟩, .int .i64 0, .slice none 0 0, .slice none 0 0] := Tb.new _ _ _ (by simp)
  have HU0 : Hid (Upd [] w ((w.alloc (.cells #[.int .u8 k, .bool neg, .slice a n c, .string s, .int .i64 num, .slice ai ni ci, .slice at' 0 ct] 26)).alloc (.cells #[.int .u8 0, .bool false, .slice none 0 0, .string ⟨#[]⟩, .int .i64 0, .slice none 0 0, .slice none 0 0] 26))) := ((Upd.refl [] w).alloc _).alloc _
  go_enter Tryz.func64, Tryz.ntmps64
  go_wp2_with (refine store_V _ rfl _ _ rfl _ _ _ _ _ _ _ _ _ _ _ _ _ _ _ rfl rfl tbz rfl ?_; intro w1 hT1 hU1)
  exact ret_T Tryz.results64 rfl _ _ rfl hT1 rfl ⟨rfl, HU0.out.then hU1 (by simp)⟩

set_option maxHeartbeats 4000000 in
set_option maxRecDepth 100000 in
theorem tailOf_one (k num : Int) (neg : Bool) (a ai : Option Addr) (n c ni ci m ct b o : Nat) (s : ByteArray) (w : World) (q0 q1 q2 q3 q4 q5 q6 : Value) (hm : 0 < m) (hm2 : m ≤ 1353245080330) (hb : b < w.heap.size) (hone : #[q0, q1, q2, q3, q4, q5, q6].all (·.oneCell') = true) (hc : ∀ j, j < 7 → w.cell? ⟨b, o + j, none⟩ = [q0, q1, q2, q3, q4, q5, q6][j]?) :
    Calls Tryz.prog 64 #[.agg #[.int .u8 k, .bool neg, .slice a n c, .string s, .int .i64 num, .slice ai ni ci, .slice (some ⟨b, o, none⟩) m ct]] w fun e w' => e = .returned (.agg #[q0, q1, q2, q3, q4, q5, q6]) ∧ Upd [] w w' := by
  have hU0 : Upd [] w ((w.alloc (.cells #[.int .u8 k, .bool neg, .slice a n c, .string s, .int .i64 num, .slice ai ni ci, .slice (some ⟨b, o, none⟩) m ct] 26)).alloc (.cells #[.int .u8 0, .bool false, .slice none 0 0, .string ⟨#[]⟩, .int .i64 0, .slice none 0 0, .slice none 0 0] 26)) := ((Upd.refl [] w).alloc _).alloc _
  have tbz : Tb ((w.alloc (.cells #[.int .u8 k, .bool neg, .slice a n c, .string s, .int .i64 num, .slice ai ni ci, .slice (some ⟨b, o, none⟩) m ct] 26)).alloc (.cells #[.int .u8 0, .bool false, .slice none 0 0, .string ⟨#[]⟩, .int .i64 0, .slice none 0 0, .slice none 0 0] 26)) (w.heap.size + 1) #[.int .u8 0, .bool false, .slice none 0 0, .string ⟨#[]⟩, .int .i64 0, .slice none 0 0, .slice none 0 0] := Tb.new _ _ _ (by simp)
  have HU0 : Hid (Upd [] w _) := hU0
  have cc : ∀ j, j < 7 → ((w.alloc (.cells #[.int .u8 k, .bool neg, .slice a n c, .string s, .int .i64 num, .slice ai ni ci, .slice (some ⟨b, o, none⟩) m ct] 26)).alloc (.cells #[.int .u8 0, .bool false, .slice none 0 0, .string ⟨#[]⟩, .int .i64 0, .slice none 0 0, .slice none 0 0] 26)).cell? ⟨b, o + j, none⟩ = [q0, q1, q2, q3, q4, q5, q6][j]? := fun j hj => (hU0.cell (p := ⟨b, o + j, none⟩) hb (by simp)).trans (hc j hj)
  have x0 : ((w.alloc (.cells #[.int .u8 k, .bool neg, .slice a n c, .string s, .int .i64 num, .slice ai ni ci, .slice (some ⟨b, o, none⟩) m ct] 26)).alloc (.cells #[.int .u8 0, .bool false, .slice none 0 0, .string ⟨#[]⟩, .int .i64 0, .slice none 0 0, .slice none 0 0] 26)).cell? ⟨b, o, none⟩ = some q0 := cc 0 (by omega)
  have x1 : ((w.alloc (.cells #[.int .u8 k, .bool neg, .slice a n c, .string s, .int .i64 num, .slice ai ni ci, .slice (some ⟨b, o, none⟩) m ct] 26)).alloc (.cells #[.int .u8 0, .bool false, .slice none 0 0, .string ⟨#[]⟩, .int .i64 0, .slice none 0 0, .slice none 0 0] 26)).cell? ⟨b, o + 1, none⟩ = some q1 := cc 1 (by omega)
  have x2 : ((w.alloc (.cells #[.int .u8 k, .bool neg, .slice a n c, .string s, .int .i64 num, .slice ai ni ci, .slice (some ⟨b, o, none⟩) m ct] 26)).alloc (.cells #[.int .u8 0, .bool false, .slice none 0 0, .string ⟨#[]⟩, .int .i64 0, .slice none 0 0, .slice none 0 0] 26)).cell? ⟨b, o + 2, none⟩ = some q2 := cc 2 (by omega)
  have x3 : ((w.alloc (.cells #[.int .u8 k, .bool neg, .slice a n c, .string s, .int .i64 num, .slice ai ni ci, .slice (some ⟨b, o, none⟩) m ct] 26)).alloc (.cells #[.int .u8 0, .bool false, .slice none 0 0, .string ⟨#[]⟩, .int .i64 0, .slice none 0 0, .slice none 0 0] 26)).cell? ⟨b, o + 3, none⟩ = some q3 := cc 3 (by omega)
  have x4 : ((w.alloc (.cells #[.int .u8 k, .bool neg, .slice a n c, .string s, .int .i64 num, .slice ai ni ci, .slice (some ⟨b, o, none⟩) m ct] 26)).alloc (.cells #[.int .u8 0, .bool false, .slice none 0 0, .string ⟨#[]⟩, .int .i64 0, .slice none 0 0, .slice none 0 0] 26)).cell? ⟨b, o + 4, none⟩ = some q4 := cc 4 (by omega)
  have x5 : ((w.alloc (.cells #[.int .u8 k, .bool neg, .slice a n c, .string s, .int .i64 num, .slice ai ni ci, .slice (some ⟨b, o, none⟩) m ct] 26)).alloc (.cells #[.int .u8 0, .bool false, .slice none 0 0, .string ⟨#[]⟩, .int .i64 0, .slice none 0 0, .slice none 0 0] 26)).cell? ⟨b, o + 5, none⟩ = some q5 := cc 5 (by omega)
  have x6 : ((w.alloc (.cells #[.int .u8 k, .bool neg, .slice a n c, .string s, .int .i64 num, .slice ai ni ci, .slice (some ⟨b, o, none⟩) m ct] 26)).alloc (.cells #[.int .u8 0, .bool false, .slice none 0 0, .string ⟨#[]⟩, .int .i64 0, .slice none 0 0, .slice none 0 0] 26)).cell? ⟨b, o + 6, none⟩ = some q6 := cc 6 (by omega)
  have i0 : ((m : Int) == 0) = false := by simp; omega
  have i1 : (0 : Int) < (m : Int) := by omega
  clear cc hc hU0
  go_enter Tryz.func64, Tryz.ntmps64
  go_wp2_with (refine store_T _ rfl _ _ rfl _ #[q0, q1, q2, q3, q4, q5, q6] _ rfl rfl tbz rfl rfl hone ?_; intro w1 hT1 hU1)
  exact ret_T Tryz.results64 rfl _ _ rfl hT1 rfl ⟨rfl, HU0.out.then hU1 (by simp)⟩

theorem tailOf_in (k num : Int) (neg : Bool) (a ai at' : Option Addr) (n c ni ci ct d : Nat) (s : ByteArray) (T : List Tm) (w : World) (h : RowAt (In w d) w at' T) (hl : T.length ≤ 1353245080330) :
    ∃ X, TailP w d [.int .u8 k, .bool neg, .slice a n c, .string s, .int .i64 num, .slice ai ni ci, .slice at' T.length ct] T X := by
  match T, h, hl with
  | [], _, _ =>
    refine ⟨nilC, rfl, by simp [nilC, Value.oneCell'], fun hd => ?_, fun W hU => tailOf_nil k num neg a ai at' n c ni ci ct s W⟩
    obtain ⟨d, rfl⟩ : ∃ e, d = e + 1 := ⟨d - 1, by omega⟩
    exact nil_in w d
  | t :: r, h, hl =>
    rcases h with h | ⟨b, o, rfl, hb, hc⟩
    · cases h
    obtain ⟨cs, h7, hcell, hin⟩ := hc 0 (by simp)
    have hone := hin.one
    obtain ⟨q0, q1, q2, q3, q4, q5, q6, rfl⟩ := list7 h7
    refine ⟨_, h7, hone, fun _ => hin, fun W hU => ?_⟩
    refine tailOf_one k num neg a ai n c ni ci _ ct b o s W q0 q1 q2 q3 q4 q5 q6 (by simp) hl (Nat.lt_of_lt_of_le hb hU.size) hone fun j hj => ?_
    refine (hU.cell (p := ⟨b, o + j, none⟩) hb (by simp)).trans ?_
    have := hcell j hj
    rwa [Nat.zero_mul, Nat.zero_add] at this

theorem ordE_tail (T T' : List Tm) (h : T = [] ∨ ∃ u, T = [u] ∧ u.kd ≠ 7) (h' : T' = [] ∨ ∃ u, T' = [u] ∧ u.kd ≠ 7) (hne : ¬ (T = [] ∧ T' = [])) : ordE T T' = ordT (T.headD nilT) (T'.headD nilT) := by
  rcases h with rfl | ⟨u, rfl, hu⟩
  · rcases h' with rfl | ⟨u', rfl, hu'⟩
    · exact absurd ⟨rfl, rfl⟩ hne
    · cases u'
      simp only [Tm.kd] at hu'
      simp only [ordE, List.headD, Tm.kd, nilT]
      rw [ordT, if_neg (fun e => hu' e.symm)]
  · rcases h' with rfl | ⟨u', rfl, hu'⟩
    · cases u
      simp only [Tm.kd] at hu
      simp only [ordE, List.headD, Tm.kd, nilT]
      rw [ordT, if_neg hu]
    · rfl
theorem head_ok (T : List Tm) (h : okR T = true) : okT' (T.headD nilT) = true := by
  cases T with
  | nil => decide +kernel
  | cons t r => rw [okR, Bool.and_eq_true] at h; exact h.1
theorem head_sz (T : List Tm) (h : tszs T ≤ 1353245080330) : tsz (T.headD nilT) ≤ 1353245080330 := by
  cases T with
  | nil => simp [nilT, tsz, tszs]
  | cons t r => simp only [tszs] at h; simp only [List.headD]; omega
theorem row_pos {w : World} {d : Nat} {a : Option Addr} {T : List Tm} (h : RowAt (In w d) w a T) (hne : T ≠ []) : 0 < d := by
  rcases h with h | ⟨b, o, _, _, hc⟩
  · exact absurd h hne
  · obtain ⟨cs, _, _, hin⟩ := hc 0 (by cases T with | nil => exact absurd rfl hne | cons t r => simp)
    cases d with
    | zero => exact hin.elim
    | succ d => omega

set_option maxHeartbeats 8000000 in
set_option maxRecDepth 100000 in
theorem orderLists_in (d : Nat) (ih : OrdSaid d) (num0 : Int) (neg0 : Bool) (a0 ai0 at0 : Option Addr) (L0 : List Nat) (c0 ci0 ct0 : Nat) (s0 : ByteArray) (I0 T0 : List Tm) (num1 : Int) (neg1 : Bool) (a1 ai1 at1 : Option Addr) (L1 : List Nat) (c1 ci1 ct1 : Nat) (s1 : ByteArray) (I1 T1 : List Tm) (w : World) (hI0 : RowAt (In w d) w ai0 I0) (hT0 : RowAt (In w d) w at0 T0) (hI1 : RowAt (In w d) w ai1 I1) (hT1 : RowAt (In w d) w at1 T1)
    (oI0 : okR I0 = true) (oI1 : okR I1 = true) (oT0 : okR T0 = true) (oT1 : okR T1 = true) (t0 : T0 = [] ∨ ∃ u, T0 = [u] ∧ u.kd ≠ 7) (t1 : T1 = [] ∨ ∃ u, T1 = [u] ∧ u.kd ≠ 7)
    (zI0 : tszs I0 ≤ 1353245080330) (zI1 : tszs I1 ≤ 1353245080330) (zT0 : tszs T0 ≤ 1353245080330) (zT1 : tszs T1 ≤ 1353245080330) :
    Calls Tryz.prog 40 #[.agg #[.int .u8 7, .bool neg0, .slice a0 L0.length c0, .string s0, .int .i64 num0, .slice ai0 I0.length ci0, .slice at0 T0.length ct0], .agg #[.int .u8 7, .bool neg1, .slice a1 L1.length c1, .string s1, .int .i64 num1, .slice ai1 I1.length ci1, .slice at1 T1.length ct1]] w fun e w' => e = .returned (.int .i64 (th (ordR I0 I1) (ordE T0 T1))) ∧ Upd [] w w' := by
  have hl0 : T0.length ≤ 1353245080330 := Nat.le_trans (tszs_len T0) zT0
  have hl1 : T1.length ≤ 1353245080330 := Nat.le_trans (tszs_len T1) zT1
  have hl2 : I0.length ≤ 1353245080330 := Nat.le_trans (tszs_len I0) zI0
  have hl3 : I1.length ≤ 1353245080330 := Nat.le_trans (tszs_len I1) zI1
  have hU0 : Upd [] w ((w.alloc (.cells #[.int .u8 7, .bool neg0, .slice a0 L0.length c0, .string s0, .int .i64 num0, .slice ai0 I0.length ci0, .slice at0 T0.length ct0] 26)).alloc (.cells #[.int .u8 7, .bool neg1, .slice a1 L1.length c1, .string s1, .int .i64 num1, .slice ai1 I1.length ci1, .slice at1 T1.length ct1] 26)) := ((Upd.refl [] w).alloc _).alloc _
  have tb0 : Tb ((w.alloc (.cells #[.int .u8 7, .bool neg0, .slice a0 L0.length c0, .string s0, .int .i64 num0, .slice ai0 I0.length ci0, .slice at0 T0.length ct0] 26)).alloc (.cells #[.int .u8 7, .bool neg1, .slice a1 L1.length c1, .string s1, .int .i64 num1, .slice ai1 I1.length ci1, .slice at1 T1.length ct1] 26)) w.heap.size #[.int .u8 7, .bool neg0, .slice a0 L0.length c0, .string s0, .int .i64 num0, .slice ai0 I0.length ci0, .slice at0 T0.length ct0] := (Tb.new _ _ _ rfl).old _
  have tb1 : Tb ((w.alloc (.cells #[.int .u8 7, .bool neg0, .slice a0 L0.length c0, .string s0, .int .i64 num0, .slice ai0 I0.length ci0, .slice at0 T0.length ct0] 26)).alloc (.cells #[.int .u8 7, .bool neg1, .slice a1 L1.length c1, .string s1, .int .i64 num1, .slice ai1 I1.length ci1, .slice at1 T1.length ct1] 26)) (w.heap.size + 1) #[.int .u8 7, .bool neg1, .slice a1 L1.length c1, .string s1, .int .i64 num1, .slice ai1 I1.length ci1, .slice at1 T1.length ct1] := Tb.new _ _ _ (by simp)
  have HCF : Hid (∀ W, Upd [] w W → Calls Tryz.prog 42 #[.slice ai0 I0.length ci0, .slice ai1 I1.length ci1, .func (.func 20) #[] #[]] W fun e w' => e = .returned (.int .i64 (ordR I0 I1)) ∧ Upd [] W w') := fun W hU =>
    cmpf_in d ih W ai0 ai1 ci0 ci1 I0 I1 (hI0.imp hU (fun cs t h => In.mono hU d cs t h)) (hI1.imp hU (fun cs t h => In.mono hU d cs t h)) oI0 oI1 zI0 zI1
  obtain ⟨X, x7, xone, xin, xcall⟩ := tailOf_in 7 num0 neg0 a0 ai0 at0 L0.length c0 I0.length ci0 ct0 d s0 T0 w hT0 hl0
  obtain ⟨Y, y7, yone, yin, ycall⟩ := tailOf_in 7 num1 neg1 a1 ai1 at1 L1.length c1 I1.length ci1 ct1 d s1 T1 w hT1 hl1
  have HOR : Hid (¬ (T0 = [] ∧ T1 = []) → ordE T0 T1 = ordT (T0.headD nilT) (T1.headD nilT) ∧ ∀ W, Upd [] w W → Calls Tryz.prog 20 #[.agg X.toArray, .agg Y.toArray] W fun e w' => e = .returned (.int .i64 (ordT (T0.headD nilT) (T1.headD nilT))) ∧ Upd [] W w') := fun hne => by
    refine ⟨ordE_tail T0 T1 t0 t1 hne, fun W hU => ?_⟩
    have hd : 0 < d := by
      by_cases h0 : T0 = []
      · exact row_pos hT1 (fun h1 => hne ⟨h0, h1⟩)
      · exact row_pos hT0 h0
    exact ih W X Y _ _ (In.mono hU _ _ _ (xin hd)) (In.mono hU _ _ _ (yin hd)) (head_ok T0 oT0) (head_ok T1 oT1) (head_sz T0 zT0) (head_sz T1 zT1)
  have HXC : Hid (∀ W, Upd [] w W → Calls Tryz.prog 64 #[.agg #[.int .u8 7, .bool neg0, .slice a0 L0.length c0, .string s0, .int .i64 num0, .slice ai0 I0.length ci0, .slice at0 T0.length ct0]] W fun e w' => e = .returned (.agg X.toArray) ∧ Upd [] W w') := xcall
  have HYC : Hid (∀ W, Upd [] w W → Calls Tryz.prog 64 #[.agg #[.int .u8 7, .bool neg1, .slice a1 L1.length c1, .string s1, .int .i64 num1, .slice ai1 I1.length ci1, .slice at1 T1.length ct1]] W fun e w' => e = .returned (.agg Y.toArray) ∧ Upd [] W w') := ycall
  have HT : Hid (T0.length = 0 ↔ T0 = []) := List.length_eq_zero_iff
  have HT' : Hid (T1.length = 0 ↔ T1 = []) := List.length_eq_zero_iff
  obtain ⟨r, hr⟩ : ∃ r, r = ordR I0 I1 := ⟨_, rfl⟩
  obtain ⟨g, hg⟩ : ∃ g, g = ordE T0 T1 := ⟨_, rfl⟩
  have HGE : Hid (T0 = [] ∧ T1 = [] → g = 0) := fun h => by rw [hg, h.1, h.2]; rfl
  rw [← hr] at HCF ⊢
  rw [← hg] at HOR ⊢
  obtain ⟨W, hW⟩ : ∃ W, W = ((w.alloc (.cells #[.int .u8 7, .bool neg0, .slice a0 L0.length c0, .string s0, .int .i64 num0, .slice ai0 I0.length ci0, .slice at0 T0.length ct0] 26)).alloc (.cells #[.int .u8 7, .bool neg1, .slice a1 L1.length c1, .string s1, .int .i64 num1, .slice ai1 I1.length ci1, .slice at1 T1.length ct1] 26)) := ⟨_, rfl⟩
  have HU0 : Hid (Upd [] w _) := hU0
  clear hr hg xcall ycall xin yin ih hI0 hI1 hT0 hT1 oI0 oI1 oT0 oT1 t0 t1 zI0 zI1 zT0 zT1 hU0
  go_enter Tryz.func40, Tryz.ntmps40
  go_wp2_with fail
  rw [← hW] at HU0 tb0 tb1 ⊢
  clear hW
  refine Calls.mono (HCF.out W HU0.out) ?_
  rintro e w1 ⟨rfl, hU1⟩
  have tb2 := tb0.mono hU1 (by simp)
  have tb3 := tb1.mono hU1 (by simp)
  have HU1 : Hid (Upd [] w w1) := HU0.out.trans hU1
  clear hU1 HU0 tb0 tb1 HCF
  by_cases hr0 : r = 0
  · have hrb : (r != 0) = false := by simp [hr0]
    have HR0 : Hid (r = 0) := hr0
    have x6 : w1.cell? ⟨w.heap.size, 6, none⟩ = some (.slice at0 T0.length ct0) := tb2.cell 6
    have y6 : w1.cell? ⟨w.heap.size + 1, 6, none⟩ = some (.slice at1 T1.length ct1) := tb3.cell 6
    clear hr0
    by_cases hb : T0 = [] ∧ T1 = []
    · have n0 : ((T0.length : Int) == 0) = true := by rw [hb.1]; rfl
      have n1 : ((T1.length : Int) == 0) = true := by rw [hb.2]; rfl
      have HG0 : Hid (g = 0) := HGE.out hb
      clear hb
      go_wp2
      go_ret
      rw [HR0.out, HG0.out]
      exact ⟨rfl, HU1.out⟩
    · obtain ⟨hgo, hord⟩ := HOR.out hb
      have HGO : Hid _ := hgo
      have HORD : Hid _ := hord
      have hnot : ((T0.length : Int) == 0) = false ∨ (((T0.length : Int) == 0) = true ∧ ((T1.length : Int) == 0) = false) := by
        by_cases h0 : T0 = []
        · refine Or.inr ⟨by rw [h0]; rfl, ?_⟩
          have : ¬ T1.length = 0 := fun h1 => hb ⟨h0, HT'.out.1 h1⟩
          exact beq_eq_false_iff_ne.2 (by omega)
        · have : ¬ T0.length = 0 := fun h1 => h0 (HT.out.1 h1)
          exact Or.inl (beq_eq_false_iff_ne.2 (by omega))
      clear hgo hord HOR HGE hb HT HT'
      have hne : Nonempty (Ext w1) := ⟨⟨w1, Upd.refl [] w1⟩⟩
      have u0 : ∀ n : Ext w1, n.W.cell? ⟨w.heap.size, 0, none⟩ = some (.int .u8 7) := fun n => n.cell (tb2.cell 0)
      have u1 : ∀ n : Ext w1, n.W.cell? ⟨w.heap.size, 1, none⟩ = some (.bool neg0) := fun n => n.cell (tb2.cell 1)
      have u2 : ∀ n : Ext w1, n.W.cell? ⟨w.heap.size, 2, none⟩ = some (.slice a0 L0.length c0) := fun n => n.cell (tb2.cell 2)
      have u3 : ∀ n : Ext w1, n.W.cell? ⟨w.heap.size, 3, none⟩ = some (.string s0) := fun n => n.cell (tb2.cell 3)
      have u4 : ∀ n : Ext w1, n.W.cell? ⟨w.heap.size, 4, none⟩ = some (.int .i64 num0) := fun n => n.cell (tb2.cell 4)
      have u5 : ∀ n : Ext w1, n.W.cell? ⟨w.heap.size, 5, none⟩ = some (.slice ai0 I0.length ci0) := fun n => n.cell (tb2.cell 5)
      have u6 : ∀ n : Ext w1, n.W.cell? ⟨w.heap.size, 6, none⟩ = some (.slice at0 T0.length ct0) := fun n => n.cell (tb2.cell 6)
      have v0 : ∀ n : Ext w1, n.W.cell? ⟨w.heap.size + 1, 0, none⟩ = some (.int .u8 7) := fun n => n.cell (tb3.cell 0)
      have v1 : ∀ n : Ext w1, n.W.cell? ⟨w.heap.size + 1, 1, none⟩ = some (.bool neg1) := fun n => n.cell (tb3.cell 1)
      have v2 : ∀ n : Ext w1, n.W.cell? ⟨w.heap.size + 1, 2, none⟩ = some (.slice a1 L1.length c1) := fun n => n.cell (tb3.cell 2)
      have v3 : ∀ n : Ext w1, n.W.cell? ⟨w.heap.size + 1, 3, none⟩ = some (.string s1) := fun n => n.cell (tb3.cell 3)
      have v4 : ∀ n : Ext w1, n.W.cell? ⟨w.heap.size + 1, 4, none⟩ = some (.int .i64 num1) := fun n => n.cell (tb3.cell 4)
      have v5 : ∀ n : Ext w1, n.W.cell? ⟨w.heap.size + 1, 5, none⟩ = some (.slice ai1 I1.length ci1) := fun n => n.cell (tb3.cell 5)
      have v6 : ∀ n : Ext w1, n.W.cell? ⟨w.heap.size + 1, 6, none⟩ = some (.slice at1 T1.length ct1) := fun n => n.cell (tb3.cell 6)
      have HXN : Hid (∀ n : Ext w1, Calls Tryz.prog 64 #[.agg #[.int .u8 7, .bool neg0, .slice a0 L0.length c0, .string s0, .int .i64 num0, .slice ai0 I0.length ci0, .slice at0 T0.length ct0]] n.W fun e w' => e = .returned (.agg X.toArray) ∧ Upd [] n.W w') := fun n => HXC.out _ (HU1.out.trans n.h)
      have HYN : Hid (∀ n : Ext w1, Calls Tryz.prog 64 #[.agg #[.int .u8 7, .bool neg1, .slice a1 L1.length c1, .string s1, .int .i64 num1, .slice ai1 I1.length ci1, .slice at1 T1.length ct1]] n.W fun e w' => e = .returned (.agg Y.toArray) ∧ Upd [] n.W w') := fun n => HYC.out _ (HU1.out.trans n.h)
      have HZN : Hid (∀ n : Ext w1, Calls Tryz.prog 20 #[.agg X.toArray, .agg Y.toArray] n.W fun e w' => e = .returned (.int .i64 (ordT (T0.headD nilT) (T1.headD nilT))) ∧ Upd [] n.W w') := fun n => HORD.out _ (HU1.out.trans n.h)
      obtain ⟨z, hz⟩ : ∃ z, z = ordT (T0.headD nilT) (T1.headD nilT) := ⟨_, rfl⟩
      obtain ⟨X1, hX1⟩ : ∃ X1, X1 = X.toArray := ⟨_, rfl⟩
      obtain ⟨Y1, hY1⟩ : ∃ Y1, Y1 = Y.toArray := ⟨_, rfl⟩
      rw [← hz] at HZN HGO
      rw [← hX1] at HXN HZN
      rw [← hY1] at HYN HZN
      clear hz hX1 hY1 HXC HYC HORD
      rcases hnot with n0 | ⟨n0, n1⟩
      all_goals
        go_wp2_with fail
        refine wp_region_ext (by kernel_rfl) (by kernel_rfl) ?_
        repeat (go_big_quiet_step (first | (go_at_call_of 64 (Value.slice ai0 I0.length ci0); exact Ext.call (HXN.out _)) | (go_at_call_of 64 (Value.slice ai1 I1.length ci1); exact Ext.call (HYN.out _)) | (go_at_call 20; exact Ext.call (HZN.out _))))
        refine wpQuiet_nil ?_
        intro _ hw'
        obtain ⟨nx, hw''⟩ := hw'
        subst hw''
        go_wp2
        go_ret
        rw [HR0.out, HGO.out]
        exact ⟨by rw [th_z]; rfl, HU1.out.trans nx.h⟩
  · have hrb : (r != 0) = true := by simp [hr0]
    have HR0 : Hid (¬ r = 0) := hr0
    clear hr0
    go_wp2
    go_ret
    unfold th
    rw [if_neg HR0.out]
    exact ⟨rfl, HU1.out⟩

end Go.Proofs.YtnpocmhaoaigfaaGreatDoor
