/- fresh: the walk. -/
import Derived.Test.YtalhbbabijlngaaGreatDoorJAH
import Derived.Deep.LoopGhost
import Derived.Deep.RegionHeld3
namespace Go.Proofs.YtalhbbabijlngaaGreatDoor
open Go.RowKit
set_option maxHeartbeats 4000000 in
set_option maxRecDepth 100000 in
theorem cloning_any (w : World) : Calls Tryz.prog 83 #[] w fun e w' => e = .returned (.func (.func 138) #[] #[.pointer (some ⟨w.heap.size, 0, none⟩), .pointer (some ⟨w.heap.size + 1, 0, none⟩)]) ∧ IntB w' w.heap.size 65536 ∧ Upd [] w w' := by
 have h1 : IntB (w.alloc (.cells #[.int .i64 65536] 3)) w.heap.size 65536 := IntB.new _ _ _ rfl
 have HB : Hid (IntB _ _ _) := h1
 clear h1
 go_enter Tryz.func83, Tryz.ntmps83
 go_wp2
 go_ret
 exact ⟨rfl, HB.out.mono ((Upd.refl [] _).alloc _) (by simp), ((Upd.refl [] w).alloc _).alloc _⟩
structure RowsT (B : Nat) (w : World) (d : Nat) (l : List RowV) (J : List Tm) : Prop where
 len : sumN l = J.length
 cells : ∀ i (hi : i < J.length), ∃ cs : List Value, cs.length = 7 ∧ (∀ j, j < 7 → (catX l)[i * 7 + j]? = cs[j]?) ∧ InB (fun b => b < B) w d cs J[i]
theorem ownsRow_take {w : World} {base : Nat} {T : TypeId} {a : Option Addr} {c : Nat} {ys : List Value} {y : Value} (h : w.ownsRow base T 1 (.slice a (ys ++ [y]).length c) (ys ++ [y]).length (ys ++ [y])) : w.ownsRow base T 1 (.slice a ys.length c) ys.length ys ∧ ∃ g, a = some ⟨g, 0, none⟩ ∧ (ys ++ [y]).length ≤ c ∧ w.cell? ⟨g, ys.length, none⟩ = some y := by
 have h' := h
 obtain ⟨h0, ⟨_, h1⟩ | ⟨g, cap, cur, e, hb, hh, hc1, hc2, hcs, htk⟩⟩ := h
 ·simp at h1
 ·cases e
  refine ⟨⟨by simp, Or.inr ⟨g, c, cur, rfl, hb, hh, by simp at hc1; omega, hc2, hcs, ?_⟩⟩, g, rfl, hc1, ?_⟩
  ·have : (cur.toList.take ((ys ++ [y]).length * 1)).take (ys.length * 1) = ys := by rw [htk]; simp
   rw [List.take_take, Nat.min_eq_left (by simp)] at this
   exact this
  ·rw [World.ownsRow.cellAt h' ys.length (by simp)]
   simp
end Go.Proofs.YtalhbbabijlngaaGreatDoor
namespace Go.Proofs.YtalhbbabijlngaaGreatDoor
open Go.RowKit
def TermP (B : Nat) (w : World) (d : Nat) (t : Tm) (e : Ending) (w' : World) : Prop := ∃ cs : List Value, cs.length = 7 ∧ e = .returned (.agg cs.toArray) ∧ InB (fun b => b < B ∨ w.heap.size ≤ b) w' d cs t ∧ Upd [] w w'
theorem RowB.plain {P : Nat → Prop} {w : World} {d : Nat} {a : Option Addr} {I : List Tm} (h : RowB P (InB P w d) w a I) : RowAt (In w d) w a I := by
 rcases h with h | ⟨b, o, e, _, hlt, hc⟩
 ·exact Or.inl h
 ·refine Or.inr ⟨b, o, e, hlt, fun i hi => ?_⟩
  obtain ⟨cs, k1, k2, k3⟩ := hc i hi
  exact ⟨cs, k1, k2, InB.plain _ _ _ k3⟩
theorem RowB.rd {R : List Value → Tm → Prop} {P : Nat → Prop} {w : World} {a : Option Addr} {I : List Tm} (hone : ∀ cs t, R cs t → ∀ u ∈ cs, u.oneCell' = true) (h : RowB P R w a I) : ∃ xs, Rd w a I.length 7 xs ∧ ∀ i (hi : i < I.length), ∃ cs : List Value, cs.length = 7 ∧ (∀ j, j < 7 → xs[i * 7 + j]? = cs[j]?) ∧ R cs I[i] := by
 by_cases h0 : I = []
 ·subst h0
  exact ⟨[], ⟨rfl, fun _ => rfl, fun u hu => by simp at hu, fun ad _ j u hj => by simp at hj⟩, fun i hi => by simp at hi⟩
 rcases h with h | ⟨b, o, rfl, _, hlt, hc⟩
 ·exact absurd h h0
 have key : ∀ n, n ≤ I.length → ∃ xs : List Value, xs.length = n * 7 ∧ (∀ j u, xs[j]? = some u → w.cell? ⟨b, o + j, none⟩ = some u) ∧ (∀ u ∈ xs, u.oneCell' = true) ∧ ∀ i (hi : i < I.length), i < n → ∃ cs : List Value, cs.length = 7 ∧ (∀ j, j < 7 → xs[i * 7 + j]? = cs[j]?) ∧ R cs I[i] := by
  intro n
  induction n with
  | zero => intro _; exact ⟨[], rfl, fun j u hj => by simp at hj, fun u hu => by simp at hu, fun i _ hi => by omega⟩
  | succ n ih =>
   intro hn
   obtain ⟨xs, h1, h2, h3, h4⟩ := ih (by omega)
   obtain ⟨cs, k1, k2, k3⟩ := hc n (by omega)
   refine ⟨xs ++ cs, by rw [List.length_append, h1, k1]; omega, fun j u hj => ?_, fun u hu => ?_, fun i hi hin => ?_⟩
   ·by_cases hjx : j < xs.length
    ·rw [List.getElem?_append_left hjx] at hj; exact h2 j u hj
    ·rw [List.getElem?_append_right (by omega)] at hj
     have hj7 : j - xs.length < 7 := by
      have := (List.getElem?_eq_some_iff.1 hj).1
      omega
     have := k2 (j - xs.length) hj7
     rw [hj] at this
     have e : o + (n * 7 + (j - xs.length)) = o + j := by omega
     rw [e] at this
     exact this
   ·rcases List.mem_append.1 hu with hu | hu
    ·exact h3 u hu
    ·exact hone _ _ k3 u hu
   ·by_cases hi2 : i < n
    ·obtain ⟨cs2, m1, m2, m3⟩ := h4 i hi hi2
     exact ⟨cs2, m1, fun j hj => by rw [List.getElem?_append_left (by omega)]; exact m2 j hj, m3⟩
    ·have e : i = n := by omega
     subst e
     exact ⟨cs, k1, fun j hj => by rw [List.getElem?_append_right (by omega)]; congr 1; omega, k3⟩
 obtain ⟨xs, h1, h2, h3, h4⟩ := key I.length (Nat.le_refl _)
 refine ⟨xs, ⟨h1, fun e => (by cases e), h3, fun ad e j u hj => ?_⟩, fun i hi => h4 i hi hi⟩
 cases e
 rw [Addr.add_lit]
 exact h2 j u hj
theorem InB.one {P : Nat → Prop} {w : World} {d : Nat} (cs : List Value) (t : Tm) (h : InB P w d cs t) : ∀ u ∈ cs, u.oneCell' = true := by
 have := (InB.plain _ _ _ h).one
 simp only [List.all_toArray, List.all_eq_true] at this
 exact this
theorem Tb.row {R : List Value → Tm → Prop} {w : World} {g : Nat} {cs : List Value} {t : Tm} (h : Tb w g cs.toArray) (h7 : cs.length = 7) (hin : R cs t) : RowB (fun _ => True) R w (some ⟨g, 0, none⟩) [t] :=
 Or.inr ⟨g, 0, rfl, trivial, h.lt, fun i hi => by
  have e : i = 0 := by simp at hi; exact hi
  subst e
  exact ⟨cs, h7, fun j hj => by rw [Nat.zero_mul, Nat.zero_add, Nat.zero_add, h.cell j]; simp, hin⟩⟩
theorem In.len {w : World} {d : Nat} {cs : List Value} {t : Tm} (h : In w d cs t) : cs.length = 7 := by have := h.seven; simpa using this
end Go.Proofs.YtalhbbabijlngaaGreatDoor
namespace Go.Proofs.YtalhbbabijlngaaGreatDoor
open Go.RowKit
theorem RowB.drop {P : Nat → Prop} {R : List Value → Tm → Prop} {w : World} {b o : Nat} {I : List Tm} (h : RowB P R w (some ⟨b, o, none⟩) I) (k : Nat) : RowB P R w (some ⟨b, o + k * 7, none⟩) (I.drop k) := by
 by_cases h0 : I.drop k = []
 ·exact Or.inl h0
 rcases h with h | ⟨b', o', e, hp, hlt, hc⟩
 ·rw [h] at h0; simp at h0
 ·cases e
  refine Or.inr ⟨b, o + k * 7, rfl, hp, hlt, fun i hi => ?_⟩
  rw [List.length_drop] at hi
  obtain ⟨cs, k1, k2, k3⟩ := hc (k + i) (by omega)
  refine ⟨cs, k1, fun j hj => ?_, by rw [List.getElem_drop]; exact k3⟩
  have e : o + k * 7 + (i * 7 + j) = o + ((k + i) * 7 + j) := by rw [Nat.add_mul]; omega
  rw [e]; exact k2 j hj
def Pl (B lo : Nat) (b : Nat) : Prop := b < B ∨ lo ≤ b
theorem RowT.weak {B lo lo' : Nat} {w : World} {d : Nat} {a : Option Addr} {I : List Tm} (h : RowT (B, lo) w d a I) (hl : lo' ≤ lo) : RowB (Pl B lo') (InB (Pl B lo') w d) w a I := by
 have hp : ∀ b, Ty (B, lo) w b → Pl B lo' b := fun b hb => by
  rcases hb with hb | ⟨hb, _⟩
  ·exact Or.inl hb
  ·exact Or.inr (Nat.le_trans hl hb)
 rcases h with h | ⟨b, o, e, hb, hlt, hc⟩
 ·exact Or.inl h
 ·refine Or.inr ⟨b, o, e, hp b hb, hlt, fun i hi => ?_⟩
  obtain ⟨cs, k1, k2, k3⟩ := hc i hi
  exact ⟨cs, k1, k2, InB.upd (Upd.refl [] w) (by simp) (fun b hb _ => hp b hb) _ _ _ k3⟩
theorem RowB.upd {P Q : Nat → Prop} {S : List Nat} {w w' : World} {d : Nat} {a : Option Addr} {I : List Tm} (hu : Upd S w w') (hS : ∀ b, P b → b ∉ S) (hPQ : ∀ b, P b → b < w.heap.size → Q b) (h : RowB P (InB P w d) w a I) : RowB Q (InB Q w' d) w' a I := by
 rcases h with h | ⟨b, o, e, hb, hlt, hc⟩
 ·exact Or.inl h
 ·refine Or.inr ⟨b, o, e, hPQ b hb hlt, Nat.lt_of_lt_of_le hlt hu.size, fun i hi => ?_⟩
  obtain ⟨cs, k1, k2, k3⟩ := hc i hi
  exact ⟨cs, k1, fun j hj => (hu.cell (p := ⟨b, o + (i * 7 + j), none⟩) hlt (hS b hb)).trans (k2 j hj), InB.upd hu hS hPQ _ _ _ k3⟩
theorem nw0 (W : World) (v : Value) (T : TypeId) : (W.alloc (.cells #[v] T)).cell? ⟨W.heap.size, 0, none⟩ = some v := (FunB.new W v T _ rfl).cell
theorem nw0l (W : World) (v : Value) (T : TypeId) : W.heap.size < (W.alloc (.cells #[v] T)).heap.size := (FunB.new W v T _ rfl).lt
theorem nw1 (W : World) (v u : Value) (T U : TypeId) : ((W.alloc (.cells #[v] T)).alloc (.cells #[u] U)).cell? ⟨W.heap.size, 0, none⟩ = some v := ((FunB.new W v T _ rfl).mono ((Upd.refl [] _).alloc _) (by simp)).cell
theorem nw1l (W : World) (v u : Value) (T U : TypeId) : W.heap.size < ((W.alloc (.cells #[v] T)).alloc (.cells #[u] U)).heap.size := ((FunB.new W v T _ rfl).mono ((Upd.refl [] _).alloc (.cells #[u] U)) (by simp)).lt
theorem nw2 (W : World) (v u : Value) (T U : TypeId) : ((W.alloc (.cells #[v] T)).alloc (.cells #[u] U)).cell? ⟨W.heap.size + 1, 0, none⟩ = some u := (FunB.new (W.alloc (.cells #[v] T)) u U _ (by simp)).cell
theorem nw2l (W : World) (v u : Value) (T U : TypeId) : W.heap.size + 1 < ((W.alloc (.cells #[v] T)).alloc (.cells #[u] U)).heap.size := (FunB.new (W.alloc (.cells #[v] T)) u U (W.heap.size + 1) (by simp)).lt
theorem list_end (B lo d g n3 c3 n4 c4 : Nat) (a3 a4 : Option Addr) (I T : List Tm) (w w4 : World) (e3 : n3 = I.length) (e4 : n4 = T.length) (hg0 : w.heap.size ≤ g) (hg : g < lo) (hB : B ≤ w.heap.size) (hu : Upd [] w w4) (ht : Tb w4 g #[.int .u8 0, .bool false, .slice none 0 0, .string ⟨#[]⟩, .int .i64 0, .slice none 0 0, .slice none 0 0]) (hI : RowB (Pl B lo) (InB (Pl B lo) w4 d) w4 a3 I) (hT : RowB (Pl B lo) (InB (Pl B lo) w4 d) w4 a4 T) :
  ∃ W5, W5 = ((((((w4.setCell ⟨g, 0, none⟩ (.int .u8 7)).setCell ⟨g, 1, none⟩ (.bool false)).setCell ⟨g, 2, none⟩ (.slice none 0 0)).setCell ⟨g, 3, none⟩ (.string ⟨#[]⟩)).setCell ⟨g, 4, none⟩ (.int .i64 0)).setCell ⟨g, 5, none⟩ (.slice a3 n3 c3)).setCell ⟨g, 6, none⟩ (.slice a4 n4 c4) ∧ Tb W5 g #[.int .u8 7, .bool false, .slice none 0 0, .string ⟨#[]⟩, .int .i64 0, .slice a3 n3 c3, .slice a4 n4 c4] ∧ InB (fun b => b < B ∨ w.heap.size ≤ b) W5 (d + 1) [.int .u8 7, .bool false, .slice none 0 0, .string ⟨#[]⟩, .int .i64 0, .slice a3 n3 c3, .slice a4 n4 c4] (.mk 7 0 false [] ⟨#[]⟩ I T) ∧ Upd [] w W5 := by
 subst e3 e4
 have t1 : Tb (w4.setCell ⟨g, 0, none⟩ (.int .u8 7)) g #[.int .u8 7, .bool false, .slice none 0 0, .string ⟨#[]⟩, .int .i64 0, .slice none 0 0, .slice none 0 0] := ht.set 0 _
 have u1 : Upd [g] w4 (w4.setCell ⟨g, 0, none⟩ (.int .u8 7)) := (Upd.refl [g] w4).setCell (Or.inr (by simp)) _
 obtain ⟨x1, h1⟩ : ∃ x, x = w4.setCell ⟨g, 0, none⟩ (.int .u8 7) := ⟨_, rfl⟩
 rw [← h1] at t1 u1 ⊢
 have t2 : Tb (x1.setCell ⟨g, 1, none⟩ (.bool false)) g #[.int .u8 7, .bool false, .slice none 0 0, .string ⟨#[]⟩, .int .i64 0, .slice none 0 0, .slice none 0 0] := t1.set 1 _
 have u2 := u1.setCell (p := ⟨g, 1, none⟩) (Or.inr (by simp)) (.bool false)
 obtain ⟨x2, h2⟩ : ∃ x, x = x1.setCell ⟨g, 1, none⟩ (.bool false) := ⟨_, rfl⟩
 rw [← h2] at t2 u2 ⊢
 have t3 : Tb (x2.setCell ⟨g, 2, none⟩ (.slice none 0 0)) g #[.int .u8 7, .bool false, .slice none 0 0, .string ⟨#[]⟩, .int .i64 0, .slice none 0 0, .slice none 0 0] := t2.set 2 _
 have u3 := u2.setCell (p := ⟨g, 2, none⟩) (Or.inr (by simp)) (.slice none 0 0)
 obtain ⟨x3, h3⟩ : ∃ x, x = x2.setCell ⟨g, 2, none⟩ (.slice none 0 0) := ⟨_, rfl⟩
 rw [← h3] at t3 u3 ⊢
 have t4 : Tb (x3.setCell ⟨g, 3, none⟩ (.string ⟨#[]⟩)) g #[.int .u8 7, .bool false, .slice none 0 0, .string ⟨#[]⟩, .int .i64 0, .slice none 0 0, .slice none 0 0] := t3.set 3 _
 have u4 := u3.setCell (p := ⟨g, 3, none⟩) (Or.inr (by simp)) (.string ⟨#[]⟩)
 obtain ⟨x4, h4⟩ : ∃ x, x = x3.setCell ⟨g, 3, none⟩ (.string ⟨#[]⟩) := ⟨_, rfl⟩
 rw [← h4] at t4 u4 ⊢
 have t5 : Tb (x4.setCell ⟨g, 4, none⟩ (.int .i64 0)) g #[.int .u8 7, .bool false, .slice none 0 0, .string ⟨#[]⟩, .int .i64 0, .slice none 0 0, .slice none 0 0] := t4.set 4 _
 have u5 := u4.setCell (p := ⟨g, 4, none⟩) (Or.inr (by simp)) (.int .i64 0)
 obtain ⟨x5, h5⟩ : ∃ x, x = x4.setCell ⟨g, 4, none⟩ (.int .i64 0) := ⟨_, rfl⟩
 rw [← h5] at t5 u5 ⊢
 have t6 : Tb (x5.setCell ⟨g, 5, none⟩ (.slice a3 I.length c3)) g #[.int .u8 7, .bool false, .slice none 0 0, .string ⟨#[]⟩, .int .i64 0, .slice a3 I.length c3, .slice none 0 0] := t5.set 5 _
 have u6 := u5.setCell (p := ⟨g, 5, none⟩) (Or.inr (by simp)) (.slice a3 I.length c3)
 obtain ⟨x6, h6⟩ : ∃ x, x = x5.setCell ⟨g, 5, none⟩ (.slice a3 I.length c3) := ⟨_, rfl⟩
 rw [← h6] at t6 u6 ⊢
 have t7 : Tb (x6.setCell ⟨g, 6, none⟩ (.slice a4 T.length c4)) g #[.int .u8 7, .bool false, .slice none 0 0, .string ⟨#[]⟩, .int .i64 0, .slice a3 I.length c3, .slice a4 T.length c4] := t6.set 6 _
 have u7 := u6.setCell (p := ⟨g, 6, none⟩) (Or.inr (by simp)) (.slice a4 T.length c4)
 have hS : ∀ b, Pl B lo b → b ∉ [g] := fun b hb hm => by
  simp at hm; subst hm
  rcases hb with hb | hb <;> omega
 have hPQ : ∀ b, Pl B lo b → b < w4.heap.size → (b < B ∨ w.heap.size ≤ b) := fun b hb _ => by
  rcases hb with hb | hb
  ·exact Or.inl hb
  ·exact Or.inr (by omega)
 exact ⟨_, rfl, t7, ⟨none, a3, a4, 0, c3, c4, rfl, Or.inl rfl, Dig.nil, RowB.upd u7 hS hPQ hI, RowB.upd u7 hS hPQ hT⟩, hu.then u7 (by simp; exact hg0)⟩
theorem belR_drop1 (I : List Tm) : belR (I.drop 1) ≤ belR I := by
 cases I with
 | nil => simp
 | cons t r => simp only [List.drop_succ_cons, List.drop_zero, belR]; omega
theorem tszs_drop (I : List Tm) (k : Nat) : tszs (I.drop k) ≤ tszs I := by
 induction I generalizing k with
 | nil => simp
 | cons t r ih =>
  cases k with
  | zero => simp
  | succ k => simp only [List.drop_succ_cons, tszs]; have := ih k; omega
end Go.Proofs.YtalhbbabijlngaaGreatDoor
