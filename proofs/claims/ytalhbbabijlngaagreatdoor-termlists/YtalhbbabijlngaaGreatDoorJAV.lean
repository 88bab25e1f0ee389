/- Rows of whatever cells, each in a block of its own: what is stored in them, what is appended. -/
import Derived.Test.YtalhbbabijlngaaGreatDoorJAM
import Derived.Test.YtalhbbabijlngaaGreatDoorJAG
import Derived.Test.YtalhbbabijlngaaGreatDoorJAB
import Derived.Test.YtalhbbabijlngaaGreatDoorJAH
import Derived.Test.YtalhbbabijlngaaGreatDoorJAI
import Derived.Deep.LoopGhost
namespace Go.Proofs.YtalhbbabijlngaaGreatDoor
open Go.RowKit
def RowG (w : World) (sz : Nat) (v : Value) (n : Nat) : Prop :=
 (v = .slice none 0 0 ∧ n = 0) ∨ ∃ g cap, v = .slice (some ⟨g, 0, none⟩) n cap ∧ g < w.heap.size ∧ n ≤ cap ∧ cap ≤ maxLen ∧ w.there g 0 (cap * sz)
def Hs (w : World) (sz : Nat) (v : Value) (p : Nat) (C : Nat → List Value) : Prop :=
 ∀ g l c, v = .slice (some ⟨g, 0, none⟩) l c → ∀ i j, i < p → j < sz → w.cell? ⟨g, i * sz + j, none⟩ = (C i)[j]?
theorem there_upd {S : List Nat} {w w' : World} {g o n : Nat} (h : w.there g o n) (hg : g < w.heap.size) (hu : Upd S w w') (hn : g ∉ S) : w'.there g o n := fun j hj => by
 have hb := hu.block g hg hn
 rw [hu.cell (p := ⟨g, o + j, none⟩) hg hn, World.frozen?_of_block (w := w) (a := ⟨g, o + j, none⟩) hb]
 exact h j hj
theorem RowG.upd {S : List Nat} {w w' : World} {sz n : Nat} {v : Value} (h : RowG w sz v n) (hu : Upd S w w') (hn : ∀ g, v.ownBlock = some g → g ∉ S) : RowG w' sz v n := by
 rcases h with h | ⟨g, cap, rfl, h1, h2, h3, h4⟩
 ·exact Or.inl h
 ·exact Or.inr ⟨g, cap, rfl, Nat.lt_of_lt_of_le h1 hu.size, h2, h3, there_upd h4 h1 hu (hn g rfl)⟩
theorem RowG.lt {w : World} {sz n : Nat} {v : Value} (h : RowG w sz v n) : ∀ g, v.ownBlock = some g → g < w.heap.size := by
 intro g hg
 rcases h with ⟨rfl, _⟩ | ⟨b, cap, rfl, h1, _⟩
 ·cases hg
 ·simp only [Value.ownBlock, Option.some.injEq] at hg
  subst hg; exact h1
theorem RowG.form {w : World} {sz n : Nat} {v : Value} (h : RowG w sz v n) : ∃ a c, v = .slice a n c ∧ n ≤ 9223372036854775807 := by
 rcases h with ⟨rfl, rfl⟩ | ⟨g, cap, rfl, _, h2, h3, _⟩
 ·exact ⟨none, 0, rfl, by omega⟩
 ·exact ⟨_, cap, rfl, by unfold maxLen at h3; omega⟩
theorem Hs.upd {S : List Nat} {w w' : World} {sz p n : Nat} {v : Value} {C : Nat → List Value} (h : Hs w sz v p C) (hr : RowG w sz v n) (hu : Upd S w w') (hn : ∀ g, v.ownBlock = some g → g ∉ S) : Hs w' sz v p C := by
 intro g l c e i j hi hj
 subst e
 rw [hu.cell (p := ⟨g, i * sz + j, none⟩) (hr.lt g rfl) (hn g rfl)]
 exact h g l c rfl i j hi hj
theorem Hs.less {w : World} {sz p q : Nat} {v : Value} {C : Nat → List Value} (h : Hs w sz v p C) (hq : q ≤ p) : Hs w sz v q C := fun g l c e i j hi hj => h g l c e i j (by omega) hj
theorem Hs.zero (w : World) (sz : Nat) (v : Value) (C : Nat → List Value) : Hs w sz v 0 C := fun _ _ _ _ i _ hi => by omega
theorem setCells_Upd (w : World) (g o : Nat) (vs : List Value) : Upd [g] w (w.setCells g o vs) := by
 have h := setCells_upd g vs o w
 exact ⟨h.os, h.tape, h.output, h.size, fun k hk hn => h.block k hk (fun e => hn (by simp at e; simp [e]))⟩
theorem there_set {w : World} {g o o' n : Nat} {vs : List Value} (h : w.there g o n) : (w.setCells g o' vs).there g o n := fun j hj => by
 refine ⟨World.isSome_setCells g _ _ _ _ (h j hj).1, ?_⟩
 rw [World.frozen?_setCells]; exact (h j hj).2
theorem RowG.set {w : World} {sz n g cap : Nat} (h : RowG w sz (.slice (some ⟨g, 0, none⟩) n cap) n) (o : Nat) (vs : List Value) : RowG (w.setCells g o vs) sz (.slice (some ⟨g, 0, none⟩) n cap) n := by
 rcases h with ⟨h, _⟩ | ⟨g2, cap2, e, h1, h2, h3, h4⟩
 ·cases h
 ·simp only [Value.slice.injEq, Option.some.injEq, Addr.mk.injEq, and_true, true_and] at e
  obtain ⟨rfl, rfl⟩ := e
  exact Or.inr ⟨g, cap, rfl, Nat.lt_of_lt_of_le h1 (setCells_Upd w g o vs).size, h2, h3, there_set h4⟩
theorem mul_room {i n sz : Nat} (h : i < n) : i * sz + sz ≤ n * sz := by
 have := Nat.mul_le_mul_right sz (show i + 1 ≤ n from h)
 rw [Nat.add_mul, Nat.one_mul] at this
 exact this
theorem RowG.room {w : World} {sz n g cap : Nat} (h : RowG w sz (.slice (some ⟨g, 0, none⟩) n cap) n) {i : Nat} (hi : i < n) : w.there g (i * sz) sz := by
 rcases h with ⟨h, _⟩ | ⟨g2, cap2, e, h1, h2, h3, h4⟩
 ·cases h
 ·simp only [Value.slice.injEq, Option.some.injEq, Addr.mk.injEq, and_true, true_and] at e
  obtain ⟨rfl, rfl⟩ := e
  intro j hj
  have := mul_room (sz := sz) (show i < cap by omega)
  have := h4 (i * sz + j) (by omega)
  rw [Nat.zero_add] at this
  exact this
theorem Hs.set {w : World} {sz n g cap : Nat} {C : Nat → List Value} {i : Nat} (h : Hs w sz (.slice (some ⟨g, 0, none⟩) n cap) i C) (hr : RowG w sz (.slice (some ⟨g, 0, none⟩) n cap) n) (hi : i < n) (hC : (C i).length = sz) :
  Hs (w.setCells g (i * sz) (C i)) sz (.slice (some ⟨g, 0, none⟩) n cap) (i + 1) C := by
 intro g2 l2 c2 e k j hk hj
 simp only [Value.slice.injEq, Option.some.injEq, Addr.mk.injEq, and_true] at e
 obtain ⟨rfl, _, _⟩ := e
 by_cases hki : k = i
 ·subst hki
  have ht := hr.room hi
  rw [World.cell?_setCells_in g (C k) (k * sz) w (fun a ha => (ht a (by omega)).1) j (by omega)]
  exact (List.getElem?_eq_getElem (by omega)).symm
 ·have := mul_room (sz := sz) (show k < i by omega)
  rw [World.cell?_setCells_out g _ _ _ _ (fun a _ => Or.inl (show k * sz + j < i * sz by omega))]
  exact h g n cap rfl k j (by omega) hj
structure Grew (sz : Nat) (w w' : World) (v : Value) (n : Nat) (g' : Nat) : Prop where
 upd : Upd [g'] w w'
 room : ∀ g k, g < w.heap.size → w.there g 0 k → w'.there g 0 k
 at' : v.ownBlock = some g' ∨ g' = w.heap.size
 old : ∀ g l c, v = .slice (some ⟨g, 0, none⟩) l c → ∀ j, j < n * sz → w'.cell? ⟨g, j, none⟩ = w.cell? ⟨g, j, none⟩
 new : ∀ g l c, v = .slice (some ⟨g, 0, none⟩) l c → ∀ j, j < n * sz → w'.cell? ⟨g', j, none⟩ = w.cell? ⟨g, j, none⟩
theorem cellAt_new (w : World) (cs : Array Value) (t : TypeId) (j : Nat) : (w.drew.alloc (.cells cs t)).cell? ⟨w.heap.size, j, none⟩ = cs[j]? := by
 have hb : (w.drew.alloc (.cells cs t)).heap[w.heap.size]? = some (.cells cs t (0, 0)) := heap_alloc_new w.drew _
 exact cell_of_row _ _ _ _ _ _ hb
theorem there_new (w : World) (cs : Array Value) (t : TypeId) (n : Nat) (h : n ≤ cs.size) : (w.drew.alloc (.cells cs t)).there w.heap.size 0 n := fun j hj => by
 have hb : (w.drew.alloc (.cells cs t)).heap[w.heap.size]? = some (.cells cs t (0, 0)) := heap_alloc_new w.drew _
 refine ⟨?_, frozen_of_row _ _ _ _ _ hb⟩
 rw [cell_of_row _ _ _ _ _ _ hb, Nat.zero_add, Array.getElem?_eq_getElem (by omega)]
 rfl
theorem set_room (w : World) (g o : Nat) (vs : List Value) (g2 k : Nat) (hg : g2 < w.heap.size) (hk : w.there g2 0 k) : (w.setCells g o vs).there g2 0 k := by
 by_cases he : g2 = g
 ·rw [he] at hk ⊢; exact there_set hk
 ·exact there_upd hk hg (setCells_Upd w g _ _) (by simpa using he)
set_option maxRecDepth 10000 in
theorem run_appendG {t ty e : TypeId} {i : TypeInfo} {z : Value} {sz bytes : Nat} (ht : Tryz.prog.underlying t = some (.slice e)) (hi : Tryz.prog.info? e = some i) (hz : i.zero = some z) (hsize : i.size = sz) (hby : i.bytes = bytes) (hzs : z.cells.size = sz)
  {w : World} {v : Value} {n : Nat} (h : RowG w sz v n) (a : Addr) (m c : Nat) (news : List Value) (hl : news.length = m * sz) (hnews : ∀ j u, news[j]? = some u → w.cell? (a.add j) = some u) (h1 : ∀ u ∈ news, u.oneCell' = true)
  (hm : 0 < m) (h63 : n + m ≤ 1000000000000000) (hbytes : (n + m) * bytes ≤ 140737488355328) :
  ∃ g' cap' w', (Builtin.append_ #[t, t] ty #[v, .slice (some a) m c]).run Tryz.prog w = .ok (.slice (some ⟨g', 0, none⟩) (n + m) cap') w' ∧ RowG w' sz (.slice (some ⟨g', 0, none⟩) (n + m) cap') (n + m) ∧ Grew sz w w' v n g' ∧
   ∀ j, j < m * sz → w'.cell? ⟨g', n * sz + j, none⟩ = news[j]? := by
 subst hsize
 subst hby
 have hbb : (n + m) * i.bytes ≤ 140737488355328 := hbytes
 rcases h with ⟨rfl, rfl⟩ | ⟨g, cap, rfl, h2, h3, h4, h5⟩
 ·have hr := run_append_nil (P := Tryz.prog) w t ty e i z ht hi hz a m c news hl hnews (by omega) (by omega) (by have hb := hbb; simp only [Nat.zero_add] at hb; omega)
  have hge := grownCap_ge w m 0 e
  have hcm : grownCap w m 0 e ≤ maxLen := grownCap_le_maxLen w m 0 e (by unfold maxLen; omega)
  have hcs : (news.toArray ++ Builtin.zeroCells z.cells (grownCap w m 0 e - m)).size = grownCap w m 0 e * i.size := by
   simp only [Array.size_append, List.size_toArray, size_zeroCells, hzs, hl, ← Nat.add_mul]
   congr 1; omega
  rw [Nat.zero_add]
  refine ⟨_, _, _, hr, Or.inr ⟨_, _, rfl, by simp, hge, hcm, there_new w _ _ _ (by rw [hcs]; exact Nat.le_refl _)⟩, ⟨⟨rfl, rfl, rfl, by simp, fun k hk _ => Below.heap_alloc w.drew _ k hk⟩, fun g k hg hk => there_upd (S := []) hk hg ((Upd.refl [] w).drew.alloc _) (by simp), Or.inr rfl, fun g l c e => (by cases e), fun g l c e => (by cases e)⟩, fun j hj => ?_⟩
  rw [Nat.zero_mul, Nat.zero_add, cellAt_new, Array.getElem?_append_left (by simp; omega)]
  simp
 ·by_cases hroom : n + m ≤ cap
  ·have hfit : n * i.size + news.length ≤ cap * i.size := by rw [hl, ← Nat.add_mul]; exact Nat.mul_le_mul_right _ hroom
   have hr := run_append_room_cells (P := Tryz.prog) w t ty e i ht hi g 0 n cap a m c news hl hnews h1 hroom
    (fun j hj => by have := (h5 (n * i.size + j) (by omega)).1; rw [Nat.zero_add] at this ⊢; exact this) (fun j hj => by have := (h5 (n * i.size + j) (by omega)).2; rw [Nat.zero_add] at this ⊢; exact this)
   rw [Nat.zero_add] at hr
   have hin : ∀ j, j < n * i.size → (w.setCells g (n * i.size) news).cell? ⟨g, j, none⟩ = w.cell? ⟨g, j, none⟩ := fun j hj => World.cell?_setCells_out g _ _ _ _ (fun a _ => Or.inl (show j < n * i.size by omega))
   refine ⟨_, _, _, hr, Or.inr ⟨g, cap, rfl, Nat.lt_of_lt_of_le h2 (setCells_Upd w g _ _).size, hroom, h4, there_set h5⟩, ⟨setCells_Upd w g _ _, fun g2 k hg hk => set_room w g _ _ g2 k hg hk, Or.inl rfl, fun g2 l2 c2 e j hj => ?_, fun g2 l2 c2 e j hj => ?_⟩, fun j hj => ?_⟩
   ·simp only [Value.slice.injEq, Option.some.injEq, Addr.mk.injEq, and_true] at e
    obtain ⟨rfl, _, _⟩ := e
    exact hin j hj
   ·simp only [Value.slice.injEq, Option.some.injEq, Addr.mk.injEq, and_true] at e
    obtain ⟨rfl, _, _⟩ := e
    exact hin j hj
   ·refine Eq.trans ?_ (List.getElem?_eq_getElem (show j < news.length by omega)).symm
    exact World.cell?_setCells_in g news (n * i.size) w (fun k hk => by have := (h5 (n * i.size + k) (by omega)).1; rw [Nat.zero_add] at this; exact this) j (by omega)
  ·have hnc : n * i.size ≤ cap * i.size := Nat.mul_le_mul_right _ h3
   obtain ⟨olds, hol, hoc⟩ : ∃ olds : List Value, olds.length = n * i.size ∧ ∀ j, j < n * i.size → w.cell? ⟨g, j, none⟩ = olds[j]? := by
    refine ⟨(List.range (n * i.size)).map (fun j => ((w.cell? ⟨g, j, none⟩).getD undef)), by simp, fun j hj => ?_⟩
    have hs := (h5 j (by omega)).1
    rw [Nat.zero_add] at hs
    obtain ⟨u, hu⟩ := Option.isSome_iff_exists.1 hs
    simp [hj, hu]
   have hr := run_append_grow (P := Tryz.prog) w t ty e i z ht hi hz ⟨g, 0, none⟩ n cap olds hol
    (fun j u hu => by
     have hj : j < n * i.size := by have := (List.getElem?_eq_some_iff.1 hu).1; omega
     rw [Addr.add_lit, Nat.zero_add, hoc j hj, hu]) a m c news hl hnews (by omega) (by omega) (growslice_fits (by omega) (by omega))
   have hge := grownCap_ge w (n + m) cap e
   have hcm : grownCap w (n + m) cap e ≤ maxLen := grownCap_le_maxLen w (n + m) cap e (by unfold maxLen; omega)
   have hcs : (olds.toArray ++ news.toArray ++ Builtin.zeroCells z.cells (grownCap w (n + m) cap e - (n + m))).size = grownCap w (n + m) cap e * i.size := by
    simp only [Array.size_append, List.size_toArray, size_zeroCells, hzs, hl, hol, ← Nat.add_mul]
    congr 1; omega
   have hnm : n * i.size + m * i.size = (n + m) * i.size := (Nat.add_mul _ _ _).symm
   refine ⟨_, _, _, hr, Or.inr ⟨_, _, rfl, by simp, hge, hcm, there_new w _ _ _ (by rw [hcs]; exact Nat.le_refl _)⟩, ⟨⟨rfl, rfl, rfl, by simp, fun k hk _ => Below.heap_alloc w.drew _ k hk⟩, fun g k hg hk => there_upd (S := []) hk hg ((Upd.refl [] w).drew.alloc _) (by simp), Or.inr rfl, fun g2 l2 c2 e j hj => ?_, fun g2 l2 c2 e j hj => ?_⟩, fun j hj => ?_⟩
   ·simp only [Value.slice.injEq, Option.some.injEq, Addr.mk.injEq, and_true] at e
    obtain ⟨rfl, _, _⟩ := e
    exact World.cell?_of_block (w := w) (a := ⟨g, j, none⟩) (Below.heap_alloc w.drew _ g h2)
   ·simp only [Value.slice.injEq, Option.some.injEq, Addr.mk.injEq, and_true] at e
    obtain ⟨rfl, _, _⟩ := e
    rw [cellAt_new, Array.append_assoc, Array.getElem?_append_left (by simp; omega), hoc j hj]
    simp
   ·rw [cellAt_new, Array.append_assoc, Array.getElem?_append_right (by simp; omega), Array.getElem?_append_left (by simp; omega)]
    simp only [List.size_toArray, hol, Nat.add_sub_cancel_left, List.getElem?_toArray]
theorem Grew.has {sz : Nat} {w w' : World} {v : Value} {n p l' c' : Nat} {g' : Nat} {C : Nat → List Value} (h : Grew sz w w' v n g') (hh : Hs w sz v p C) (hp : p ≤ n) (hr : RowG w sz v n) : Hs w' sz (.slice (some ⟨g', 0, none⟩) l' c') p C := by
 intro g2 l2 c2 e i j hi hj
 simp only [Value.slice.injEq, Option.some.injEq, Addr.mk.injEq, and_true] at e
 obtain ⟨rfl, _, _⟩ := e
 have hij : i * sz + j < n * sz := by have := mul_room (sz := sz) (show i < n by omega); omega
 rcases hr with ⟨rfl, rfl⟩ | ⟨g, cap, rfl, _⟩
 ·omega
 ·rw [h.new g n cap rfl _ hij]
  exact hh g n cap rfl i j hi hj
theorem Grew.kept {sz : Nat} {w w' : World} {v : Value} {n p : Nat} {g' : Nat} {C : Nat → List Value} (h : Grew sz w w' v n g') (hh : Hs w sz v p C) (hp : p ≤ n) : Hs w' sz v p C := by
 intro g l c e i j hi hj
 have hij : i * sz + j < n * sz := by have := mul_room (sz := sz) (show i < n by omega); omega
 rw [h.old g l c e _ hij]
 exact hh g l c e i j hi hj
theorem Grew.has1 {sz : Nat} {w w' : World} {v : Value} {n l' c' : Nat} {g' : Nat} {C : Nat → List Value} (h : Grew sz w w' v n g') (hh : Hs w sz v n C) (hr : RowG w sz v n) (hn : ∀ j, j < sz → w'.cell? ⟨g', n * sz + j, none⟩ = (C n)[j]?) : Hs w' sz (.slice (some ⟨g', 0, none⟩) l' c') (n + 1) C := by
 intro g2 l2 c2 e i j hi hj
 simp only [Value.slice.injEq, Option.some.injEq, Addr.mk.injEq, and_true] at e
 obtain ⟨rfl, _, _⟩ := e
 by_cases hin : i = n
 ·rw [hin]; exact hn j hj
 ·exact h.has (l' := l') (c' := c') hh (Nat.le_refl _) hr g' l' c' rfl i j (by omega) hj
theorem Grew.row {sz : Nat} {w w' : World} {v u : Value} {n m sz2 : Nat} {g' : Nat} (h : Grew sz w w' v n g') (hr : RowG w sz2 u m) : RowG w' sz2 u m := by
 rcases hr with hr | ⟨g, cap, rfl, h1, h2, h3, h4⟩
 ·exact Or.inl hr
 ·exact Or.inr ⟨g, cap, rfl, Nat.lt_of_lt_of_le h1 h.upd.size, h2, h3, h.room g _ h1 h4⟩
end Go.Proofs.YtalhbbabijlngaaGreatDoor
namespace Go.Proofs.YtalhbbabijlngaaGreatDoor
open Go.RowKit
structure Rs (w : World) (sz L m B : Nat) (v : Nat → Value) (n : Nat → Nat) : Prop where
 hB : B ≤ w.heap.size
 hL : L < B
 blk : ∀ j, j < m → w.cell? ⟨L, j, none⟩ = some (v j)
 row : ∀ j, j < m → RowG w sz (v j) (n j)
 own : ∀ j g, j < m → (v j).ownBlock = some g → g < B ∧ g ≠ L
 apart : ∀ i j g, i < m → j < m → i ≠ j → (v i).ownBlock = some g → (v j).ownBlock ≠ some g
theorem Rs.upd {S : List Nat} {w w' : World} {sz L m B : Nat} {v : Nat → Value} {n : Nat → Nat} (h : Rs w sz L m B v n) (hu : Upd S w w') (hS : ∀ x, x ∈ S → B ≤ x) : Rs w' sz L m B v n := by
 have hLS : L ∉ S := fun hm => by have := hS L hm; have := h.hL; omega
 refine ⟨Nat.le_trans h.hB hu.size, h.hL, fun j hj => ?_, fun j hj => (h.row j hj).upd hu (fun g hg hm => ?_), h.own, h.apart⟩
 ·rw [hu.cell (p := ⟨L, j, none⟩) (Nat.lt_of_lt_of_le h.hL h.hB) hLS]; exact h.blk j hj
 ·have := hS g hm; have := (h.own j g hj hg).1; omega
theorem Rs.raise {w : World} {sz L m B B' : Nat} {v : Nat → Value} {n : Nat → Nat} (h : Rs w sz L m B v n) (h1 : B ≤ B') (h2 : B' ≤ w.heap.size) : Rs w sz L m B' v n :=
 ⟨h2, Nat.lt_of_lt_of_le h.hL h1, h.blk, h.row, fun j g hj hg => ⟨Nat.lt_of_lt_of_le (h.own j g hj hg).1 h1, (h.own j g hj hg).2⟩, h.apart⟩
theorem Rs.form {w : World} {sz L m B : Nat} {v : Nat → Value} {n : Nat → Nat} (h : Rs w sz L m B v n) {k : Nat} (hk : k < m) {i : Nat} (hi : i < n k) : ∃ g cap, v k = .slice (some ⟨g, 0, none⟩) (n k) cap ∧ g < B ∧ g ≠ L := by
 rcases h.row k hk with ⟨_, h0⟩ | ⟨g, cap, hv, _⟩
 ·omega
 ·have := h.own k g hk (by rw [hv]; rfl)
  exact ⟨g, cap, hv, this.1, this.2⟩
theorem Rs.set {w : World} {sz L m B : Nat} {v : Nat → Value} {n : Nat → Nat} (h : Rs w sz L m B v n) {k : Nat} (hk : k < m) {g cap : Nat} (hv : v k = .slice (some ⟨g, 0, none⟩) (n k) cap) (o : Nat) (vs : List Value) : Rs (w.setCells g o vs) sz L m B v n := by
 have hu := setCells_Upd w g o vs
 have hg := h.own k g hk (by rw [hv]; rfl)
 refine ⟨Nat.le_trans h.hB hu.size, h.hL, fun j hj => ?_, fun j hj => ?_, h.own, h.apart⟩
 ·rw [hu.cell (p := ⟨L, j, none⟩) (Nat.lt_of_lt_of_le h.hL h.hB) (by simp; exact fun e => hg.2 e.symm)]; exact h.blk j hj
 ·by_cases hjk : j = k
  ·subst hjk
   have hr := h.row j hj
   rw [hv] at hr ⊢
   exact hr.set o vs
  ·exact (h.row j hj).upd hu (fun g2 hg2 hm => by
    simp at hm
    subst hm
    exact h.apart j k g2 hj hk hjk hg2 (by rw [hv]; rfl))
theorem Rs.hasOther {w : World} {sz L m B p : Nat} {v : Nat → Value} {n : Nat → Nat} {C : Nat → List Value} (h : Rs w sz L m B v n) {k j : Nat} (hk : k < m) (hj : j < m) (hjk : j ≠ k) {g cap : Nat} (hv : v k = .slice (some ⟨g, 0, none⟩) (n k) cap) (o : Nat) (vs : List Value) (hh : Hs w sz (v j) p C) : Hs (w.setCells g o vs) sz (v j) p C :=
 hh.upd (h.row j hj) (setCells_Upd w g o vs) (fun g2 hg2 hm => by
  simp at hm
  subst hm
  exact h.apart j k g2 hj hk hjk hg2 (by rw [hv]; rfl))
structure Ps (w : World) (sz L G m k B : Nat) (v u : Nat → Value) (n q : Nat → Nat) (C : Nat → Nat → List Value) : Prop where
 rs : Rs w sz L m B v n
 has : ∀ j, j < m → Hs w sz (v j) (n j) (C j)
 hG : G < B ∧ G ≠ L
 gown : ∀ j, j < m → (v j).ownBlock ≠ some G
 room : w.there G 0 m
 gs : ∀ j, j < k → w.cell? ⟨G, j, none⟩ = some (u j) ∧ Hs w sz (u j) (q j) (C j)
 ugs : ∀ j, j < k → ∃ g c, u j = .slice (some ⟨g, 0, none⟩) (n j + 64) c ∧ g < B ∧ g ≠ L ∧ g ≠ G ∧ ∀ i, i < m → i ≠ j → (v i).ownBlock ≠ some g
theorem Hs.uform {S : List Nat} {w w' : World} {sz p g l c : Nat} {C : Nat → List Value} (h : Hs w sz (.slice (some ⟨g, 0, none⟩) l c) p C) (hg : g < w.heap.size) (hu : Upd S w w') (hn : g ∉ S) : Hs w' sz (.slice (some ⟨g, 0, none⟩) l c) p C := by
 intro g2 l2 c2 e i j hi hj
 simp only [Value.slice.injEq, Option.some.injEq, Addr.mk.injEq, and_true] at e
 obtain ⟨rfl, _, _⟩ := e
 rw [hu.cell (p := ⟨g, i * sz + j, none⟩) hg hn]
 exact h g l c rfl i j hi hj
theorem Ps.far {S : List Nat} {w w' : World} {sz L G m k B : Nat} {v u : Nat → Value} {n q : Nat → Nat} {C : Nat → Nat → List Value} (h : Ps w sz L G m k B v u n q C) (hu : Upd S w w') (hS : ∀ x, x ∈ S → B ≤ x) : Ps w' sz L G m k B v u n q C := by
 have hGS : G ∉ S := fun hm => by have := hS G hm; have := h.hG.1; omega
 have hGl : G < w.heap.size := Nat.lt_of_lt_of_le h.hG.1 h.rs.hB
 refine ⟨h.rs.upd hu hS, fun j hj => (h.has j hj).upd (h.rs.row j hj) hu (fun g hg hm => ?_), h.hG, h.gown, there_upd h.room hGl hu hGS, fun j hj => ⟨?_, ?_⟩, h.ugs⟩
 ·have := hS g hm; have := (h.rs.own j g hj hg).1; omega
 ·rw [hu.cell (p := ⟨G, j, none⟩) hGl hGS]; exact (h.gs j hj).1
 ·obtain ⟨g, c, e, h1, _⟩ := h.ugs j hj
  have hh := (h.gs j hj).2
  rw [e] at hh ⊢
  exact hh.uform (Nat.lt_of_lt_of_le h1 h.rs.hB) hu (fun hm => by have := hS g hm; omega)
theorem Ps.grow {w w' : World} {sz L G m k B nx g' : Nat} {x : Value} {v u : Nat → Value} {n q : Nat → Nat} {C : Nat → Nat → List Value} (h : Ps w sz L G m k B v u n q C) (hk : k < m) (hg : Grew sz w w' x nx g') (hx : ∀ g, x.ownBlock = some g → (v k).ownBlock = some g ∨ B ≤ g) (hn : n k ≤ nx)
  (hx2 : ∀ g, (v k).ownBlock = some g → x.ownBlock = some g → ∃ l c, x = .slice (some ⟨g, 0, none⟩) l c) :
  Ps w' sz L G m k B v u n q C ∧ ((v k).ownBlock = some g' ∨ B ≤ g') := by
 have hgk : (v k).ownBlock = some g' ∨ B ≤ g' := by
  rcases hg.at' with h1 | h1
  ·exact hx g' h1
  ·exact Or.inr (by rw [h1]; exact h.rs.hB)
 have hgL : g' ≠ L := fun e => by
  rcases hgk with h1 | h1
  ·exact (h.rs.own k g' hk h1).2 e
  ·have := h.rs.hL; omega
 have hgG : g' ≠ G := fun e => by
  rcases hgk with h1 | h1
  ·exact h.gown k hk (by rw [h1, e])
  ·have := h.hG.1; omega
 have hoth : ∀ j, j < m → j ≠ k → ∀ g, (v j).ownBlock = some g → g ≠ g' := fun j hj hjk g hgj e => by
  subst e
  rcases hgk with h1 | h1
  ·exact h.rs.apart j k g hj hk hjk hgj h1
  ·have := (h.rs.own j g hj hgj).1; omega
 have hu := hg.upd
 have hLl : L < w.heap.size := Nat.lt_of_lt_of_le h.rs.hL h.rs.hB
 have hGl : G < w.heap.size := Nat.lt_of_lt_of_le h.hG.1 h.rs.hB
 refine ⟨⟨⟨Nat.le_trans h.rs.hB hu.size, h.rs.hL, fun j hj => ?_, fun j hj => hg.row (h.rs.row j hj), h.rs.own, h.rs.apart⟩, fun j hj => ?_, h.hG, h.gown, there_upd h.room hGl hu (by simpa using hgG.symm), fun j hj => ⟨?_, ?_⟩, h.ugs⟩, hgk⟩
 ·rw [hu.cell (p := ⟨L, j, none⟩) hLl (by simpa using hgL.symm)]; exact h.rs.blk j hj
 ·by_cases hjk : j = k
  ·subst hjk
   have hh := h.has j hj
   by_cases hown : (v j).ownBlock = some g'
   ·rcases hg.at' with h1 | h1
    ·obtain ⟨l, c, ex⟩ := hx2 g' hown h1
     intro g l2 c2 e a b ha hb
     have hgg : g = g' := by rw [e] at hown; simpa [Value.ownBlock] using hown
     subst hgg
     rw [hg.old g l c ex (a * sz + b) (by have := mul_room (sz := sz) (show a < nx by omega); omega)]
     exact hh g l2 c2 e a b ha hb
    ·have := (h.rs.own j g' hj hown).1
     have := h.rs.hB
     omega
   ·exact hh.upd (h.rs.row j hj) hu (fun g hgj hm => by simp at hm; subst hm; exact hown hgj)
  ·exact (h.has j hj).upd (h.rs.row j hj) hu (fun g hgj hm => by simp at hm; exact hoth j hj hjk g hgj hm)
 ·rw [hu.cell (p := ⟨G, j, none⟩) hGl (by simpa using hgG.symm)]; exact (h.gs j hj).1
 ·obtain ⟨g, c, e, h1, h2, h3, h4⟩ := h.ugs j hj
  have hh := (h.gs j hj).2
  rw [e] at hh ⊢
  refine hh.uform (Nat.lt_of_lt_of_le h1 h.rs.hB) hu ?_
  simp only [List.mem_singleton]
  intro hgg
  subst hgg
  rcases hgk with h5 | h5
  ·by_cases hjk : j = k
   ·omega
   ·exact h4 k hk (fun e => hjk e.symm) h5
  ·omega
theorem Ps.next {w : World} {sz L G m k B : Nat} {v u : Nat → Value} {n q : Nat → Nat} {C : Nat → Nat → List Value} (h : Ps w sz L G m k B v u n q C) (hk : k < m) {g c : Nat} (hgl : g < w.heap.size) (hgk : (v k).ownBlock = some g ∨ B ≤ g) (hh : Hs w sz (.slice (some ⟨g, 0, none⟩) (n k + 64) c) (q k) (C k)) :
  Ps (w.setCell ⟨G, k, none⟩ (.slice (some ⟨g, 0, none⟩) (n k + 64) c)) sz L G m (k + 1) w.heap.size v (fun j => if j = k then .slice (some ⟨g, 0, none⟩) (n k + 64) c else u j) n q C := by
 have hGl : G < w.heap.size := Nat.lt_of_lt_of_le h.hG.1 h.rs.hB
 have hLl : L < w.heap.size := Nat.lt_of_lt_of_le h.rs.hL h.rs.hB
 have hu : Upd [G] w (w.setCell ⟨G, k, none⟩ (.slice (some ⟨g, 0, none⟩) (n k + 64) c)) := (Upd.refl [G] w).setCell (Or.inr (by simp)) _
 have hgL : g ≠ L := fun e => by
  rcases hgk with h1 | h1
  ·exact (h.rs.own k g hk h1).2 e
  ·have := h.rs.hL; omega
 have hgG : g ≠ G := fun e => by
  rcases hgk with h1 | h1
  ·exact h.gown k hk (by rw [h1, e])
  ·have := h.hG.1; omega
 have hsz : (w.setCell ⟨G, k, none⟩ (.slice (some ⟨g, 0, none⟩) (n k + 64) c)).heap.size = w.heap.size := World.size_setCell _ _ _
 have hrow : ∀ j, j < m → ∀ x, (v j).ownBlock = some x → x ∉ [G] := fun j hj x hx hm => by simp at hm; subst hm; exact h.gown j hj hx
 refine ⟨⟨by rw [hsz]; exact Nat.le_refl _, hLl, fun j hj => ?_, fun j hj => (h.rs.row j hj).upd hu (hrow j hj), fun j x hj hx => ⟨Nat.lt_of_lt_of_le (h.rs.own j x hj hx).1 h.rs.hB, (h.rs.own j x hj hx).2⟩, h.rs.apart⟩,
  fun j hj => (h.has j hj).upd (h.rs.row j hj) hu (hrow j hj), ⟨hGl, h.hG.2⟩, h.gown, ?_, fun j hj => ?_, fun j hj => ?_⟩
 ·rw [hu.cell (p := ⟨L, j, none⟩) hLl (by simp; exact h.hG.2.symm)]; exact h.rs.blk j hj
 ·have : w.setCell ⟨G, k, none⟩ (.slice (some ⟨g, 0, none⟩) (n k + 64) c) = w.setCells G k [.slice (some ⟨g, 0, none⟩) (n k + 64) c] := rfl
  rw [this]
  exact there_set h.room
 ·by_cases hjk : j = k
  ·subst hjk
   simp only [if_true]
   refine ⟨?_, hh.uform hgl hu (by simpa using hgG)⟩
   have ht := h.room j hk
   rw [Nat.zero_add] at ht
   exact World.cell?_setCells_in G [.slice (some ⟨g, 0, none⟩) (n j + 64) c] j w (fun a ha => by simp at ha; subst ha; exact ht.1) 0 (by simp)
  ·simp only [hjk, if_false]
   have hj' : j < k := by omega
   refine ⟨?_, ?_⟩
   ·have : w.setCell ⟨G, k, none⟩ (.slice (some ⟨g, 0, none⟩) (n k + 64) c) = w.setCells G k [.slice (some ⟨g, 0, none⟩) (n k + 64) c] := rfl
    rw [this, World.cell?_setCells_out G _ _ _ _ (fun a _ => Or.inl (show j < k by omega))]
    exact (h.gs j hj').1
   ·obtain ⟨g2, c2, e, h1, _, h3, _⟩ := h.ugs j hj'
    have hh2 := (h.gs j hj').2
    rw [e] at hh2 ⊢
    exact hh2.uform (Nat.lt_of_lt_of_le h1 h.rs.hB) hu (by simpa using h3)
 ·by_cases hjk : j = k
  ·subst hjk
   simp only [if_true]
   refine ⟨g, c, rfl, hgl, hgL, hgG, fun i hi hij e => ?_⟩
   rcases hgk with h1 | h1
   ·exact h.rs.apart i j g hi hk hij e h1
   ·have := (h.rs.own i g hi e).1; omega
  ·simp only [hjk, if_false]
   obtain ⟨g2, c2, e, h1, h2, h3, h4⟩ := h.ugs j (by omega)
   exact ⟨g2, c2, e, Nat.lt_of_lt_of_le h1 h.rs.hB, h2, h3, h4⟩
theorem Ps.anew {w : World} {sz L G m k B : Nat} {v u : Nat → Value} {n q q' : Nat → Nat} {C : Nat → Nat → List Value} (h : Ps w sz L G m k B v u n q C) : Ps w sz L G m 0 B v u n q' C :=
 ⟨h.rs, h.has, h.hG, h.gown, h.room, fun j hj => by omega, fun j hj => by omega⟩
theorem Ps.raise {w : World} {sz L G m k B : Nat} {v u : Nat → Value} {n q : Nat → Nat} {C : Nat → Nat → List Value} (h : Ps w sz L G m k B v u n q C) : Ps w sz L G m k w.heap.size v u n q C :=
 ⟨h.rs.raise h.rs.hB (Nat.le_refl _), h.has, ⟨Nat.lt_of_lt_of_le h.hG.1 h.rs.hB, h.hG.2⟩, h.gown, h.room, h.gs, fun j hj => by
  obtain ⟨g, c, e, h1, h2⟩ := h.ugs j hj
  exact ⟨g, c, e, Nat.lt_of_lt_of_le h1 h.rs.hB, h2⟩⟩
theorem wpList_appendG {w : World} {ops : Array Oper} {rest : List Oper} {o : Oper} {a : Act} {Q : Exit → Act → World → Prop} (hgd : o.guard = none) (s x : Operand) (t : TypeId) (ho : o.op = .call { callee := .builtin .append, args := #[s, x], argTypes := #[t, t] })
  {e : TypeId} {i : TypeInfo} {z : Value} {sz bytes : Nat} (ht : Tryz.prog.underlying t = some (.slice e)) (hi : Tryz.prog.info? e = some i) (hz : i.zero = some z) (hsize : i.size = sz) (hby : i.bytes = bytes) (hzs : z.cells.size = sz)
  {v : Value} {n : Nat} (hs : a.eval s = v) (hr : RowG w sz v n) (ad : Addr) (m c : Nat) (news : List Value) (hx : a.eval x = .slice (some ad) m c) (hl : news.length = m * sz) (hnews : ∀ j u, news[j]? = some u → w.cell? (ad.add j) = some u) (h1 : ∀ u ∈ news, u.oneCell' = true)
  (hm : 0 < m) (h63 : n + m ≤ 1000000000000000) (hbytes : (n + m) * bytes ≤ 140737488355328)
  (h : ∀ g' cap' w', RowG w' sz (.slice (some ⟨g', 0, none⟩) (n + m) cap') (n + m) → Grew sz w w' v n g' → (∀ j, j < m * sz → w'.cell? ⟨g', n * sz + j, none⟩ = news[j]?) → wpList Tryz.prog ops Q rest (a.put o.dst (.slice (some ⟨g', 0, none⟩) (n + m) cap')) w') : wpList Tryz.prog ops Q (o :: rest) a w := by
 refine wpList_plain hgd fun K hK => ?_
 obtain ⟨g', cap', w', hrun, h2, h3, h4⟩ := run_appendG (ty := o.type) ht hi hz hsize hby hzs hr ad m c news hl hnews h1 hm h63 hbytes
 unfold Oper.wp execOp
 simp only [ho, resolve, invoke, builtin, Sem.run_bind, Sem.run_pure, Result.andThen_ok, List.map_toArray, List.map_cons, List.map_nil, hs, hx, hrun]
 exact hK _ _ (h g' cap' w' h2 h3 h4)
end Go.Proofs.YtalhbbabijlngaaGreatDoor
namespace Go.Proofs.YtalhbbabijlngaaGreatDoor
open Go.RowKit
def RowQ (w : World) (r sz : Nat) (v : Value) (n : Nat) : Prop := RowG w sz v n ∧ (r = 0 ∨ ∃ g cap, v = .slice (some ⟨g, 0, none⟩) n cap ∧ n + r ≤ cap)
def RowBT (r : Nat) (R : List Value → Tm → List Value → List Value → Prop) (w : World) (v : Value) (I : List Tm) (LB RB : List Value) : Prop :=
 ∃ ls rs : Nat → List Value, LB = (List.range I.length).flatMap ls ∧ RB = v :: (List.range I.length).flatMap rs ∧ RowQ w r 7 v I.length ∧
  ∀ i (hi : i < I.length), ∃ cs : List Value, cs.length = 7 ∧ (∀ g l c, v = .slice (some ⟨g, 0, none⟩) l c → ∀ j, j < 7 → w.cell? ⟨g, i * 7 + j, none⟩ = cs[j]?) ∧ R cs I[i] (ls i) (rs i)
def BT (r : Nat) (w : World) : Nat → List Value → Tm → List Value → List Value → Prop
 | 0, _, _, _, _ => False
 | d + 1, cs, .mk k num neg L s I T, LB, RB => ∃ (vl vi vt : Value) (l1 l2 r1 r2 : List Value), cs = [.int .u8 k, .bool neg, vl, .string s, .int .i64 num, vi, vt] ∧ RowQ w r 1 vl L.length ∧ RowBT r (BT r w d) w vi I l1 r1 ∧ RowBT r (BT r w d) w vt T l2 r2 ∧ LB = vl :: (l1 ++ l2) ∧ RB = r1 ++ r2
def bks (l : List Value) : List Nat := l.flatMap fun v => v.ownBlock.toList
theorem mem_bks {l : List Value} {x : Nat} : x ∈ bks l ↔ ∃ v ∈ l, v.ownBlock = some x := by
 unfold bks
 simp [List.mem_flatMap]
theorem bks_append (a b : List Value) : bks (a ++ b) = bks a ++ bks b := by unfold bks; rw [List.flatMap_append]
theorem bks_cons (v : Value) (b : List Value) : bks (v :: b) = v.ownBlock.toList ++ bks b := by unfold bks; rw [List.flatMap_cons]
theorem bks_flatMap (n : Nat) (f : Nat → List Value) : bks ((List.range n).flatMap f) = (List.range n).flatMap (fun i => bks (f i)) := by unfold bks; rw [List.flatMap_assoc]
theorem mem_bks_flat {n : Nat} {f : Nat → List Value} {x : Nat} : x ∈ bks ((List.range n).flatMap f) ↔ ∃ i, i < n ∧ x ∈ bks (f i) := by
 rw [bks_flatMap]; simp [List.mem_flatMap]
structure Apt (LB RB : List Value) : Prop where
 l : (bks LB).Nodup
 r : (bks RB).Nodup
 lr : ∀ x, x ∈ bks LB → x ∉ bks RB
def KB (LB RB : List Value) : List Nat := bks LB ++ bks RB
theorem mem_KB {LB RB : List Value} {x : Nat} : x ∈ KB LB RB ↔ x ∈ bks LB ∨ x ∈ bks RB := by unfold KB; rw [List.mem_append]
theorem flat_nodup {n : Nat} {f : Nat → List Nat} (h : ((List.range n).flatMap f).Nodup) {i j x : Nat} (hi : i < n) (hj : j < n) (hij : i ≠ j) (hx : x ∈ f i) : x ∉ f j := by
 intro hx2
 have h2 := (List.pairwise_flatMap.1 h).2
 rcases Nat.lt_or_gt_of_ne hij with h3 | h3
 ·exact (List.pairwise_iff_getElem.1 h2 i j (by simpa using hi) (by simpa using hj) h3) x (by simpa using hx) x (by simpa using hx2) rfl
 ·exact (List.pairwise_iff_getElem.1 h2 j i (by simpa using hj) (by simpa using hi) h3) x (by simpa using hx2) x (by simpa using hx) rfl
theorem flat_nodup1 {n : Nat} {f : Nat → List Nat} (h : ((List.range n).flatMap f).Nodup) {i : Nat} (hi : i < n) : (f i).Nodup := (List.pairwise_flatMap.1 h).1 i (by simpa using hi)
theorem nodup_flat {n : Nat} {f : Nat → List Nat} (h1 : ∀ i, i < n → (f i).Nodup) (h2 : ∀ i j x, i < n → j < n → i < j → x ∈ f i → x ∉ f j) : ((List.range n).flatMap f).Nodup := by
 refine List.pairwise_flatMap.2 ⟨fun a ha => h1 a (by simpa using ha), ?_⟩
 rw [List.pairwise_iff_getElem]
 intro i j hi hj hij x hx y hy e
 subst e
 simp at hi hj hx hy
 exact h2 i j x hi hj hij hx hy
theorem Apt.row {n : Nat} {ls rs : Nat → List Value} {v : Value} (h : Apt ((List.range n).flatMap ls) (v :: (List.range n).flatMap rs)) :
  (∀ i, i < n → Apt (ls i) (rs i)) ∧ (∀ i j x, i < n → j < n → i ≠ j → x ∈ KB (ls i) (rs i) → x ∉ KB (ls j) (rs j)) ∧ ∀ i x, i < n → v.ownBlock = some x → x ∉ KB (ls i) (rs i) := by
 obtain ⟨h1, h2, h3⟩ := h
 rw [bks_flatMap] at h1
 rw [bks_cons, bks_flatMap] at h2
 obtain ⟨h4, h5, h6⟩ := List.nodup_append.1 h2
 have lr : ∀ i j x, i < n → j < n → x ∈ bks (ls i) → x ∉ bks (rs j) := fun i j x hi hj hx hx2 => by
  refine h3 x ?_ ?_
  ·rw [mem_bks_flat]; exact ⟨i, hi, hx⟩
  ·rw [bks_cons, List.mem_append]; exact Or.inr (by rw [mem_bks_flat]; exact ⟨j, hj, hx2⟩)
 refine ⟨fun i hi => ⟨flat_nodup1 h1 hi, flat_nodup1 h5 hi, fun x hx => lr i i x hi hi hx⟩, fun i j x hi hj hij hx hx2 => ?_, fun i x hi hv hx => ?_⟩
 ·rw [mem_KB] at hx hx2
  rcases hx with hx | hx
  ·rcases hx2 with hx2 | hx2
   ·exact flat_nodup h1 hi hj hij hx hx2
   ·exact lr i j x hi hj hx hx2
  ·rcases hx2 with hx2 | hx2
   ·exact lr j i x hj hi hx2 hx
   ·exact flat_nodup h5 hi hj hij hx hx2
 ·rw [mem_KB] at hx
  rcases hx with hx | hx
  ·exact h3 x (by rw [mem_bks_flat]; exact ⟨i, hi, hx⟩) (by rw [bks_cons, hv]; simp)
  ·exact h6 x (by rw [hv]; simp) x (List.mem_flatMap.2 ⟨i, by simpa using hi, hx⟩) rfl
theorem Apt.of_row {n : Nat} {ls rs : Nat → List Value} {v : Value} (h1 : ∀ i, i < n → Apt (ls i) (rs i)) (h2 : ∀ i j x, i < n → j < n → i ≠ j → x ∈ KB (ls i) (rs i) → x ∉ KB (ls j) (rs j)) (h3 : ∀ i x, i < n → v.ownBlock = some x → x ∉ KB (ls i) (rs i)) :
  Apt ((List.range n).flatMap ls) (v :: (List.range n).flatMap rs) := by
 refine ⟨?_, ?_, fun x hx hx2 => ?_⟩
 ·rw [bks_flatMap]
  exact nodup_flat (fun i hi => (h1 i hi).l) (fun i j x hi hj hij hx hx2 => h2 i j x hi hj (by omega) (mem_KB.2 (Or.inl hx)) (mem_KB.2 (Or.inl hx2)))
 ·rw [bks_cons, bks_flatMap]
  refine List.nodup_append.2 ⟨?_, nodup_flat (fun i hi => (h1 i hi).r) (fun i j x hi hj hij hx hx2 => h2 i j x hi hj (by omega) (mem_KB.2 (Or.inr hx)) (mem_KB.2 (Or.inr hx2))), fun a ha b hb e => ?_⟩
  ·cases v.ownBlock <;> simp
  ·subst e
   obtain ⟨i, hi, hx⟩ := List.mem_flatMap.1 hb
   exact h3 i a (by simpa using hi) (by simpa using ha) (mem_KB.2 (Or.inr hx))
 ·rw [mem_bks_flat] at hx
  obtain ⟨i, hi, hx⟩ := hx
  rw [bks_cons, List.mem_append] at hx2
  rcases hx2 with hx2 | hx2
  ·exact h3 i x hi (by simpa using hx2) (mem_KB.2 (Or.inl hx))
  ·rw [mem_bks_flat] at hx2
   obtain ⟨j, hj, hx2⟩ := hx2
   by_cases hij : i = j
   ·subst hij
    exact (h1 i hi).lr x hx hx2
   ·exact h2 i j x hi hj hij (mem_KB.2 (Or.inl hx)) (mem_KB.2 (Or.inr hx2))
theorem Apt.two {vl : Value} {l1 l2 r1 r2 : List Value} (h : Apt (vl :: (l1 ++ l2)) (r1 ++ r2)) :
  Apt l1 r1 ∧ Apt l2 r2 ∧ (∀ x, x ∈ KB l1 r1 → x ∉ KB l2 r2) ∧ ∀ x, vl.ownBlock = some x → x ∉ KB l1 r1 ∧ x ∉ KB l2 r2 := by
 obtain ⟨h1, h2, h3⟩ := h
 rw [bks_cons, bks_append] at h1
 rw [bks_append] at h2
 obtain ⟨h4, h5, h6⟩ := List.nodup_append.1 h1
 obtain ⟨h7, h8, h9⟩ := List.nodup_append.1 h5
 obtain ⟨h10, h11, h12⟩ := List.nodup_append.1 h2
 have lr : ∀ x, x ∈ bks l1 ∨ x ∈ bks l2 → x ∉ bks r1 ∧ x ∉ bks r2 := fun x hx => by
  have := h3 x (by rw [bks_cons, bks_append]; rcases hx with h | h <;> simp [h])
  rw [bks_append, List.mem_append] at this
  exact ⟨fun h => this (Or.inl h), fun h => this (Or.inr h)⟩
 refine ⟨⟨h7, h10, fun x hx => (lr x (Or.inl hx)).1⟩, ⟨h8, h11, fun x hx => (lr x (Or.inr hx)).2⟩, fun x hx hx2 => ?_, fun x hv => ?_⟩
 ·rw [mem_KB] at hx hx2
  rcases hx with hx | hx <;> rcases hx2 with hx2 | hx2
  ·exact h9 x hx x hx2 rfl
  ·exact (lr x (Or.inl hx)).2 hx2
  ·exact (lr x (Or.inr hx2)).1 hx
  ·exact h12 x hx x hx2 rfl
 ·have hl := h3 x (by rw [bks_cons, hv]; simp)
  rw [bks_append, List.mem_append] at hl
  refine ⟨fun hx => ?_, fun hx => ?_⟩
  ·rw [mem_KB] at hx
   rcases hx with hx | hx
   ·exact h6 x (by rw [hv]; simp) x (List.mem_append.2 (Or.inl hx)) rfl
   ·exact hl (Or.inl hx)
  ·rw [mem_KB] at hx
   rcases hx with hx | hx
   ·exact h6 x (by rw [hv]; simp) x (List.mem_append.2 (Or.inr hx)) rfl
   ·exact hl (Or.inr hx)
theorem Apt.of_two {vl : Value} {l1 l2 r1 r2 : List Value} (h1 : Apt l1 r1) (h2 : Apt l2 r2) (h3 : ∀ x, x ∈ KB l1 r1 → x ∉ KB l2 r2) (h4 : ∀ x, vl.ownBlock = some x → x ∉ KB l1 r1 ∧ x ∉ KB l2 r2) : Apt (vl :: (l1 ++ l2)) (r1 ++ r2) := by
 have ht : ∀ a, a ∈ vl.ownBlock.toList → vl.ownBlock = some a := fun a ha => by simpa using ha
 refine ⟨?_, ?_, fun x hx hx2 => ?_⟩
 ·rw [bks_cons, bks_append]
  refine List.nodup_append.2 ⟨by cases vl.ownBlock <;> simp, List.nodup_append.2 ⟨h1.l, h2.l, fun a ha b hb e => h3 a (mem_KB.2 (Or.inl ha)) (mem_KB.2 (Or.inl (e ▸ hb)))⟩, fun a ha b hb e => ?_⟩
  subst e
  rcases List.mem_append.1 hb with hb | hb
  ·exact (h4 a (ht a ha)).1 (mem_KB.2 (Or.inl hb))
  ·exact (h4 a (ht a ha)).2 (mem_KB.2 (Or.inl hb))
 ·rw [bks_append]
  exact List.nodup_append.2 ⟨h1.r, h2.r, fun a ha b hb e => h3 a (mem_KB.2 (Or.inr ha)) (mem_KB.2 (Or.inr (e ▸ hb)))⟩
 ·rw [bks_cons, bks_append, List.mem_append, List.mem_append] at hx
  rw [bks_append, List.mem_append] at hx2
  rcases hx with hx | hx | hx <;> rcases hx2 with hx2 | hx2
  ·exact (h4 x (ht x hx)).1 (mem_KB.2 (Or.inr hx2))
  ·exact (h4 x (ht x hx)).2 (mem_KB.2 (Or.inr hx2))
  ·exact h1.lr x hx hx2
  ·exact h3 x (mem_KB.2 (Or.inl hx)) (mem_KB.2 (Or.inr hx2))
  ·exact h3 x (mem_KB.2 (Or.inr hx2)) (mem_KB.2 (Or.inl hx))
  ·exact h2.lr x hx hx2
theorem RowQ.upd {S : List Nat} {w w' : World} {r sz n : Nat} {v : Value} (h : RowQ w r sz v n) (hu : Upd S w w') (hn : ∀ g, v.ownBlock = some g → g ∉ S) : RowQ w' r sz v n := ⟨h.1.upd hu hn, h.2⟩
theorem RowBT.upd {r : Nat} {R R' : List Value → Tm → List Value → List Value → Prop} {S : List Nat} {w w' : World} {v : Value} {I : List Tm} {LB RB : List Value} (h : RowBT r R w v I LB RB) (hu : Upd S w w') (hn : ∀ x, x ∈ KB LB RB → x ∉ S)
  (hR : ∀ cs t l q, (∀ x, x ∈ KB l q → x ∉ S) → R cs t l q → R' cs t l q) : RowBT r R' w' v I LB RB := by
 obtain ⟨ls, rs, rfl, rfl, h3, h4⟩ := h
 have hv : ∀ g, v.ownBlock = some g → g ∉ S := fun g hg => hn g (mem_KB.2 (Or.inr (by rw [bks_cons, hg]; simp)))
 refine ⟨ls, rs, rfl, rfl, h3.upd hu hv, fun i hi => ?_⟩
 obtain ⟨cs, k1, k2, k3⟩ := h4 i hi
 refine ⟨cs, k1, fun g l c e j hj => ?_, hR _ _ _ _ (fun x hx => hn x ?_) k3⟩
 ·have hg : v.ownBlock = some g := by rw [e]; rfl
  rw [hu.cell (p := ⟨g, i * 7 + j, none⟩) (h3.1.lt g hg) (hv g hg)]
  exact k2 g l c e j hj
 ·rw [mem_KB] at hx ⊢
  rcases hx with hx | hx
  ·exact Or.inl (mem_bks_flat.2 ⟨i, hi, hx⟩)
  ·exact Or.inr (by rw [bks_cons, List.mem_append]; exact Or.inr (mem_bks_flat.2 ⟨i, hi, hx⟩))
theorem KB_two {vl : Value} {l1 l2 r1 r2 : List Value} {x : Nat} : x ∈ KB (vl :: (l1 ++ l2)) (r1 ++ r2) ↔ vl.ownBlock = some x ∨ x ∈ KB l1 r1 ∨ x ∈ KB l2 r2 := by
 simp only [mem_KB, bks_cons, bks_append, List.mem_append, Option.mem_toList]
 constructor
 ·rintro ((h | h | h) | h | h)
  ·exact Or.inl h
  ·exact Or.inr (Or.inl (Or.inl h))
  ·exact Or.inr (Or.inr (Or.inl h))
  ·exact Or.inr (Or.inl (Or.inr h))
  ·exact Or.inr (Or.inr (Or.inr h))
 ·rintro (h | (h | h) | (h | h))
  ·exact Or.inl (Or.inl h)
  ·exact Or.inl (Or.inr (Or.inl h))
  ·exact Or.inr (Or.inl h)
  ·exact Or.inl (Or.inr (Or.inr h))
  ·exact Or.inr (Or.inr h)
theorem KB_row {n : Nat} {ls rs : Nat → List Value} {v : Value} {x : Nat} : x ∈ KB ((List.range n).flatMap ls) (v :: (List.range n).flatMap rs) ↔ v.ownBlock = some x ∨ ∃ i, i < n ∧ x ∈ KB (ls i) (rs i) := by
 simp only [mem_KB, bks_cons, List.mem_append, Option.mem_toList, mem_bks_flat]
 constructor
 ·rintro (⟨i, hi, h⟩ | h | ⟨i, hi, h⟩)
  ·exact Or.inr ⟨i, hi, Or.inl h⟩
  ·exact Or.inl h
  ·exact Or.inr ⟨i, hi, Or.inr h⟩
 ·rintro (h | ⟨i, hi, h | h⟩)
  ·exact Or.inr (Or.inl h)
  ·exact Or.inl ⟨i, hi, h⟩
  ·exact Or.inr (Or.inr ⟨i, hi, h⟩)
theorem BT.upd {r : Nat} {S : List Nat} {w w' : World} (hu : Upd S w w') : ∀ (d : Nat) (cs : List Value) (t : Tm) (LB RB : List Value), (∀ x, x ∈ KB LB RB → x ∉ S) → BT r w d cs t LB RB → BT r w' d cs t LB RB := by
 intro d
 induction d with
 | zero => intro cs t LB RB _ h; exact h.elim
 | succ d ih =>
  intro cs t LB RB hn h
  cases t with
  | mk k num neg L s I T =>
   obtain ⟨vl, vi, vt, l1, l2, r1, r2, rfl, h1, h2, h3, rfl, rfl⟩ := h
   refine ⟨vl, vi, vt, l1, l2, r1, r2, rfl, h1.upd hu (fun g hg => hn g (KB_two.2 (Or.inl hg))), h2.upd hu (fun x hx => hn x (KB_two.2 (Or.inr (Or.inl hx)))) (fun cs t l q hx hR => ih cs t l q hx hR), h3.upd hu (fun x hx => hn x (KB_two.2 (Or.inr (Or.inr hx)))) (fun cs t l q hx hR => ih cs t l q hx hR), rfl, rfl⟩
theorem RowBT.lt {r d : Nat} {w : World} (ih : ∀ cs t LB RB, BT r w d cs t LB RB → ∀ x, x ∈ KB LB RB → x < w.heap.size) {v : Value} {I : List Tm} {LB RB : List Value} (h : RowBT r (BT r w d) w v I LB RB) : ∀ x, x ∈ KB LB RB → x < w.heap.size := by
 obtain ⟨ls, rs, rfl, rfl, h3, h4⟩ := h
 intro x hx
 rcases KB_row.1 hx with hx | ⟨i, hi, hx⟩
 ·exact h3.1.lt x hx
 ·obtain ⟨cs, _, _, k3⟩ := h4 i hi
  exact ih _ _ _ _ k3 x hx
theorem BT.lt {r : Nat} {w : World} : ∀ (d : Nat) (cs : List Value) (t : Tm) (LB RB : List Value), BT r w d cs t LB RB → ∀ x, x ∈ KB LB RB → x < w.heap.size := by
 intro d
 induction d with
 | zero => intro cs t LB RB h; exact h.elim
 | succ d ih =>
  intro cs t LB RB h x hx
  cases t with
  | mk k num neg L s I T =>
   obtain ⟨vl, vi, vt, l1, l2, r1, r2, rfl, h1, h2, h3, rfl, rfl⟩ := h
   rcases KB_two.1 hx with hx | hx | hx
   ·exact h1.1.lt x hx
   ·exact h2.lt ih x hx
   ·exact h3.lt ih x hx
end Go.Proofs.YtalhbbabijlngaaGreatDoor
namespace Go.Proofs.YtalhbbabijlngaaGreatDoor
open Go.RowKit
inductive Anc (par : Nat → Nat × Nat) : Nat → Nat × Nat → Prop
 | here (x : Nat) (h : (par x).1 < x) : Anc par x (par x)
 | up (x : Nat) (p : Nat × Nat) (h : (par x).1 < x) (k : Anc par (par x).1 p) : Anc par x p
theorem Anc.lt {par : Nat → Nat × Nat} {x : Nat} {p : Nat × Nat} (h : Anc par x p) : p.1 < x := by
 induction h with
 | here x h => exact h
 | up x p h _ ih => omega
theorem Anc.one {par : Nat → Nat × Nat} {x : Nat} {p : Nat × Nat} (h : Anc par x p) : ∀ {q : Nat × Nat}, Anc par x q → p.1 = q.1 → p = q := by
 induction h with
 | here x h =>
  intro q hq e
  cases hq with
  | here => rfl
  | up _ _ _ k => have := k.lt; omega
 | up x p h k ih =>
  intro q hq e
  cases hq with
  | here => have := k.lt; omega
  | up _ _ _ k2 => exact ih k2 e
theorem Anc.trans {par : Nat → Nat × Nat} {x : Nat} {p q : Nat × Nat} (h : Anc par x p) : Anc par p.1 q → Anc par x q := by
 induction h with
 | here x h => exact fun k => .up x q h k
 | up x p h _ ih => exact fun k => .up x q h (ih k)
theorem Anc.of_par {par : Nat → Nat × Nat} {x : Nat} {p : Nat × Nat} (h : par x = p) (hl : p.1 < x) : Anc par x p := by
 subst h
 exact .here x hl
def Good (lo bd : Nat) (NR : Nat → Nat → Prop) (par : Nat → Nat × Nat) (wr : World) (g p : Nat) : Prop :=
 ∃ a n c, wr.cell? ⟨g, p, none⟩ = some (.slice a n c) ∧ ((a = none ∧ n = 0 ∧ c = 0) ∨ ∃ g', a = some ⟨g', 0, none⟩ ∧ (lo ≤ g' ∧ g' < bd) ∧ g < g' ∧ par g' = (g, p) ∧ n ≤ c ∧ c ≤ maxLen ∧
  ((p % 7 = 2 ∧ ∃ cur, wr.heap[g']? = some (.cells cur 47 (0, 0)) ∧ cur.size = c) ∨ (p % 7 ≠ 2 ∧ NR g' n ∧ ∃ cur, wr.heap[g']? = some (.cells cur 26 (0, 0)) ∧ cur.size = c * 7)))
structure Sq (lo bd : Nat) (NR : Nat → Nat → Prop) (par : Nat → Nat × Nat) (W : Nat → Nat → Prop) (wr : World) : Prop where
 one : ∀ g n m, NR g n → NR g m → n = m
 bdw : bd ≤ wr.heap.size
 low : ∀ g n, NR g n → lo ≤ g ∧ g < bd
 pos : ∀ g n p, NR g n → p < n * 7 → (p % 7 = 2 ∨ p % 7 = 5 ∨ p % 7 = 6) → W g p ∨ Good lo bd NR par wr g p
theorem Sq.less {lo bd : Nat} {NR : Nat → Nat → Prop} {par : Nat → Nat × Nat} {W W' : Nat → Nat → Prop} {wr : World} (h : Sq lo bd NR par W wr) (hW : ∀ g n p, NR g n → p < n * 7 → (p % 7 = 2 ∨ p % 7 = 5 ∨ p % 7 = 6) → W g p → W' g p) : Sq lo bd NR par W' wr :=
 ⟨h.one, h.bdw, h.low, fun g n p hg hp hm => (h.pos g n p hg hp hm).imp (hW g n p hg hp hm) id⟩
structure KeepR (w w' : World) : Prop where
 size : w.heap.size ≤ w'.heap.size
 blk : ∀ (g : Nat) (cur : Array Value) (T : TypeId), w.heap[g]? = some (.cells cur T (0, 0)) → (T = 26 ∨ T = 47) → w'.heap[g]? = some (.cells cur T (0, 0))
theorem KeepR.upd {S : List Nat} {w w' : World} (hu : Upd S w w') (hS : ∀ x ∈ S, ∃ cur T fr, w.heap[x]? = some (.cells cur T fr) ∧ T ≠ 26 ∧ T ≠ 47) : KeepR w w' :=
 ⟨hu.size, fun g cur T hg hT => (hu.block g (lt_of_block hg) (fun hm => by
  obtain ⟨cur', T', fr, hh, h1, h2⟩ := hS g hm
  rw [hh] at hg
  simp at hg
  rcases hT with h | h
  ·exact h1 (hg.2.1.trans h)
  ·exact h2 (hg.2.1.trans h))).trans hg⟩
theorem KeepR.new {w w' : World} (hu : Upd [] w w') : KeepR w w' := KeepR.upd hu (by simp)
theorem Sq.keep {lo bd : Nat} {NR : Nat → Nat → Prop} {par : Nat → Nat × Nat} {W : Nat → Nat → Prop} {w w' : World} (h : Sq lo bd NR par W w) (hT : ∀ g n, NR g n → ∃ cur, w.heap[g]? = some (.cells cur 26 (0, 0))) (k : KeepR w w') : Sq lo bd NR par W w' := by
 refine ⟨h.one, Nat.le_trans h.bdw k.size, h.low, fun g n p hg hp hm => ?_⟩
 rcases h.pos g n p hg hp hm with h1 | ⟨a, m, c, hc, h2⟩
 ·exact Or.inl h1
 ·refine Or.inr ⟨a, m, c, ?_, ?_⟩
  ·obtain ⟨cur, hcur⟩ := hT g n hg
   rw [cell_of_row w' g p _ _ _ (k.blk g cur _ hcur (Or.inl rfl)), ← cell_of_row w g p _ _ _ hcur]
   exact hc
  ·rcases h2 with h2 | ⟨g', e, h3, h4, h5, h6, h7, ⟨h8, cur, h9, h10⟩ | ⟨h8, h11, cur, h9, h10⟩⟩
   ·exact Or.inl h2
   ·exact Or.inr ⟨g', e, h3, h4, h5, h6, h7, Or.inl ⟨h8, cur, k.blk g' cur _ h9 (Or.inr rfl), h10⟩⟩
   ·exact Or.inr ⟨g', e, h3, h4, h5, h6, h7, Or.inr ⟨h8, h11, cur, k.blk g' cur _ h9 (Or.inl rfl), h10⟩⟩
theorem Sq.put {lo bd bs : Nat} {NR : Nat → Nat → Prop} {par : Nat → Nat × Nat} {W W' : Nat → Nat → Prop} {w : World} {g p n T sz : Nat} {v : Value} {cur : Array Value} {xs : List Value} (h : Sq lo bd NR par W w)
  (hg : w.heap[g]? = some (.cells cur 26 (0, 0))) (hp : (w.cell? ⟨g, p, none⟩).isSome = true) (hgb : g < bs) (hlo : lo ≤ bs) (hbs : bd ≤ bs)
  (ho : w.ownsRow bs T sz v n xs) (hT : (p % 7 = 2 ∧ T = 47 ∧ sz = 1) ∨ (p % 7 ≠ 2 ∧ T = 26 ∧ sz = 7))
  (hW : ∀ x q, W x q → ¬ (x = g ∧ q = p) → W' x q) (hW2 : p % 7 ≠ 2 → 0 < n → ∀ x q, v.ownBlock = some x → W' x q) :
  ∃ NR' par', (∀ x m, NR x m → NR' x m) ∧ (∀ x m, NR' x m → NR x m ∨ (p % 7 ≠ 2 ∧ v.ownBlock = some x ∧ m = n)) ∧ (∀ x, p % 7 ≠ 2 → v.ownBlock = some x → NR' x n) ∧ Sq lo w.heap.size NR' par' W' (w.setCell ⟨g, p, none⟩ v) := by
 have hsz : (w.setCell ⟨g, p, none⟩ v).heap.size = w.heap.size := by simp
 have hcs : ∀ (x : Nat) (cu : Array Value) (T' : TypeId), w.heap[x]? = some (.cells cu T' (0, 0)) → ∃ cu', (w.setCell ⟨g, p, none⟩ v).heap[x]? = some (.cells cu' T' (0, 0)) ∧ cu'.size = cu.size := fun x cu T' hx => by
  by_cases hxg : x = g
  ·subst hxg
   rw [hg] at hx
   simp at hx
   obtain ⟨rfl, rfl⟩ := hx
   exact ⟨_, heap_setCell_same w x p _ _ _ hg, by simp⟩
  ·exact ⟨cu, (heap_setCell_other _ _ _ _ (fun e => hxg e)).trans hx, rfl⟩
 have hcp : (w.setCell ⟨g, p, none⟩ v).cell? ⟨g, p, none⟩ = some v := by
  obtain ⟨u, hu⟩ := Option.isSome_iff_exists.1 hp
  exact cell_same hu
 have hco : ∀ x q, ¬ (x = g ∧ q = p) → (w.setCell ⟨g, p, none⟩ v).cell? ⟨x, q, none⟩ = w.cell? ⟨x, q, none⟩ := fun x q hne => cell_other (fun e => hne (by simp only [Addr.mk.injEq] at e; exact ⟨e.1.symm, e.2.1.symm⟩))
 have h' := ho
 obtain ⟨_, ⟨rfl, rfl⟩ | ⟨gv, cap, cu, rfl, hbv, hh, hc1, hc2, hc3, _⟩⟩ := ho
 ·-- nothing
  refine ⟨NR, par, fun _ _ h => h, fun _ _ h => Or.inl h, fun x _ hx => (by cases hx), h.one, by rw [hsz]; exact Nat.le_refl _, fun x m hx => ⟨(h.low x m hx).1, Nat.lt_of_lt_of_le (h.low x m hx).2 h.bdw⟩, fun x m q hx hq hm => ?_⟩
  by_cases hxp : x = g ∧ q = p
  ·obtain ⟨rfl, rfl⟩ := hxp
   exact Or.inr ⟨none, 0, 0, hcp, Or.inl ⟨rfl, rfl, rfl⟩⟩
  ·rcases h.pos x m q hx hq hm with h1 | ⟨a, k, c, hc, h2⟩
   ·exact Or.inl (hW x q h1 hxp)
   ·refine Or.inr ⟨a, k, c, (hco x q hxp).trans hc, ?_⟩
    rcases h2 with h2 | ⟨g', e, h3, h4, h5, h6, h7, ⟨h8, cur2, h9, h10⟩ | ⟨h8, h11, cur2, h9, h10⟩⟩
    ·exact Or.inl h2
    ·obtain ⟨cu', k1, k2⟩ := hcs _ _ _ h9
     exact Or.inr ⟨g', e, ⟨h3.1, Nat.lt_of_lt_of_le h3.2 h.bdw⟩, h4, h5, h6, h7, Or.inl ⟨h8, cu', k1, k2.trans h10⟩⟩
    ·obtain ⟨cu', k1, k2⟩ := hcs _ _ _ h9
     exact Or.inr ⟨g', e, ⟨h3.1, Nat.lt_of_lt_of_le h3.2 h.bdw⟩, h4, h5, h6, h7, Or.inr ⟨h8, h11, cu', k1, k2.trans h10⟩⟩
 ·have hgvlt := lt_of_block hh
  obtain ⟨cu', hk1, hk2⟩ := hcs _ _ _ hh
  refine ⟨fun x m => NR x m ∨ (p % 7 ≠ 2 ∧ x = gv ∧ m = n), fun x => if x = gv then (g, p) else par x, fun _ _ h => Or.inl h, fun x m hx => hx.imp id (fun ⟨e1, e2, e3⟩ => ⟨e1, by rw [e2]; rfl, e3⟩), fun x hx e => Or.inr ⟨hx, by simpa [Value.ownBlock] using e.symm, rfl⟩, fun x m m' hx hx' => ?_, by rw [hsz]; exact Nat.le_refl _, fun x m hx => ?_, fun x m q hx hq hm => ?_⟩
  ·rcases hx with hx | ⟨_, rfl, rfl⟩ <;> rcases hx' with hx' | ⟨_, e, rfl⟩
   ·exact h.one x m m' hx hx'
   ·have := (h.low x m hx).2; omega
   ·have := (h.low _ _ hx').2; omega
   ·rfl
  ·rcases hx with hx | ⟨_, rfl, rfl⟩
   ·exact ⟨(h.low x m hx).1, Nat.lt_of_lt_of_le (h.low x m hx).2 h.bdw⟩
   ·exact ⟨by omega, hgvlt⟩
  ·by_cases hxp : x = g ∧ q = p
   ·obtain ⟨rfl, rfl⟩ := hxp
    refine Or.inr ⟨some ⟨gv, 0, none⟩, n, cap, hcp, Or.inr ⟨gv, rfl, ⟨by omega, hgvlt⟩, by omega, by simp, hc1, hc2, ?_⟩⟩
    rcases hT with ⟨hT1, rfl, rfl⟩ | ⟨hT1, rfl, rfl⟩
    ·exact Or.inl ⟨hT1, cu', hk1, by rw [hk2, hc3]; omega⟩
    ·exact Or.inr ⟨hT1, Or.inr ⟨hT1, rfl, rfl⟩, cu', hk1, by rw [hk2, hc3]⟩
   ·rcases hx with hx | ⟨hne, rfl, rfl⟩
    ·rcases h.pos x m q hx hq hm with h1 | hgd
     ·exact Or.inl (hW x q h1 hxp)
     ·obtain ⟨a, k, c, hc, h2⟩ := hgd
      refine Or.inr ⟨a, k, c, (hco x q hxp).trans hc, ?_⟩
      rcases h2 with h2 | ⟨g', e, h3, h4, h5, h6, h7, ⟨h8, cur2, h9, h10⟩ | ⟨h8, h11, cur2, h9, h10⟩⟩
      ·exact Or.inl h2
      ·obtain ⟨cu2, k1, k2⟩ := hcs _ _ _ h9
       exact Or.inr ⟨g', e, ⟨h3.1, Nat.lt_of_lt_of_le h3.2 h.bdw⟩, h4, (show (if g' = gv then (g, p) else par g') = _ by rw [if_neg (show ¬ g' = gv by have := h3.2; omega)]; exact h5), h6, h7, Or.inl ⟨h8, cu2, k1, k2.trans h10⟩⟩
      ·obtain ⟨cu2, k1, k2⟩ := hcs _ _ _ h9
       exact Or.inr ⟨g', e, ⟨h3.1, Nat.lt_of_lt_of_le h3.2 h.bdw⟩, h4, (show (if g' = gv then (g, p) else par g') = _ by rw [if_neg (show ¬ g' = gv by have := h3.2; omega)]; exact h5), h6, h7, Or.inr ⟨h8, Or.inl h11, cu2, k1, k2.trans h10⟩⟩
    ·exact Or.inl (hW2 hne (by omega) _ _ rfl)
theorem Sq.row {lo bd : Nat} {NR : Nat → Nat → Prop} {par : Nat → Nat × Nat} {wr : World} {P : Nat → Prop} (h : Sq lo bd NR par (fun _ _ => False) wr) : ∀ (d : Nat) (g c : Nat) (I : List Tm), (I ≠ [] → NR g I.length) → RowG wr 7 (.slice (some ⟨g, 0, none⟩) I.length c) I.length → RowB P (InB P wr d) wr (some ⟨g, 0, none⟩) I →
  ∃ LB RB, RowBT 0 (BT 0 wr d) wr (.slice (some ⟨g, 0, none⟩) I.length c) I LB RB ∧ Apt LB RB ∧ ∀ x, x ∈ KB LB RB → x = g ∨ ∃ p, Anc par x (g, p) := by
 intro d
 induction d with
 | zero =>
  intro g c I hN hG hR
  have hI : I = [] := by
   rcases hR with h0 | ⟨b, o, _, _, _, hc⟩
   ·exact h0
   ·cases I with
    | nil => rfl
    | cons t r => obtain ⟨_, _, _, h3⟩ := hc 0 (by simp); exact h3.elim
  subst hI
  refine ⟨[], [.slice (some ⟨g, 0, none⟩) 0 c], ⟨fun _ => [], fun _ => [], rfl, rfl, ⟨hG, Or.inl rfl⟩, fun i hi => by simp at hi⟩, ⟨by simp [bks], by simp [bks, Value.ownBlock], by simp [bks]⟩, fun x hx => ?_⟩
  simp [KB, bks, Value.ownBlock] at hx
  exact Or.inl hx
 | succ d ih =>
  intro g c I hN hG hR
  -- each kid
  have kid : ∀ i (hi : i < I.length), ∃ (cs l r : List Value), cs.length = 7 ∧ (∀ j, j < 7 → wr.cell? ⟨g, i * 7 + j, none⟩ = cs[j]?) ∧ BT 0 wr (d + 1) cs I[i] l r ∧ Apt l r ∧ ∀ x, x ∈ KB l r → ∃ p, i * 7 ≤ p ∧ p < i * 7 + 7 ∧ Anc par x (g, p) := by
   intro i hi
   have hNg := hN (fun e => by rw [e] at hi; simp at hi)
   rcases hR with h0 | ⟨b, o, e, _, _, hc⟩
   ·rw [h0] at hi; simp at hi
   simp only [Option.some.injEq, Addr.mk.injEq] at e
   obtain ⟨rfl, rfl, _⟩ := e
   obtain ⟨cs, k1, k2, k3⟩ := hc i hi
   have kc : ∀ j, j < 7 → wr.cell? ⟨g, i * 7 + j, none⟩ = cs[j]? := fun j hj => by have := k2 j hj; rw [Nat.zero_add] at this; exact this
   have good : ∀ f, f = 2 ∨ f = 5 ∨ f = 6 → Good lo bd NR par wr g (i * 7 + f) := fun f hf => by
    have hm := mul_room (sz := 7) hi
    have := h.pos g I.length (i * 7 + f) hNg (by omega) (by omega)
    exact this.elim False.elim id
   generalize hte : I[i] = te at k3
   cases te with
   | mk k num neg L s I' T' =>
    obtain ⟨a, ai, at', cl, ci, ct, rfl, q1, q2, q3, q4⟩ := k3
    -- limbs
    obtain ⟨a1, n1, c1, e1, g1⟩ := good 2 (Or.inl rfl)
    rw [kc 2 (by omega)] at e1
    simp only [List.getElem?_cons_succ, List.getElem?_cons_zero, Option.some.injEq, Value.slice.injEq] at e1
    obtain ⟨rfl, rfl, rfl⟩ := e1
    have hl : RowQ wr 0 1 (.slice a L.length cl) L.length ∧ ∀ x, (Value.slice a L.length cl).ownBlock = some x → Anc par x (g, i * 7 + 2) := by
     rcases g1 with ⟨rfl, h1, rfl⟩ | ⟨g', rfl, h1, h2, h3, h4, h5, ⟨h6, cur, h7, h8⟩ | ⟨h6, _⟩⟩
     ·rw [h1]; exact ⟨⟨Or.inl ⟨rfl, rfl⟩, Or.inl rfl⟩, fun x hx => by cases hx⟩
     ·refine ⟨⟨Or.inr ⟨g', cl, rfl, lt_of_block h7, h4, h5, fun j hj => ?_⟩, Or.inl rfl⟩, fun x hx => ?_⟩
      ·refine ⟨?_, frozen_of_row _ _ _ _ _ h7⟩
       rw [cell_of_row _ _ _ _ _ _ h7, Array.getElem?_eq_getElem (by omega)]; rfl
      ·simp only [Value.ownBlock, Option.some.injEq] at hx
       subst hx
       exact Anc.of_par h3 h2
     ·omega
    -- rows
    have sub : ∀ f (hf : f = 5 ∨ f = 6) (a2 : Option Addr) (c2 : Nat) (I2 : List Tm), wr.cell? ⟨g, i * 7 + f, none⟩ = some (.slice a2 I2.length c2) → RowB P (InB P wr d) wr a2 I2 → ∃ LB RB, RowBT 0 (BT 0 wr d) wr (.slice a2 I2.length c2) I2 LB RB ∧ Apt LB RB ∧ ∀ x, x ∈ KB LB RB → Anc par x (g, i * 7 + f) := by
     intro f hf a2 c2 I2 hcell hrow
     obtain ⟨a3, n3, c3, e3, g3⟩ := good f (Or.inr hf)
     rw [hcell] at e3
     simp only [Option.some.injEq, Value.slice.injEq] at e3
     obtain ⟨rfl, rfl, rfl⟩ := e3
     rcases g3 with ⟨rfl, h1, rfl⟩ | ⟨g', rfl, h1, h2, h3, h4, h5, ⟨h6, _⟩ | ⟨h6, h7, cur, h8, h9⟩⟩
     ·have hI2 : I2 = [] := List.eq_nil_of_length_eq_zero h1
      subst hI2
      refine ⟨[], [.slice none 0 0], ⟨fun _ => [], fun _ => [], rfl, rfl, ⟨Or.inl ⟨rfl, rfl⟩, Or.inl rfl⟩, fun i hi => by simp at hi⟩, ⟨by simp [bks], by simp [bks, Value.ownBlock], by simp [bks]⟩, fun x hx => ?_⟩
      simp [KB, bks, Value.ownBlock] at hx
     ·omega
     ·have hG2 : RowG wr 7 (.slice (some ⟨g', 0, none⟩) I2.length c2) I2.length := by
       refine Or.inr ⟨g', c2, rfl, lt_of_block h8, h4, h5, fun j hj => ?_⟩
       refine ⟨?_, frozen_of_row _ _ _ _ _ h8⟩
       rw [cell_of_row _ _ _ _ _ _ h8, Array.getElem?_eq_getElem (by omega)]; rfl
      obtain ⟨LB, RB, b1, b2, b3⟩ := ih g' c2 I2 (fun _ => h7) hG2 hrow
      refine ⟨LB, RB, b1, b2, fun x hx => ?_⟩
      rcases b3 x hx with rfl | ⟨p, hp⟩
      ·exact Anc.of_par h3 h2
      ·exact Anc.trans hp (Anc.of_par h3 h2)
    obtain ⟨l1, r1, i1, i2, i3⟩ := sub 5 (Or.inl rfl) ai ci I' (kc 5 (by omega)) q3
    obtain ⟨l2, r2, t1, t2, t3⟩ := sub 6 (Or.inr rfl) at' ct T' (kc 6 (by omega)) q4
    refine ⟨_, .slice a L.length cl :: (l1 ++ l2), r1 ++ r2, k1, kc, ⟨.slice a L.length cl, .slice ai I'.length ci, .slice at' T'.length ct, l1, l2, r1, r2, rfl, hl.1, i1, t1, rfl, rfl⟩, ?_, fun x hx => ?_⟩
    ·refine Apt.of_two i2 t2 (fun x h1 h2 => ?_) (fun x hx => ⟨fun h1 => ?_, fun h1 => ?_⟩)
     ·have := (i3 x h1).one (t3 x h2) rfl; simp at this
     ·have := (hl.2 x hx).one (i3 x h1) rfl; simp at this
     ·have := (hl.2 x hx).one (t3 x h1) rfl; simp at this
    ·rcases KB_two.1 hx with hx | hx | hx
     ·exact ⟨_, by omega, by omega, hl.2 x hx⟩
     ·exact ⟨_, by omega, by omega, i3 x hx⟩
     ·exact ⟨_, by omega, by omega, t3 x hx⟩
  have kid2 : ∀ i, ∃ (l r : List Value), ∀ (hi : i < I.length), ∃ cs : List Value, cs.length = 7 ∧ (∀ j, j < 7 → wr.cell? ⟨g, i * 7 + j, none⟩ = cs[j]?) ∧ BT 0 wr (d + 1) cs I[i] l r ∧ Apt l r ∧ ∀ x, x ∈ KB l r → ∃ p, i * 7 ≤ p ∧ p < i * 7 + 7 ∧ Anc par x (g, p) := by
   intro i
   by_cases hi : i < I.length
   ·obtain ⟨cs, l, r, h1, h2, h3, h4, h5⟩ := kid i hi
    exact ⟨l, r, fun _ => ⟨cs, h1, h2, h3, h4, h5⟩⟩
   ·exact ⟨[], [], fun h => absurd h hi⟩
  obtain ⟨ls, hls⟩ := Classical.axiomOfChoice kid2
  obtain ⟨rs, hrs⟩ := Classical.axiomOfChoice hls
  refine ⟨_, _, ⟨ls, rs, rfl, rfl, ⟨hG, Or.inl rfl⟩, fun i hi => ?_⟩, ?_, fun x hx => ?_⟩
  ·obtain ⟨cs, h1, h2, h3, _⟩ := hrs i hi
   refine ⟨cs, h1, fun g2 l2 c2 e => ?_, h3⟩
   simp only [Value.slice.injEq, Option.some.injEq, Addr.mk.injEq, and_true] at e
   obtain ⟨rfl, _, _⟩ := e
   exact h2
  ·refine Apt.of_row (fun i hi => ?_) (fun i j x hi hj hij h1 h2 => ?_) (fun i x hi hx h1 => ?_)
   ·obtain ⟨_, _, _, _, h4, _⟩ := hrs i hi; exact h4
   ·obtain ⟨_, _, _, _, _, h5⟩ := hrs i hi
    obtain ⟨_, _, _, _, _, h6⟩ := hrs j hj
    obtain ⟨p, p1, p2, p3⟩ := h5 x h1
    obtain ⟨q, q1, q2, q3⟩ := h6 x h2
    have := p3.one q3 rfl
    simp only [Prod.mk.injEq, true_and] at this
    omega
   ·obtain ⟨_, _, _, _, _, h5⟩ := hrs i hi
    obtain ⟨p, _, _, p3⟩ := h5 x h1
    have := p3.lt
    simp only [Value.ownBlock, Option.some.injEq] at hx
    simp only at this
    omega
  ·rcases KB_row.1 hx with hx | ⟨i, hi, hx⟩
   ·simp only [Value.ownBlock, Option.some.injEq] at hx
    exact Or.inl hx.symm
   ·obtain ⟨_, _, _, _, _, h5⟩ := hrs i hi
    obtain ⟨p, _, _, p3⟩ := h5 x hx
    exact Or.inr ⟨p, p3⟩
end Go.Proofs.YtalhbbabijlngaaGreatDoor
namespace Go.Proofs.YtalhbbabijlngaaGreatDoor
open Go.RowKit
def WS (ys : List Value) (o : Option (Nat × Nat)) (g p : Nat) : Prop := (∃ y, y ∈ ys ∧ y.ownBlock = some g) ∨ ∃ q, o = some (g, q) ∧ q ≤ p
def Rw (wr : World) (y : Value) : Prop := ∀ g l c, y = .slice (some ⟨g, 0, none⟩) l c → l ≤ c ∧ c ≤ maxLen ∧ ∃ cur, wr.heap[g]? = some (.cells cur 26 (0, 0)) ∧ cur.size = c * 7
structure SqT (lo : Nat) (zs ys : List Value) (o : Option (Nat × Nat)) (wr : World) : Prop where
 ex : ∃ NR par bd, Sq lo bd NR par (WS ys o) wr ∧ (∀ g n, NR g n → ∃ cur, wr.heap[g]? = some (.cells cur 26 (0, 0))) ∧ ∀ y g l c, y ∈ zs ++ ys → y = .slice (some ⟨g, 0, none⟩) l c → NR g l
 rw : ∀ y, y ∈ zs → Rw wr y
 sh : ∀ y, y ∈ ys → ∀ a n c, y = .slice (some a) n c → ∃ g, a = ⟨g, 0, none⟩
def oK (ya : Option Addr) (k : Nat) : Option (Nat × Nat) := ya.map fun a => (a.block, k)
theorem SqT.keep {lo : Nat} {zs ys : List Value} {o : Option (Nat × Nat)} {w w' : World} (h : SqT lo zs ys o w) (k : KeepR w w') : SqT lo zs ys o w' := by
 obtain ⟨⟨NR, par, bd, h1, h2, h3⟩, h4, h6⟩ := h
 refine ⟨⟨NR, par, bd, h1.keep h2 k, fun g n hg => ?_, h3⟩, fun y hy g l c e => ?_, h6⟩
 ·obtain ⟨cur, hc⟩ := h2 g n hg
  exact ⟨cur, k.blk g cur _ hc (Or.inl rfl)⟩
 ·obtain ⟨a1, a2, cur, a3, a4⟩ := h4 y hy g l c e
  exact ⟨a1, a2, cur, k.blk g cur _ a3 (Or.inl rfl), a4⟩
theorem SqT.pop {lo : Nat} {zs ys : List Value} {ya : Option Addr} {n c : Nat} {w : World} (h : SqT lo zs (ys ++ [.slice ya n c]) none w) : ∃ NR par bd, Sq lo bd NR par (WS ys (oK ya 0)) w ∧ (∀ g n, NR g n → ∃ cur, w.heap[g]? = some (.cells cur 26 (0, 0))) ∧ (∀ y g l c, y ∈ zs ++ ys → y = .slice (some ⟨g, 0, none⟩) l c → NR g l) ∧ ∀ g, ya = some ⟨g, 0, none⟩ → NR g n := by
 obtain ⟨⟨NR, par, bd, h1, h2, h3⟩, _, _⟩ := h
 have hs : Sq lo bd NR par (WS ys (oK ya 0)) w := h1.less (fun x m q _ _ _ hW => by
  rcases hW with ⟨y, hy, e⟩ | ⟨q', e, _⟩
  ·rcases List.mem_append.1 hy with hy | hy
   ·exact Or.inl ⟨y, hy, e⟩
   ·simp at hy
    subst hy
    refine Or.inr ⟨0, ?_, Nat.zero_le _⟩
    cases ya with
    | none => cases e
    | some a => simp only [Value.ownBlock, Option.some.injEq] at e; simp [oK, e]
  ·cases e)
 have h3' : ∀ y g l c, y ∈ zs ++ ys → y = .slice (some ⟨g, 0, none⟩) l c → NR g l := fun y g l c hy e => h3 y g l c (by
  rcases List.mem_append.1 hy with hy | hy
  ·simp [hy]
  ·simp [hy]) e
 exact ⟨NR, par, bd, hs, h2, h3', fun g e => h3 (.slice ya n c) g n c (List.mem_append.2 (Or.inr (List.mem_append.2 (Or.inr (List.mem_singleton.2 rfl))))) (by rw [e])⟩
structure SqC (lo : Nat) (zs ys : List Value) (ya : Option Addr) (n p : Nat) (wr : World) : Prop where
 ex : ∃ NR par bd, Sq lo bd NR par (WS ys (oK ya p)) wr ∧ (∀ g m, NR g m → ∃ cur, wr.heap[g]? = some (.cells cur 26 (0, 0))) ∧ (∀ y g l c, y ∈ zs ++ ys → y = .slice (some ⟨g, 0, none⟩) l c → NR g l) ∧ ∀ g, ya = some ⟨g, 0, none⟩ → NR g n
 rw : ∀ y, y ∈ zs → Rw wr y
 sh : ∀ y, y ∈ ys → ∀ a n c, y = .slice (some a) n c → ∃ g, a = ⟨g, 0, none⟩
theorem SqC.keep {lo : Nat} {zs ys : List Value} {ya : Option Addr} {n p : Nat} {w w' : World} (h : SqC lo zs ys ya n p w) (k : KeepR w w') : SqC lo zs ys ya n p w' := by
 obtain ⟨⟨NR, par, bd, h1, h2, h3, h5⟩, h4, h6⟩ := h
 refine ⟨⟨NR, par, bd, h1.keep h2 k, fun g n hg => ?_, h3, h5⟩, fun y hy g l c e => ?_, h6⟩
 ·obtain ⟨cur, hc⟩ := h2 g n hg
  exact ⟨cur, k.blk g cur _ hc (Or.inl rfl)⟩
 ·obtain ⟨a1, a2, cur, a3, a4⟩ := h4 y hy g l c e
  exact ⟨a1, a2, cur, k.blk g cur _ a3 (Or.inl rfl), a4⟩
theorem SqC.next {lo : Nat} {zs ys : List Value} {ya : Option Addr} {n p p' : Nat} {w : World} (h : SqC lo zs ys ya n p w) (hp : ∀ q, p ≤ q → (q % 7 = 2 ∨ q % 7 = 5 ∨ q % 7 = 6) → p' ≤ q) : SqC lo zs ys ya n p' w := by
 obtain ⟨⟨NR, par, bd, h1, h2, h3, h5⟩, h4, h6⟩ := h
 refine ⟨⟨NR, par, bd, h1.less (fun x m q _ _ hm hW => ?_), h2, h3, h5⟩, h4, h6⟩
 rcases hW with hW | ⟨q', e, hq⟩
 ·exact Or.inl hW
 ·cases ya with
  | none => cases e
  | some a =>
   simp only [oK, Option.map_some, Option.some.injEq, Prod.mk.injEq] at e
   obtain ⟨e1, rfl⟩ := e
   exact Or.inr ⟨p', by simp [oK, e1], hp q hq hm⟩
theorem SqC.done {lo : Nat} {zs ys : List Value} {ya : Option Addr} {n : Nat} {w : World} (h : SqC lo zs ys ya n (n * 7) w) (hy : ∀ a, ya = some a → ∃ g, a = ⟨g, 0, none⟩) : SqT lo zs ys none w := by
 obtain ⟨⟨NR, par, bd, h1, h2, h3, h5⟩, h4, h6⟩ := h
 refine ⟨⟨NR, par, bd, h1.less (fun x m q hx hq _ hW => ?_), h2, h3⟩, h4, h6⟩
 rcases hW with hW | ⟨q', e, hq'⟩
 ·exact Or.inl hW
 ·cases ya with
  | none => cases e
  | some a =>
   obtain ⟨g, rfl⟩ := hy a rfl
   simp only [oK, Option.map_some, Option.some.injEq, Prod.mk.injEq] at e
   obtain ⟨rfl, rfl⟩ := e
   have := h1.one g m n hx (h5 g rfl)
   subst this
   omega
theorem SqC.put {lo : Nat} {zs ys ys' : List Value} {g n p m T sz : Nat} {v : Value} {cur : Array Value} {xs : List Value} {w0 w : World} (h : SqC lo zs ys (some ⟨g, 0, none⟩) n p w0) (k : KeepR w0 w)
  (hg : w0.heap[g]? = some (.cells cur 26 (0, 0))) (hp : (w.cell? ⟨g, p, none⟩).isSome = true) (hlo : lo ≤ w0.heap.size)
  (ho : w.ownsRow w0.heap.size T sz v m xs) (hT : (p % 7 = 2 ∧ T = 47 ∧ sz = 1) ∨ (p % 7 ≠ 2 ∧ T = 26 ∧ sz = 7))
  (hys : ys' = if p % 7 ≠ 2 ∧ 0 < m then ys ++ [v] else ys) : SqC lo zs ys' (some ⟨g, 0, none⟩) n (p + 1) (w.setCell ⟨g, p, none⟩ v) := by
 obtain ⟨⟨NR, par, bd, h1, h2, h3, h5⟩, h4, h6⟩ := h
 have hg2 := k.blk g cur _ hg (Or.inl rfl)
 have hsub : ∀ y, y ∈ ys → y ∈ ys' := fun y hy => by
  rw [hys]; split
  ·exact List.mem_append.2 (Or.inl hy)
  ·exact hy
 have hin : ∀ y, y ∈ ys' → y ∈ ys ∨ (y = v ∧ p % 7 ≠ 2) := fun y hy => by
  rw [hys] at hy
  split at hy
  ·rename_i hc
   rcases List.mem_append.1 hy with h | h
   ·exact Or.inl h
   ·exact Or.inr ⟨by simpa using h, hc.1⟩
  ·exact Or.inl hy
 have hcs : ∀ (x : Nat) (cu : Array Value) (T' : TypeId), w.heap[x]? = some (.cells cu T' (0, 0)) → ∃ cu', (w.setCell ⟨g, p, none⟩ v).heap[x]? = some (.cells cu' T' (0, 0)) ∧ cu'.size = cu.size := fun x cu T' hx => by
  by_cases hxg : x = g
  ·subst hxg
   rw [hg2] at hx
   simp at hx
   obtain ⟨rfl, rfl⟩ := hx
   exact ⟨_, heap_setCell_same w x p _ _ _ hg2, by simp⟩
  ·exact ⟨cu, (heap_setCell_other _ _ _ _ (fun e => hxg e)).trans hx, rfl⟩
 obtain ⟨NR', par', n1, n2, n3, hS⟩ := Sq.put (W' := WS ys' (oK (some ⟨g, 0, none⟩) (p + 1))) (h1.keep h2 k) hg2 hp (lt_of_block hg) hlo h1.bdw ho hT (fun x q hW hne => by
  rcases hW with ⟨y, hy, e⟩ | ⟨q', e, hq⟩
  ·exact Or.inl ⟨y, hsub y hy, e⟩
  ·simp only [oK, Option.map_some, Option.some.injEq, Prod.mk.injEq] at e
   obtain ⟨rfl, rfl⟩ := e
   exact Or.inr ⟨p + 1, rfl, by
    have : q ≠ p := fun e => hne ⟨rfl, e⟩
    omega⟩) (fun hp2 hm x q e => Or.inl ⟨v, by rw [hys, if_pos ⟨hp2, hm⟩]; simp, e⟩)
 refine ⟨⟨NR', par', _, hS, fun x m' hx => ?_, fun y x l c hy e => ?_, fun x e => n1 x n (h5 x e)⟩, fun y hy x l c e => ?_, fun y hy a l c e => ?_⟩
 ·rcases n2 x m' hx with hx | ⟨hp2, hv, _⟩
  ·obtain ⟨cu, hc⟩ := h2 x m' hx
   obtain ⟨cu', hc', _⟩ := hcs x cu _ (k.blk x cu _ hc (Or.inl rfl))
   exact ⟨cu', hc'⟩
  ·rcases hT with ⟨h, _⟩ | ⟨_, rfl, _⟩
   ·exact absurd h hp2
   obtain ⟨_, ⟨rfl, _⟩ | ⟨gv, cap, cu, rfl, _, hh, _⟩⟩ := ho
   ·cases hv
   ·simp only [Value.ownBlock, Option.some.injEq] at hv
    subst hv
    obtain ⟨cu', hc', _⟩ := hcs _ _ _ hh
    exact ⟨cu', hc'⟩
 ·rcases List.mem_append.1 hy with hy | hy
  ·exact n1 x l (h3 y x l c (List.mem_append.2 (Or.inl hy)) e)
  ·rcases hin y hy with hy | ⟨rfl, hp2⟩
   ·exact n1 x l (h3 y x l c (List.mem_append.2 (Or.inr hy)) e)
   ·have hl : l = m := by
     obtain ⟨a, c', e2⟩ := own_form ho
     rw [e2] at e
     simp only [Value.slice.injEq] at e
     exact e.2.1.symm
    rw [hl]
    exact n3 x hp2 (by rw [e]; rfl)
 ·obtain ⟨a1, a2, cu, a3, a4⟩ := h4 y hy x l c e
  obtain ⟨cu', hc', hs'⟩ := hcs x cu _ (k.blk x cu _ a3 (Or.inl rfl))
  exact ⟨a1, a2, cu', hc', hs'.trans a4⟩
 ·rcases hin y hy with hy | ⟨rfl, _⟩
  ·exact h6 y hy a l c e
  ·obtain ⟨_, ⟨rfl, _⟩ | ⟨gv, cap, cu, rfl, _⟩⟩ := ho
   ·cases e
   ·cases e; exact ⟨gv, rfl⟩
theorem if_ys {p m : Nat} {ys : List Value} {v : Value} (hp : p % 7 ≠ 2) : (if 0 < m then ys ++ [v] else ys) = if p % 7 ≠ 2 ∧ 0 < m then ys ++ [v] else ys := by
 by_cases h : 0 < m <;> simp [h, hp]
theorem St.itemsS {B : Nat} {w : World} {d gt gl gc gm : Nat} {ao : Option Addr} {J : List Tm} {tv : Value} {ys : List Value} {Ls : List (List Tm)} {lf g i : Nat} {a : Option Addr} {c : Nat} {I' : List Tm} {cur : Array Value} {wr w2 : World} {y : Value} {I : List Tm} {xs : List Value} {e : Ending} (h : St B w d gt gl gc gm ao J tv ys Ls lf wr) (hy : TodoOk (B, w.heap.size) d wr y I)
  (hg : wr.heap[g]? = some (.cells cur 26 (0, 0))) (hb : w.heap.size ≤ g) (_hi : i < cur.size) (hp : wr.cell? ⟨g, i, none⟩ = some (.slice a I'.length c)) (hR : RowT (B, w.heap.size) wr d a I') (hx : Rd wr a I'.length 7 xs) (hlf : I'.length ≤ lf) (hz : tszs I' ≤ 1353245080330) (hin : InsP wr gl gt lf w.heap.size I'.length xs ys tv e w2) :
  ∃ (a' : Option Addr) (c' : Nat) (tv' : Value) (ys' : List Value) (Ls' : List (List Tm)), e = .returned (.slice a' I'.length c') ∧ w2.cell? ⟨g, i, none⟩ = some (.slice a I'.length c) ∧ w2.frozen? ⟨g, i, none⟩ = false ∧
   St B w d gt gl gc gm ao J tv' ys' Ls' (lf - I'.length) (w2.setCell ⟨g, i, none⟩ (.slice a' I'.length c')) ∧ TodoOk (B, w.heap.size) d (w2.setCell ⟨g, i, none⟩ (.slice a' I'.length c')) y I ∧ belS Ls' ≤ belS Ls + belR I' ∧ masS Ls' ≤ masS Ls + (1 + masR I') ∧
   ys' = (if 0 < I'.length then ys ++ [.slice a' I'.length c'] else ys) ∧ w2.ownsRow wr.heap.size 26 7 (.slice a' I'.length c') I'.length xs ∧ KeepR wr w2 := by
 obtain ⟨v, tv', ys', Ls', a', c', he, hv, ho, hSt, k, hys⟩ := h.ins hR hx hlf hz hin
 subst hv
 obtain ⟨_, _, _, _, _, _, _, hu⟩ := hin
 have hlt := lt_of_block hg
 have hgS : g ∉ [gl, gt] ++ tv.ownBlock.toList := fun hm => by
  obtain ⟨_, cur', T, fr, hh, h3, _⟩ := h.turns g hm
  rw [hh] at hg
  simp at hg
  exact h3 hg.2.1
 have hg2 := (hu.block g hlt hgS).trans hg
 have hp2 := (hu.cell (p := ⟨g, i, none⟩) hlt hgS).trans hp
 obtain ⟨t1, t2⟩ := Ty.upd (base := (B, w.heap.size)) hu h.turns
 have hx2 : Rd w2 a I'.length 7 xs := hx.upd hu (fun ad ea h0 => by
  rcases hR with h | ⟨b, o, rfl, hty, _, _⟩
  ·rw [h] at h0; exact absurd rfl h0
  ·cases ea; exact t1 b hty)
 have k2 := Keep.items (c' := c') (a' := a') hg2 hp2 (k.rowT hR) hx2 ho hlt h.upd.size
 refine ⟨a', c', tv', ys', Ls', he, hp2, frozen_of_row w2 g i _ _ hg2, hSt.set hg2 hb k2, (hy.keep k).keep k2, ?_, ?_, ?_, ho, KeepR.upd hu (fun x hx => (h.turns x hx).2)⟩
 ·by_cases h0 : 0 < I'.length
  ·rw [if_pos h0] at hys; rw [(Prod.mk.inj hys).2, belS_snoc]; exact Nat.le_refl _
  ·rw [if_neg h0] at hys; rw [(Prod.mk.inj hys).2]; omega
 ·by_cases h0 : 0 < I'.length
  ·rw [if_pos h0] at hys; rw [(Prod.mk.inj hys).2, masS_snoc]; exact Nat.le_refl _
  ·rw [if_neg h0] at hys; rw [(Prod.mk.inj hys).2]; omega
 ·by_cases h0 : 0 < I'.length
  ·rw [if_pos h0] at hys ⊢; exact (Prod.mk.inj hys).1
  ·rw [if_neg h0] at hys ⊢; exact (Prod.mk.inj hys).1
def FreshS (B : Nat) (w : World) (d : Nat) (J : List Tm) (e : Ending) (w' : World) : Prop := ∃ a c, e = .returned (.slice a J.length c) ∧ RowT (B, w.heap.size) w' d a J ∧ Upd [] w w' ∧ J.length ≤ c ∧ c ≤ 9223372036854775807 ∧ ∃ LB RB, RowBT 0 (BT 0 w' d) w' (.slice a J.length c) J LB RB ∧ Apt LB RB ∧ ∀ x, x ∈ KB LB RB → w.heap.size ≤ x
theorem SqT.end {lo d : Nat} {P : Nat → Prop} {zs : List Value} {a : Option Addr} {c : Nat} {J : List Tm} {w : World} (h : SqT lo zs [] none w) (hz : .slice a J.length c ∈ zs) (ha : ∀ ad, a = some ad → ∃ g, ad = ⟨g, 0, none⟩ ∧ lo ≤ g) (h0 : a = none → J = [] ∧ c = 0) (hR : RowB P (InB P w d) w a J) : ∃ LB RB, RowBT 0 (BT 0 w d) w (.slice a J.length c) J LB RB ∧ Apt LB RB ∧ ∀ x, x ∈ KB LB RB → lo ≤ x := by
 obtain ⟨⟨NR, par, bd, h1, h2, h3⟩, h4, _⟩ := h
 cases a with
 | none =>
  obtain ⟨rfl, rfl⟩ := h0 rfl
  refine ⟨[], [.slice none 0 0], ⟨fun _ => [], fun _ => [], rfl, rfl, ⟨Or.inl ⟨rfl, rfl⟩, Or.inl rfl⟩, fun i hi => by simp at hi⟩, ⟨by simp [bks], by simp [bks, Value.ownBlock], by simp [bks]⟩, fun x hx => ?_⟩
  simp [KB, bks, Value.ownBlock] at hx
 | some ad =>
  obtain ⟨g, rfl, hg⟩ := ha ad rfl
  have hf : Sq lo bd NR par (fun _ _ => False) w := h1.less (fun x m q _ _ _ hW => by
   rcases hW with ⟨y, hy, _⟩ | ⟨q', e, _⟩
   ·simp at hy
   ·cases e)
  obtain ⟨a1, a2, cur, a3, a4⟩ := h4 _ hz g J.length c rfl
  have hG : RowG w 7 (.slice (some ⟨g, 0, none⟩) J.length c) J.length := by
   refine Or.inr ⟨g, c, rfl, lt_of_block a3, a1, a2, fun j hj => ⟨?_, frozen_of_row _ _ _ _ _ a3⟩⟩
   rw [cell_of_row _ _ _ _ _ _ a3, Array.getElem?_eq_getElem (by omega)]; rfl
  obtain ⟨LB, RB, b1, b2, b3⟩ := hf.row d g c J (fun _ => h3 _ g J.length c (List.mem_append.2 (Or.inl hz)) rfl) hG hR
  refine ⟨LB, RB, b1, b2, fun x hx => ?_⟩
  rcases b3 x hx with rfl | ⟨p, hp⟩
  ·exact hg
  ·have := hp.lt; simp only at this; omega
set_option maxHeartbeats 2000000 in
set_option maxRecDepth 100000 in
theorem fresh_anyS (B b o m c d : Nat) (l : List RowV) (J : List Tm) (w : World) (hm : m = l.length) (h : RowsAt w b o l) (hT : RowsT B w d l J) (hBw : B ≤ w.heap.size) (hl : l.length ≤ 1000) (hn : J.length ≤ 65536) (hbel : belR J ≤ 65536) (hsz : tszs J ≤ 1353245080330) :
  Calls Tryz.prog 50 #[.slice (some ⟨b, o, none⟩) m c] w (FreshS B w d J) := by
 subst hm
 have hlen := hT.len
 have HC : Hid (Calls Tryz.prog 82 #[.slice (some ⟨b, o, none⟩) l.length c] w fun e w' => ∃ v, e = .returned v ∧ Own w' w.heap.size 26 7 J.length v (catX l) ∧ Upd [] w w') := by
  rw [← hlen]; exact Concat_any b o _ c l w rfl h hl (by omega)
 have HT : Hid (RowsT B w d l J) := hT
 have HB : Hid (belR J ≤ 65536) := hbel
 have HSZ : Hid (tszs J ≤ 1353245080330) := hsz
 clear h hT hbel hlen hsz
 go_enter Tryz.func50, Tryz.ntmps50
 go_wp2_with fail
 refine Calls.mono HC.out ?_
 rintro e w1 ⟨v, rfl, ⟨hO, a', c', rfl⟩, hU1⟩
 have HO : Hid (w1.ownsRow w.heap.size 26 7 (.slice a' J.length c') J.length (catX l)) := hO
 have HU1 : Hid (Upd [] w w1) := hU1
 have HCAP : Hid (J.length ≤ c' ∧ c' ≤ 9223372036854775807) := by
  obtain ⟨_, ⟨e, h1⟩ | ⟨g, cap, cur, e, hb, hh, hc1, hc2, hcs, htk⟩⟩ := id hO
  ·injection e with _ e1 e2; exact ⟨by omega, by omega⟩
  ·cases e; unfold maxLen at hc2; exact ⟨hc1, by omega⟩
 have HRW : Hid (Rw w1 (.slice a' J.length c') ∧ (∀ ad, a' = some ad → ∃ g, ad = ⟨g, 0, none⟩ ∧ w.heap.size ≤ g) ∧ (a' = none → J = [] ∧ c' = 0)) := by
  obtain ⟨_, ⟨e, h1⟩ | ⟨g, cap, cur, e, hb, hh, hc1, hc2, hcs, htk⟩⟩ := id hO
  ·injection e with e0 e1 e2
   refine ⟨fun g l c e => ?_, fun ad h => ?_, fun _ => ⟨List.eq_nil_of_length_eq_zero h1, e2⟩⟩
   ·rw [e0] at e; cases e
   ·rw [e0] at h; cases h
  ·cases e
   refine ⟨fun g l c e => ?_, fun ad h => ⟨g, by cases h; rfl, hb⟩, fun h => by cases h⟩
   simp only [Value.slice.injEq, Option.some.injEq, Addr.mk.injEq, and_true] at e
   obtain ⟨rfl, rfl, rfl⟩ := e
   exact ⟨hc1, hc2, cur, hh, hcs⟩
 clear hO hU1 HC
 go_wp2_with (go_at_call 83; refine Calls.mono (cloning_any _) ?_; rintro e w2 ⟨rfl, hB2, hU2⟩)
 have hs1 := HU1.out.size
 have hsA : ((w1.alloc (.cells #[.slice a' J.length c'] 24)).alloc (.cells #[.slice (some ⟨w1.heap.size, 0, none⟩) 1 1] 36)).heap.size = w1.heap.size + 1 + 1 := by simp
 rw [hsA] at hB2
 have hsB : w1.heap.size + 1 + 1 < w2.heap.size := hB2.lt
 have hUa : Upd [] w1 ((w1.alloc (.cells #[.slice a' J.length c'] 24)).alloc (.cells #[.slice (some ⟨w1.heap.size, 0, none⟩) 1 1] 36)) := ((Upd.refl [] w1).alloc _).alloc _
 have hUb : Upd [] w2 (w2.alloc (.cells #[.func (.func 138) #[] #[.pointer (some ⟨w1.heap.size + 1 + 1, 0, none⟩), .pointer (some ⟨w1.heap.size + 1 + 1 + 1, 0, none⟩)]] 101)) := (Upd.refl [] w2).alloc _
 have hUc := hU2.trans hUb
 have hSt : St B w d (w1.heap.size + 1) (w1.heap.size + 1 + 1) w2.heap.size (w1.heap.size + 1 + 1 + 1) a' J (.slice (some ⟨w1.heap.size, 0, none⟩) 1 1) [.slice a' J.length c'] [J] 65536 (w2.alloc (.cells #[.func (.func 138) #[] #[.pointer (some ⟨w1.heap.size + 1 + 1, 0, none⟩), .pointer (some ⟨w1.heap.size + 1 + 1 + 1, 0, none⟩)]] 101)) := by
  have hUw : Upd [] w1 (w2.alloc (.cells #[.func (.func 138) #[] #[.pointer (some ⟨w1.heap.size + 1 + 1, 0, none⟩), .pointer (some ⟨w1.heap.size + 1 + 1 + 1, 0, none⟩)]] 101)) := hUa.trans hUc
  have hU0 := HU1.out.trans hUw
  have hO := own_upd HO.out hUw (by simp)
  have hTd : TodoOk (B, w.heap.size) d (w2.alloc (.cells #[.func (.func 138) #[] #[.pointer (some ⟨w1.heap.size + 1 + 1, 0, none⟩), .pointer (some ⟨w1.heap.size + 1 + 1 + 1, 0, none⟩)]] 101)) (.slice a' J.length c') J := by
   refine ⟨HSZ.out, a', c', rfl, ?_, ?_⟩
   ·by_cases h0 : J = []
    ·exact Or.inl h0
    have hpos : 0 < J.length := by cases J with | nil => exact absurd rfl h0 | cons x t => simp
    obtain ⟨g, c2, e, hb, hty, hlt, hc⟩ := own_ty (base := (B, w.heap.size)) hO (Or.inl rfl) hpos (Nat.le_refl _)
    cases e
    refine Or.inr ⟨g, 0, rfl, hty, hlt, fun i hi => ?_⟩
    obtain ⟨cs, k1, k2, k3⟩ := HT.out.cells i hi
    exact ⟨cs, k1, fun j hj => by rw [Nat.zero_add, hc _ (by omega)]; exact k2 j hj, InB.upd hU0 (by simp) (fun b hb _ => Or.inl hb) _ _ _ k3⟩
   ·by_cases h0 : J = []
    ·exact Or.inl h0
    have hpos : 0 < J.length := by cases J with | nil => exact absurd rfl h0 | cons x t => simp
    obtain ⟨_, ⟨_, h1⟩ | ⟨g, cap, cur, e, hbg, hh, hc1, _, hcs, _⟩⟩ := hO
    ·omega
    ·cases e
     exact Or.inr ⟨g, cur, rfl, hbg, hh, by rw [hcs]; exact Nat.mul_le_mul_right 7 hc1⟩
  obtain ⟨_, _, _, e, hRow, _⟩ := id hTd
  cases e
  refine ⟨hU0, hRow, ?_, ?_, ⟨hTd, trivial⟩, hB2.mono hUb (by simp), FunB.new _ _ _ _ rfl, by omega, by omega, Nat.le_refl _, by simp, hBw⟩
  ·exact (FunB.new (w1.alloc (.cells #[.slice a' J.length c'] 24)) _ _ (w1.heap.size + 1) (by simp)).mono hUc (by simp)
  ·have h1 : (w1.alloc (.cells #[.slice a' J.length c'] 24)).ownsRow w.heap.size 24 1 (.slice (some ⟨w1.heap.size, 0, none⟩) 1 1) 1 [.slice a' J.length c'] := ⟨rfl, Or.inr ⟨w1.heap.size, 1, _, rfl, hs1, heap_alloc_new w1 _, Nat.le_refl _, by unfold maxLen; omega, rfl, rfl⟩⟩
   exact own_upd (own_upd h1 ((Upd.refl [] _).alloc _) (by simp)) hUc (by simp)
 have HST : Hid (St B w d (w1.heap.size + 1) (w1.heap.size + 1 + 1) w2.heap.size (w1.heap.size + 1 + 1 + 1) a' J (.slice (some ⟨w1.heap.size, 0, none⟩) 1 1) [.slice a' J.length c'] [J] 65536 (w2.alloc (.cells #[.func (.func 138) #[] #[.pointer (some ⟨w1.heap.size + 1 + 1, 0, none⟩), .pointer (some ⟨w1.heap.size + 1 + 1 + 1, 0, none⟩)]] 101))) := hSt
 have HSQ : Hid (SqT w.heap.size [.slice a' J.length c'] [.slice a' J.length c'] none (w2.alloc (.cells #[.func (.func 138) #[] #[.pointer (some ⟨w1.heap.size + 1 + 1, 0, none⟩), .pointer (some ⟨w1.heap.size + 1 + 1 + 1, 0, none⟩)]] 101))) := by
  have k : KeepR w1 (w2.alloc (.cells #[.func (.func 138) #[] #[.pointer (some ⟨w1.heap.size + 1 + 1, 0, none⟩), .pointer (some ⟨w1.heap.size + 1 + 1 + 1, 0, none⟩)]] 101)) := KeepR.new (hUa.trans hUc)
  refine SqT.keep (w := w1) ⟨⟨fun x m => (Value.slice a' J.length c').ownBlock = some x ∧ m = J.length, fun _ => (0, 0), w1.heap.size, ⟨fun g n m h1 h2 => h1.2.trans h2.2.symm, Nat.le_refl _, fun g n h => ?_, fun g n p h _ _ => Or.inl (Or.inl ⟨_, by simp, h.1⟩)⟩, fun g n h => ?_, fun y g l c hy e => ?_⟩, fun y hy => by simp at hy; subst hy; exact HRW.out.1, fun y hy a n c e => by
   simp at hy
   subst hy
   simp only [Value.slice.injEq] at e
   obtain ⟨g, hg, _⟩ := HRW.out.2.1 a e.1
   exact ⟨g, hg⟩⟩ k
  ·obtain ⟨ad, hda⟩ : ∃ ad, a' = some ad := by
    cases a' with
    | none => cases h.1
    | some ad => exact ⟨ad, rfl⟩
   obtain ⟨g', rfl, hl⟩ := HRW.out.2.1 ad hda
   subst hda
   have e : g' = g := by simpa [Value.ownBlock] using h.1
   subst e
   obtain ⟨_, _, cur, hc, _⟩ := HRW.out.1 g' _ _ rfl
   exact ⟨hl, lt_of_block hc⟩
  ·obtain ⟨ad, hda⟩ : ∃ ad, a' = some ad := by
    cases a' with
    | none => cases h.1
    | some ad => exact ⟨ad, rfl⟩
   obtain ⟨g', rfl, hl⟩ := HRW.out.2.1 ad hda
   subst hda
   have e : g' = g := by simpa [Value.ownBlock] using h.1
   subst e
   obtain ⟨_, _, cur, hc, _⟩ := HRW.out.1 g' _ _ rfl
   exact ⟨cur, hc⟩
  ·simp at hy
   subst hy
   simp only [Value.slice.injEq] at e
   obtain ⟨rfl, rfl, rfl⟩ := e
   exact ⟨rfl, rfl⟩
 clear hSt hUc hUb hUa hB2 hU2 hsA HO HU1
 obtain ⟨gt, hgt⟩ : ∃ gt, gt = w1.heap.size + 1 := ⟨_, rfl⟩
 obtain ⟨gl, hgl⟩ : ∃ gl, gl = w1.heap.size + 1 + 1 := ⟨_, rfl⟩
 obtain ⟨gc, hgc⟩ : ∃ gc, gc = w2.heap.size := ⟨_, rfl⟩
 rw [← hgl, ← hgt, ← hgc] at HST
 rw [← hgl] at HSQ
 rw [← hgl, ← hgt, ← hgc]
 clear hgt hgl hgc
 go_loopg [7] (1 + masR J) (fun n r wr => ∃ tv ys Ls lf, masS Ls ≤ n ∧ belS Ls ≤ lf ∧ St B w d gt gl gc (gl + 1) a' J tv ys Ls lf wr ∧ SqT w.heap.size [.slice a' J.length c'] ys none wr)
 case atStart => exact ⟨_, _, _, _, by simp [masS], by simp [belS]; exact HB.out, HST.out, HSQ.out⟩
 case round =>
  obtain ⟨tv, ys, Ls, lf, hmas, hbel, hSt, hSq⟩ := hrel
  clear HSQ
  by_cases hy0 : 0 < ys.length
  ·obtain ⟨ys0, y, Ls0, I, rfl, rfl, hrows, hy⟩ := hSt.rows.pop hy0
   obtain ⟨at0, ct0, htv⟩ := own_form hSt.own
   subst htv
   obtain ⟨hown0, g0, rfl, hcap, hcell⟩ := ownsRow_take hSt.own
   obtain ⟨hzI, ya, yc, rfl, _⟩ := id hy
   have hfew := hSt.few
   have yt : wr.cell? ⟨gt, 0, none⟩ = some (.slice (some ⟨g0, 0, none⟩) (ys0 ++ [Value.slice ya I.length yc]).length ct0) := hSt.box.cell
   have zt : wr.frozen? ⟨gt, 0, none⟩ = false := hSt.box.free
   rw [masS_snoc] at hmas
   rw [belS_snoc] at hbel
   have hlen2 : (ys0 ++ [Value.slice ya I.length yc]).length = ys0.length + 1 := by simp
   rw [hlen2] at yt hcap hfew
   have hcap2 : ct0 ≤ 9223372036854775807 := by
    obtain ⟨_, ⟨e, _⟩ | ⟨g, cap, cur, e, _, _, _, hm, _⟩⟩ := hown0
    ·cases e
    ·cases e; unfold maxLen at hm; omega
   -- the box is turned to what is left
   have hSt2 : St B w d gt gl gc (gl + 1) a' J (.slice (some ⟨g0, 0, none⟩) ys0.length ct0) ys0 Ls0 lf (wr.setCell ⟨gt, 0, none⟩ (.slice (some ⟨g0, 0, none⟩) ys0.length ct0)) ∧ TodoOk (B, w.heap.size) d (wr.setCell ⟨gt, 0, none⟩ (.slice (some ⟨g0, 0, none⟩) ys0.length ct0)) (.slice ya I.length yc) I := by
    have hu : Upd [gt] wr (wr.setCell ⟨gt, 0, none⟩ (.slice (some ⟨g0, 0, none⟩) ys0.length ct0)) := (Upd.refl [gt] wr).setCell (Or.inr (by simp)) _
    have k : Keep (B, w.heap.size) wr (wr.setCell ⟨gt, 0, none⟩ (.slice (some ⟨g0, 0, none⟩) ys0.length ct0)) := Keep.upd hu (fun x hx => hSt.turns x (by simp at hx; subst hx; simp))
    refine ⟨⟨hSt.upd.setCell (Or.inl hSt.gt0) _, k.rowT hSt.out, hSt.box.set _, own_upd hown0 hu (fun x hx hm => ?_), hrows.keep k, hSt.left.mono hu (fun hm => ?_), hSt.fn.mono hu (fun hm => ?_), hSt.gt0, hSt.gl0, hSt.max, by omega, hSt.low⟩, hy.keep k⟩
    ·simp at hm; subst hm; exact own_ne hown0 hSt.box (by decide) hx
    ·simp at hm; exact (hSt.left.fun.ne hSt.box (by decide)) hm
    ·simp at hm; exact (hSt.fn.ne hSt.box (by decide)) hm
   have HSC2 : Hid (SqC w.heap.size [.slice a' J.length c'] ys0 ya I.length 0 (wr.setCell ⟨gt, 0, none⟩ (.slice (some ⟨g0, 0, none⟩) ys0.length ct0))) := by
    have hu : Upd [gt] wr (wr.setCell ⟨gt, 0, none⟩ (.slice (some ⟨g0, 0, none⟩) ys0.length ct0)) := (Upd.refl [gt] wr).setCell (Or.inr (by simp)) _
    exact SqC.keep ⟨hSq.pop, hSq.rw, fun y hy => hSq.sh y (List.mem_append.2 (Or.inl hy))⟩ (KeepR.upd hu (fun x hx => (hSt.turns x (by simp at hx; subst hx; simp)).2))
   have HYA : Hid (∀ a, ya = some a → ∃ g, a = ⟨g, 0, none⟩) := fun a ha => hSq.sh (.slice ya I.length yc) (by simp) a I.length yc (by rw [ha])
   clear hSq
   have HS2 : Hid _ := hSt2
   have HM : Hid (masS Ls0 + (1 + masR I) ≤ gk) := hmas
   have HBl : Hid (belS Ls0 + belR I ≤ lf) := hbel
   have n1 : (0 : Int) < ((ys0.length + 1 : Nat) : Int) := by omega
   clear hSt2 hmas hbel hSt hrows hy hown0 hy0 HST
   have hIl : I.length ≤ 1353245080330 := Nat.le_trans (tszs_len I) hzI
   go_wp2
   go_loopw [31] (fun i wr => ∃ (k : Nat) (tv : Value) (ys : List Value) (Ls : List (List Tm)) (lf : Nat), k ≤ I.length ∧ i = .int .i64 k ∧ St B w d gt gl gc (gl + 1) a' J tv ys Ls lf wr ∧ TodoOk (B, w.heap.size) d wr (.slice ya I.length yc) I ∧ belS Ls + belR (I.drop k) ≤ lf ∧ masS Ls + k ≤ masS Ls0 + masR (I.take k) ∧ SqC w.heap.size [.slice a' J.length c'] ys ya I.length (k * 7) wr) (fun i _ => I.length - (intOf i).toNat)
   case atStart => exact ⟨0, _, _, _, _, Nat.zero_le _, rfl, HS2.out.1, HS2.out.2, by simpa using HBl.out, by simp, HSC2.out⟩
   case round =>
    obtain ⟨k, tv, ys, Ls, lf2, hk, rfl, hSt, hy, hbel, hmas, hSc⟩ := hrel
    clear HSC2
    by_cases hlt : k < I.length
    ·have i1 : (k : Int) < (I.length : Int) := by omega
     obtain ⟨⟨kd, num, neg, L, s, I', T'⟩, ht⟩ : ∃ t, I[k] = t := ⟨_, rfl⟩
     have hszk := tszs_get I k hlt
     rw [ht] at hszk
     simp only [tsz] at hszk
     have zL : L.length ≤ 35184372088800 := by omega
     have zI : tszs I' ≤ 1353245080330 := by omega
     have zT : tszs T' ≤ 1353245080330 := by omega
     have hbd := belR_drop I k hlt
     have hmt := masR_take I k hlt
     rw [ht, belT] at hbd
     rw [ht, masT] at hmt
     obtain ⟨g, cg, cur, al, ai, at', cl, ci, ct, hye, hbg, hh, hsz, c2, c5, c6, hA, hRi, hRt⟩ := hy.open hlt ht
     cases hye
     have HST3 : Hid (St B w d gt gl gc (gl + 1) a' J tv ys Ls lf2 _) := hSt
     have HY3 : Hid (TodoOk (B, w.heap.size) d _ _ I) := hy
     have HSC : Hid (SqC w.heap.size [.slice a' J.length c'] ys (some ⟨g, 0, none⟩) I.length (k * 7) _) := hSc
     have HCU : Hid _ := CloneU_any al L.length cl _ _ hA.rd zL
     have HA3 : Hid _ := hA
     have HH3 : Hid _ := hh
     have HNUM : Hid (belS Ls + belR (I.drop k) ≤ lf2 ∧ masS Ls + k ≤ masS Ls0 + masR (I.take k) ∧ belR (I.drop k) = I'.length + belR I' + (T'.length + belR T') + belR (I.drop (k + 1)) ∧ masR (I.take (k + 1)) = masR (I.take k) + (3 + masR I' + masR T')) := ⟨hbel, hmas, hbd, hmt⟩
     have HTK : Hid (I[k] = _) := ht
     have HZZ : Hid (tszs I' ≤ 1353245080330 ∧ tszs T' ≤ 1353245080330) := ⟨zI, zT⟩
     clear hSt hy hA hh hbel hmas hbd hmt hRi hRt c5 c6 ht hszk zI zT hSc
     go_wp2_with fail
     refine Calls.mono HCU.out ?_
     rintro e w3 ⟨v3, rfl, ⟨hO3, a3, k3, hv3⟩, hU3⟩
     subst hv3
     have hSy := HST3.out.limbs HY3.out HH3.out hbg c2 HA3.out hU3 hO3
     have HSC3 : Hid (SqC w.heap.size [.slice a' J.length c'] ys (some ⟨g, 0, none⟩) I.length (k * 7 + 5) (w3.setCell ⟨g, k * 7 + 2, none⟩ (.slice a3 L.length k3))) :=
      ((HSC.out.next (p' := k * 7 + 2) (fun q hq hm => by omega)).put (ys' := ys) (KeepR.new hU3) HH3.out (by rw [(hU3.cell (p := ⟨g, k * 7 + 2, none⟩) (lt_of_block HH3.out) (by simp)).trans c2]; rfl) HST3.out.upd.size hO3 (Or.inl ⟨by omega, rfl, rfl⟩) (by rw [if_neg (by omega)])).next (fun q hq hm => by omega)
     have hlt3 := lt_of_block HH3.out
     have hh3 := (hU3.block g hlt3 (by simp)).trans HH3.out
     have x2 : w3.cell? ⟨g, k * 7 + 2, none⟩ = some (.slice al L.length cl) := (hU3.cell (p := ⟨g, k * 7 + 2, none⟩) hlt3 (by simp)).trans c2
     have f2 : w3.frozen? ⟨g, k * 7 + 2, none⟩ = false := frozen_of_row w3 g _ _ _ hh3
     obtain ⟨hSt4, hy4⟩ := hSy
     obtain ⟨g4, cg4, cur4, al4, ai4, at4, cl4, ci4, ct4, e4, hb4, hh4, hsz4, d2, d5, d6, hA4, hRi4, hRt4⟩ := hy4.open hlt HTK.out
     simp only [Value.slice.injEq, Option.some.injEq, Addr.mk.injEq, true_and, and_true] at e4
     obtain ⟨rfl, rfl⟩ := e4
     obtain ⟨xs4, hx4⟩ := hRi4.rd
     obtain ⟨nb, nm, nd, nt⟩ := HNUM.out
     have hf4 := hSt4.few
     have hl4 : I'.length ≤ lf2 := by omega
     have HIN4 : Hid (Calls Tryz.prog 84 #[.slice ai4 I'.length ci4, .pointer (some ⟨gc, 0, none⟩), .pointer (some ⟨gt, 0, none⟩)] (w3.setCell ⟨g, k * 7 + 2, none⟩ (.slice a3 L.length k3)) (InsP (w3.setCell ⟨g, k * 7 + 2, none⟩ (.slice a3 L.length k3)) gl gt lf2 w.heap.size I'.length xs4 ys tv)) :=
      inside_any ai4 I'.length ci4 gl (gl + 1) gc gt lf2 w.heap.size xs4 ys tv _ hx4 (hRi4.far hSt4.left.fun (Nat.le_trans hSt4.low hSt4.gl0) (by decide) (by decide)) hSt4.left hl4 hSt4.max hSt4.fn hSt4.box hSt4.own (by omega) hSt4.upd.size
     have HIT : Hid (∀ e w2, InsP (w3.setCell ⟨g, k * 7 + 2, none⟩ (.slice a3 L.length k3)) gl gt lf2 w.heap.size I'.length xs4 ys tv e w2 → _) := fun e w2 hin => hSt4.itemsS hy4 hh4 hb4 (by omega) d5 hRi4 hx4 hl4 HZZ.out.1 hin
     have HH4 : Hid _ := hh4
     have HL4 : Hid _ := hSt4.upd.size
     clear hSt4 hy4 hh4 hA4 hRi4 hRt4 hx4 d2 d6 hsz4 hf4 nb nm nd nt hO3 hU3 hh3 hl4
     go_wp2_with fail
     refine Calls.mono HIN4.out ?_
     intro e w5 hin5
     obtain ⟨a5, k5, tv5, ys5, Ls5, rfl, p5, f5, hSt5, hy5, hbel5, hmas5, hys5, ho5, hk5⟩ := HIT.out e w5 hin5
     have HSC5 : Hid (SqC w.heap.size [.slice a' J.length c'] ys5 (some ⟨g, 0, none⟩) I.length (k * 7 + 5 + 1) (w5.setCell ⟨g, k * 7 + 5, none⟩ (.slice a5 I'.length k5))) :=
      HSC3.out.put hk5 HH4.out (by rw [p5]; rfl) HL4.out ho5 (Or.inr ⟨by omega, rfl, rfl⟩) (by rw [hys5]; exact if_ys (by omega))
     clear hys5 ho5 hk5
     obtain ⟨g6, cg6, cur6, al6, ai6, at6, cl6, ci6, ct6, e6, hb6, hh6, hsz6, e2, e5, e6', hA6, hRi6, hRt6⟩ := hy5.open hlt HTK.out
     simp only [Value.slice.injEq, Option.some.injEq, Addr.mk.injEq, true_and, and_true] at e6
     obtain ⟨rfl, rfl⟩ := e6
     obtain ⟨xs6, hx6⟩ := hRt6.rd
     obtain ⟨nb, nm, nd, nt⟩ := HNUM.out
     have hf6 := hSt5.few
     have hl6 : T'.length ≤ lf2 - I'.length := by omega
     have HIN6 : Hid (Calls Tryz.prog 84 #[.slice at6 T'.length ct6, .pointer (some ⟨gc, 0, none⟩), .pointer (some ⟨gt, 0, none⟩)] (w5.setCell ⟨g, k * 7 + 5, none⟩ (.slice a5 I'.length k5)) (InsP (w5.setCell ⟨g, k * 7 + 5, none⟩ (.slice a5 I'.length k5)) gl gt (lf2 - I'.length) w.heap.size T'.length xs6 ys5 tv5)) :=
      inside_any at6 T'.length ct6 gl (gl + 1) gc gt (lf2 - I'.length) w.heap.size xs6 ys5 tv5 _ hx6 (hRt6.far hSt5.left.fun (Nat.le_trans hSt5.low hSt5.gl0) (by decide) (by decide)) hSt5.left hl6 hSt5.max hSt5.fn hSt5.box hSt5.own (by omega) hSt5.upd.size
     have HIT6 : Hid (∀ e w2, InsP (w5.setCell ⟨g, k * 7 + 5, none⟩ (.slice a5 I'.length k5)) gl gt (lf2 - I'.length) w.heap.size T'.length xs6 ys5 tv5 e w2 → _) := fun e w2 hin => hSt5.itemsS hy5 hh6 hb6 (by omega) e6' hRt6 hx6 hl6 HZZ.out.2 hin
     have HH6 : Hid _ := hh6
     have HL6 : Hid _ := hSt5.upd.size
     have HN5 : Hid (belS Ls5 ≤ belS Ls + belR I' ∧ masS Ls5 ≤ masS Ls + (1 + masR I')) := ⟨hbel5, hmas5⟩
     clear hSt5 hy5 hh6 hA6 hRi6 hRt6 hx6 e2 e5 hsz6 hf6 nb nm nd nt hin5 hbel5 hmas5 hl6 HIT HIN4
     go_wp2_with fail
     refine Calls.mono HIN6.out ?_
     intro e w7 hin7
     obtain ⟨a7, k7, tv7, ys7, Ls7, rfl, p7, f7, hSt7, hy7, hbel7, hmas7, hys7, ho7, hk7⟩ := HIT6.out e w7 hin7
     have HSC7 : Hid (SqC w.heap.size [.slice a' J.length c'] ys7 (some ⟨g, 0, none⟩) I.length (k * 7 + 6 + 1) (w7.setCell ⟨g, k * 7 + 6, none⟩ (.slice a7 T'.length k7))) :=
      HSC5.out.put hk7 HH6.out (by rw [p7]; rfl) HL6.out ho7 (Or.inr ⟨by omega, rfl, rfl⟩) (by rw [hys7]; exact if_ys (by omega))
     clear hys7 ho7 hk7
     have HS7 : Hid (St B w d gt gl gc (gl + 1) a' J tv7 ys7 Ls7 _ _) := hSt7
     have HY7 : Hid (TodoOk _ _ _ _ _) := hy7
     have HN7 : Hid (belS Ls7 ≤ belS Ls5 + belR T' ∧ masS Ls7 ≤ masS Ls5 + (1 + masR T')) := ⟨hbel7, hmas7⟩
     clear hSt7 hy7 hbel7 hmas7 hin7 HIT6 HIN6
     go_wp2
     go_roundw
     case rel =>
      obtain ⟨nb, nm, nd, nt⟩ := HNUM.out
      obtain ⟨n5, m5⟩ := HN5.out
      obtain ⟨n7, m7⟩ := HN7.out
      exact ⟨k + 1, tv7, ys7, Ls7, _, by omega, by go_num, HS7.out, HY7.out, by omega, by omega, by rw [show (k + 1) * 7 = k * 7 + 6 + 1 by omega]; exact HSC7.out⟩
     case measure => simp [intOf]; omega
    ·have hd : decide ((k : Int) < (I.length : Int)) = false := by simp; omega
     have HS3 : Hid (St B w d gt gl gc (gl + 1) a' J tv ys Ls lf2 _) := hSt
     have HSCd : Hid (SqT w.heap.size [.slice a' J.length c'] ys none wr) := SqC.done (by rw [show I.length * 7 = k * 7 by congr 1; omega]; exact hSc) HYA.out
     have he : I.drop k = [] := List.drop_of_length_le (by omega)
     have he2 : I.take k = I := List.take_of_length_le (by omega)
     have HN : Hid (belS Ls ≤ lf2 ∧ masS Ls < gk) := by
      rw [he2] at hmas
      have := HM.out
      exact ⟨by omega, by omega⟩
     clear hSt hy hbel hmas he he2 hSc
     go_wp2
     go_roundg (masS Ls)
     case measure => exact HN.out.2
     case rel => exact ⟨tv, ys, Ls, lf2, Nat.le_refl _, HN.out.1, HS3.out, HSCd.out⟩
  ·have h0 : ys.length = 0 := by omega
   obtain ⟨at0, ct0, htv⟩ := own_form hSt.own
   subst htv
   have yt : wr.cell? ⟨gt, 0, none⟩ = some (.slice at0 0 ct0) := by have := hSt.box.cell; rw [h0] at this; exact this
   have HS3 : Hid (St B w d gt gl gc (gl + 1) a' J _ ys Ls lf wr) := hSt
   have HSE : Hid (SqT w.heap.size [.slice a' J.length c'] [] none wr) := by
    have e : ys = [] := List.eq_nil_of_length_eq_zero h0
    rw [e] at hSq
    exact hSq
   clear hSt h0 hy0 HST hmas hbel hSq
   go_wp2
   go_ret
   exact ⟨a', c', rfl, HS3.out.out, HS3.out.upd, HCAP.out.1, HCAP.out.2, SqT.end HSE.out (by simp) HRW.out.2.1 HRW.out.2.2 HS3.out.out⟩
end Go.Proofs.YtalhbbabijlngaaGreatDoor
