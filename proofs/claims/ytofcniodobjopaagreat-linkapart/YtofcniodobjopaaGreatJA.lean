/- A block of the call's own; a region whose callees make memory. -/
import Derived.Test.YtofcniodobjopaaGreatLkA
import Derived.Deep.QuietTactic
import Derived.BigQuiet
import Derived.Deep.AppendSrc
import Derived.Deep.RegionHeld3

namespace Go.Proofs.YtofcniodobjopaaGreat
open Go.RowKit

/-- A block of the call's own. -/
def Blk (w : World) (g : Nat) (cs : Array Value) (t : TypeId) : Prop := w.heap[g]? = some (.cells cs t (0, 0))
theorem lt_blk {w : World} {g : Nat} {o : Obj} (h : w.heap[g]? = some o) : g < w.heap.size := by
  by_cases h1 : g < w.heap.size
  · exact h1
  · rw [Array.getElem?_eq_none (by omega)] at h; cases h
theorem Blk.lt {w : World} {g : Nat} {cs : Array Value} {t : TypeId} (h : Blk w g cs t) : g < w.heap.size := lt_blk h
theorem Blk.cell {w : World} {g : Nat} {cs : Array Value} {t : TypeId} (h : Blk w g cs t) (i : Nat) : w.cell? ⟨g, i, none⟩ = cs[i]? := cell_of_row w g i _ _ _ h
theorem Blk.free {w : World} {g : Nat} {cs : Array Value} {t : TypeId} (h : Blk w g cs t) (i : Nat) : w.frozen? ⟨g, i, none⟩ = false := frozen_of_row w g i _ _ h
theorem Blk.set {w : World} {g : Nat} {cs : Array Value} {t : TypeId} (h : Blk w g cs t) (i : Nat) (v : Value) : Blk (w.setCell ⟨g, i, none⟩ v) g (cs.setIfInBounds i v) t := by
  unfold Blk
  rw [heap_setCell_same w g i _ _ _ h]
theorem Blk.other {w : World} {g : Nat} {cs : Array Value} {t : TypeId} (h : Blk w g cs t) (a : Addr) (ha : a.block ≠ g) (u : Value) : Blk (w.setCell a u) g cs t := by
  unfold Blk
  rw [heap_setCell_other _ _ _ _ (fun e => ha e.symm)]; exact h
theorem Blk.mono {S : List Nat} {w w' : World} {g : Nat} {cs : Array Value} {t : TypeId} (h : Blk w g cs t) (hu : Upd S w w') (hn : g ∉ S) : Blk w' g cs t := (hu.block g h.lt hn).trans h
theorem Blk.new (w : World) (cs : Array Value) (t : TypeId) : Blk (w.alloc (.cells cs t)) w.heap.size cs t := heap_alloc_new _ _
theorem Blk.drew {w : World} {g : Nat} {cs : Array Value} {t : TypeId} (h : Blk w g cs t) : Blk w.drew g cs t := h

/-- A world in which nothing of an elder one has turned. -/
structure Ext (w : World) where
  W : World
  h : Upd [] w W

theorem Ext.call {f : FuncId} {args : Array Value} {w : World} {v : Value} {n : Ext w} (h : Calls Tryz.prog f args n.W fun e w' => e = .returned v ∧ Upd [] n.W w') :
    Calls Tryz.prog f args n.W fun e w'' => e = .returned v ∧ ∃ m : Ext w, w'' = m.W :=
  h.mono fun _ w'' ⟨he, hu⟩ => ⟨he, ⟨w'', n.h.trans hu⟩, rfl⟩
theorem Ext.cell {w : World} (n : Ext w) {p : Addr} {v : Value} (h : w.cell? p = some v) : n.W.cell? p = some v :=
  (n.h.cell (World.block_lt_of_cell? _ _ h) (by simp)).trans h

theorem wp_region_ext {id : Nat} {Q : Exit → Act → World → Prop} {a : Act} {w : World} {l : List Oper} (hm : Tryz.prog.follows .mixedOrders = true) (hB : Region.lexB .any l.toArray = true)
    (h : wpQuiet Tryz.prog l.toArray (fun w' => ∃ n : Ext w, w' = n.W) (fun a' => ∀ w', (∃ n : Ext w, w' = n.W) → Q .normal a' w') l a) : (Code.region id l.toArray true).wp Tryz.prog Q a w :=
  wp_region_quiet (C := fun w' => ∃ n : Ext w, w' = n.W) hm hB ⟨⟨w.drew, (Upd.refl [] w).drew⟩, rfl⟩ (by simpa using h)

end Go.Proofs.YtofcniodobjopaaGreat

/- Rows of whatever cells, each in a block of its own: what is stored in them, what is appended. -/
namespace Go.Proofs.YtofcniodobjopaaGreat
open Go.RowKit

/-- A row that may be written and grown, with its room. -/
def RowG (w : World) (sz : Nat) (v : Value) (n : Nat) : Prop :=
  (v = .slice none 0 0 ∧ n = 0) ∨ ∃ g cap, v = .slice (some ⟨g, 0, none⟩) n cap ∧ g < w.heap.size ∧ n ≤ cap ∧ cap ≤ maxLen ∧ w.there g 0 (cap * sz)
/-- The first elements of a row. -/
def Hs (w : World) (sz : Nat) (v : Value) (p : Nat) (C : Nat → List Value) : Prop :=
  ∀ g l c, v = .slice (some ⟨g, 0, none⟩) l c → ∀ i j, i < p → j < sz → w.cell? ⟨g, i * sz + j, none⟩ = (C i)[j]?

theorem there_upd {S : List Nat} {w w' : World} {g o n : Nat} (h : w.there g o n) (hg : g < w.heap.size) (hu : Upd S w w') (hn : g ∉ S) : w'.there g o n := fun j hj => by
  have hb := hu.block g hg hn
  rw [hu.cell (p := ⟨g, o + j, none⟩) hg hn, World.frozen?_of_block (w := w) (a := ⟨g, o + j, none⟩) hb]
  exact h j hj
theorem RowG.upd {S : List Nat} {w w' : World} {sz n : Nat} {v : Value} (h : RowG w sz v n) (hu : Upd S w w') (hn : ∀ g, v.ownBlock = some g → g ∉ S) : RowG w' sz v n := by
  rcases h with h | ⟨g, cap, rfl, h1, h2, h3, h4⟩
  · exact Or.inl h
  · exact Or.inr ⟨g, cap, rfl, Nat.lt_of_lt_of_le h1 hu.size, h2, h3, there_upd h4 h1 hu (hn g rfl)⟩
theorem RowG.lt {w : World} {sz n : Nat} {v : Value} (h : RowG w sz v n) : ∀ g, v.ownBlock = some g → g < w.heap.size := by
  intro g hg
  rcases h with ⟨rfl, _⟩ | ⟨b, cap, rfl, h1, _⟩
  · cases hg
  · simp only [Value.ownBlock, Option.some.injEq] at hg
    subst hg; exact h1
theorem RowG.form {w : World} {sz n : Nat} {v : Value} (h : RowG w sz v n) : ∃ a c, v = .slice a n c ∧ n ≤ 9223372036854775807 := by
  rcases h with ⟨rfl, rfl⟩ | ⟨g, cap, rfl, _, h2, h3, _⟩
  · exact ⟨none, 0, rfl, by omega⟩
  · exact ⟨_, cap, rfl, by unfold maxLen at h3; omega⟩
theorem Hs.upd {S : List Nat} {w w' : World} {sz p n : Nat} {v : Value} {C : Nat → List Value} (h : Hs w sz v p C) (hr : RowG w sz v n) (hu : Upd S w w') (hn : ∀ g, v.ownBlock = some g → g ∉ S) : Hs w' sz v p C := by
  intro g l c e i j hi hj
  subst e
  rw [hu.cell (p := ⟨g, i * sz + j, none⟩) (hr.lt g rfl) (hn g rfl)]
  exact h g l c rfl i j hi hj
theorem Hs.less {w : World} {sz p q : Nat} {v : Value} {C : Nat → List Value} (h : Hs w sz v p C) (hq : q ≤ p) : Hs w sz v q C := fun g l c e i j hi hj => h g l c e i j (by omega) hj
theorem Hs.zero (w : World) (sz : Nat) (v : Value) (C : Nat → List Value) : Hs w sz v 0 C := fun _ _ _ _ i _ hi => by omega
theorem Hs.other {w : World} {sz p l l' c c' g : Nat} {C : Nat → List Value} (h : Hs w sz (.slice (some ⟨g, 0, none⟩) l c) p C) : Hs w sz (.slice (some ⟨g, 0, none⟩) l' c') p C := by
  intro g2 l2 c2 e
  simp only [Value.slice.injEq, Option.some.injEq, Addr.mk.injEq, and_true] at e
  obtain ⟨rfl, _, _⟩ := e
  exact h g l c rfl

theorem setCells_upd (g : Nat) : ∀ (vs : List Value) (o : Nat) (w : World), w.grownBy (w.setCells g o vs) (some g)
  | [], _, w => ⟨rfl, rfl, rfl, Nat.le_refl _, fun _ _ _ => rfl⟩
  | v :: r, o, w => by
    have ih := setCells_upd g r (o + 1) (w.setCell ⟨g, o, none⟩ v)
    exact ⟨ih.os, ih.tape, ih.output, Nat.le_trans (by rw [World.size_setCell]; exact Nat.le_refl _) ih.size, fun k hk hne => (ih.block k (by rw [World.size_setCell]; exact hk) hne).trans (heap_setCell_other _ _ _ _ (fun e => hne (by rw [e])))⟩
theorem setCells_Upd (w : World) (g o : Nat) (vs : List Value) : Upd [g] w (w.setCells g o vs) := by
  have h := setCells_upd g vs o w
  exact ⟨h.os, h.tape, h.output, h.size, fun k hk hn => h.block k hk (fun e => hn (by simp at e; simp [e]))⟩
theorem there_set {w : World} {g o o' n : Nat} {vs : List Value} (h : w.there g o n) : (w.setCells g o' vs).there g o n := fun j hj => by
  refine ⟨World.isSome_setCells g _ _ _ _ (h j hj).1, ?_⟩
  rw [World.frozen?_setCells]; exact (h j hj).2
/-- An element is stored. -/
theorem RowG.set {w : World} {sz n g cap : Nat} (h : RowG w sz (.slice (some ⟨g, 0, none⟩) n cap) n) (o : Nat) (vs : List Value) : RowG (w.setCells g o vs) sz (.slice (some ⟨g, 0, none⟩) n cap) n := by
  rcases h with ⟨h, _⟩ | ⟨g2, cap2, e, h1, h2, h3, h4⟩
  · cases h
  · simp only [Value.slice.injEq, Option.some.injEq, Addr.mk.injEq, and_true, true_and] at e
    obtain ⟨rfl, rfl⟩ := e
    exact Or.inr ⟨g, cap, rfl, Nat.lt_of_lt_of_le h1 (setCells_Upd w g o vs).size, h2, h3, there_set h4⟩
theorem mul_room {i n sz : Nat} (h : i < n) : i * sz + sz ≤ n * sz := by
  have := Nat.mul_le_mul_right sz (show i + 1 ≤ n from h)
  rw [Nat.add_mul, Nat.one_mul] at this
  exact this
theorem RowG.room {w : World} {sz n g cap : Nat} (h : RowG w sz (.slice (some ⟨g, 0, none⟩) n cap) n) {i : Nat} (hi : i < n) : w.there g (i * sz) sz := by
  rcases h with ⟨h, _⟩ | ⟨g2, cap2, e, h1, h2, h3, h4⟩
  · cases h
  · simp only [Value.slice.injEq, Option.some.injEq, Addr.mk.injEq, and_true, true_and] at e
    obtain ⟨rfl, rfl⟩ := e
    intro j hj
    have := mul_room (sz := sz) (show i < cap by omega)
    have := h4 (i * sz + j) (by omega)
    rw [Nat.zero_add] at this
    exact this
theorem Hs.set {w : World} {sz n g cap : Nat} {C : Nat → List Value} {i : Nat} (h : Hs w sz (.slice (some ⟨g, 0, none⟩) n cap) i C) (hr : RowG w sz (.slice (some ⟨g, 0, none⟩) n cap) n) (hi : i < n) (hC : (C i).length = sz) :
    Hs (w.setCells g (i * sz) (C i)) sz (.slice (some ⟨g, 0, none⟩) n cap) (i + 1) C := by
  intro g2 l2 c2 e k j hk hj
  simp only [Value.slice.injEq, Option.some.injEq, Addr.mk.injEq, and_true] at e
  obtain ⟨rfl, _, _⟩ := e
  by_cases hki : k = i
  · subst hki
    have ht := hr.room hi
    rw [World.cell?_setCells_in g (C k) (k * sz) w (fun a ha => (ht a (by omega)).1) j (by omega)]
    exact (List.getElem?_eq_getElem (by omega)).symm
  · have := mul_room (sz := sz) (show k < i by omega)
    rw [World.cell?_setCells_out g _ _ _ _ (fun a _ => Or.inl (show k * sz + j < i * sz by omega))]
    exact h g n cap rfl k j (by omega) hj

/-- Where a row has been grown to: the old block, or a new one; what was there has stayed. -/
structure Grew (sz : Nat) (w w' : World) (v : Value) (n : Nat) (g' : Nat) : Prop where
  upd : Upd [g'] w w'
  room : ∀ g k, g < w.heap.size → w.there g 0 k → w'.there g 0 k
  at' : v.ownBlock = some g' ∨ g' = w.heap.size
  old : ∀ g l c, v = .slice (some ⟨g, 0, none⟩) l c → ∀ j, j < n * sz → w'.cell? ⟨g, j, none⟩ = w.cell? ⟨g, j, none⟩
  new : ∀ g l c, v = .slice (some ⟨g, 0, none⟩) l c → ∀ j, j < n * sz → w'.cell? ⟨g', j, none⟩ = w.cell? ⟨g, j, none⟩

theorem cellAt_new (w : World) (cs : Array Value) (t : TypeId) (j : Nat) : (w.drew.alloc (.cells cs t)).cell? ⟨w.heap.size, j, none⟩ = cs[j]? := by
  have hb : (w.drew.alloc (.cells cs t)).heap[w.heap.size]? = some (.cells cs t (0, 0)) := heap_alloc_new w.drew _
  exact cell_of_row _ _ _ _ _ _ hb
theorem there_new (w : World) (cs : Array Value) (t : TypeId) (n : Nat) (h : n ≤ cs.size) : (w.drew.alloc (.cells cs t)).there w.heap.size 0 n := fun j hj => by
  have hb : (w.drew.alloc (.cells cs t)).heap[w.heap.size]? = some (.cells cs t (0, 0)) := heap_alloc_new w.drew _
  refine ⟨?_, frozen_of_row _ _ _ _ _ hb⟩
  rw [cell_of_row _ _ _ _ _ _ hb, Nat.zero_add, Array.getElem?_eq_getElem (by omega)]
  rfl

theorem set_room (w : World) (g o : Nat) (vs : List Value) (g2 k : Nat) (hg : g2 < w.heap.size) (hk : w.there g2 0 k) : (w.setCells g o vs).there g2 0 k := by
  by_cases he : g2 = g
  · rw [he] at hk ⊢; exact there_set hk
  · exact there_upd hk hg (setCells_Upd w g _ _) (by simpa using he)
set_option maxRecDepth 10000 in
/-- Elements are appended to a row. -/
theorem run_appendG {t ty e : TypeId} {i : TypeInfo} {z : Value} {sz bytes : Nat} (ht : Tryz.prog.underlying t = some (.slice e)) (hi : Tryz.prog.info? e = some i) (hz : i.zero = some z) (hsize : i.size = sz) (hby : i.bytes = bytes) (hzs : z.cells.size = sz)
    {w : World} {v : Value} {n : Nat} (h : RowG w sz v n) (a : Addr) (m c : Nat) (news : List Value) (hl : news.length = m * sz) (hnews : ∀ j u, news[j]? = some u → w.cell? (a.add j) = some u) (h1 : ∀ u ∈ news, u.oneCell' = true)
    (hm : 0 < m) (h63 : n + m ≤ 1000000000000000) (hbytes : (n + m) * bytes ≤ 140737488355328) :
    ∃ g' cap' w', (Builtin.append_ #[t, t] ty #[v, .slice (some a) m c]).run Tryz.prog w = .ok (.slice (some ⟨g', 0, none⟩) (n + m) cap') w' ∧ RowG w' sz (.slice (some ⟨g', 0, none⟩) (n + m) cap') (n + m) ∧ Grew sz w w' v n g' ∧
      ∀ j, j < m * sz → w'.cell? ⟨g', n * sz + j, none⟩ = news[j]? := by
  subst hsize
  subst hby
  have hbb : (n + m) * i.bytes ≤ 140737488355328 := hbytes
  rcases h with ⟨rfl, rfl⟩ | ⟨g, cap, rfl, h2, h3, h4, h5⟩
  · have hr := run_append_nil (P := Tryz.prog) w t ty e i z ht hi hz a m c news hl hnews (by omega) (by omega) (by have hb := hbb; simp only [Nat.zero_add] at hb; omega)
    have hge := grownCap_ge w m 0 e
    have hcm : grownCap w m 0 e ≤ maxLen := grownCap_le_maxLen w m 0 e (by unfold maxLen; omega)
    have hcs : (news.toArray ++ Builtin.zeroCells z.cells (grownCap w m 0 e - m)).size = grownCap w m 0 e * i.size := by
      simp only [Array.size_append, List.size_toArray, size_zeroCells, hzs, hl, ← Nat.add_mul]
      congr 1; omega
    rw [Nat.zero_add]
    refine ⟨_, _, _, hr, Or.inr ⟨_, _, rfl, by simp, hge, hcm, there_new w _ _ _ (by rw [hcs]; exact Nat.le_refl _)⟩, ⟨⟨rfl, rfl, rfl, by simp, fun k hk _ => Below.heap_alloc w.drew _ k hk⟩, fun g k hg hk => there_upd (S := []) hk hg ((Upd.refl [] w).drew.alloc _) (by simp), Or.inr rfl, fun g l c e => (by cases e), fun g l c e => (by cases e)⟩, fun j hj => ?_⟩
    rw [Nat.zero_mul, Nat.zero_add, cellAt_new, Array.getElem?_append_left (by simp; omega)]
    simp
  · by_cases hroom : n + m ≤ cap
    · have hfit : n * i.size + news.length ≤ cap * i.size := by rw [hl, ← Nat.add_mul]; exact Nat.mul_le_mul_right _ hroom
      have hr := run_append_room_cells (P := Tryz.prog) w t ty e i ht hi g 0 n cap a m c news hl hnews h1 hroom
        (fun j hj => by have := (h5 (n * i.size + j) (by omega)).1; rw [Nat.zero_add] at this ⊢; exact this) (fun j hj => by have := (h5 (n * i.size + j) (by omega)).2; rw [Nat.zero_add] at this ⊢; exact this)
      rw [Nat.zero_add] at hr
      have hin : ∀ j, j < n * i.size → (w.setCells g (n * i.size) news).cell? ⟨g, j, none⟩ = w.cell? ⟨g, j, none⟩ := fun j hj => World.cell?_setCells_out g _ _ _ _ (fun a _ => Or.inl (show j < n * i.size by omega))
      refine ⟨_, _, _, hr, Or.inr ⟨g, cap, rfl, Nat.lt_of_lt_of_le h2 (setCells_Upd w g _ _).size, hroom, h4, there_set h5⟩, ⟨setCells_Upd w g _ _, fun g2 k hg hk => set_room w g _ _ g2 k hg hk, Or.inl rfl, fun g2 l2 c2 e j hj => ?_, fun g2 l2 c2 e j hj => ?_⟩, fun j hj => ?_⟩
      · simp only [Value.slice.injEq, Option.some.injEq, Addr.mk.injEq, and_true] at e
        obtain ⟨rfl, _, _⟩ := e
        exact hin j hj
      · simp only [Value.slice.injEq, Option.some.injEq, Addr.mk.injEq, and_true] at e
        obtain ⟨rfl, _, _⟩ := e
        exact hin j hj
      · refine Eq.trans ?_ (List.getElem?_eq_getElem (show j < news.length by omega)).symm
        exact World.cell?_setCells_in g news (n * i.size) w (fun k hk => by have := (h5 (n * i.size + k) (by omega)).1; rw [Nat.zero_add] at this; exact this) j (by omega)
    · have hnc : n * i.size ≤ cap * i.size := Nat.mul_le_mul_right _ h3
      obtain ⟨olds, hol, hoc⟩ : ∃ olds : List Value, olds.length = n * i.size ∧ ∀ j, j < n * i.size → w.cell? ⟨g, j, none⟩ = olds[j]? := by
        refine ⟨(List.range (n * i.size)).map (fun j => ((w.cell? ⟨g, j, none⟩).getD undef)), by simp, fun j hj => ?_⟩
        have hs := (h5 j (by omega)).1
        rw [Nat.zero_add] at hs
        obtain ⟨u, hu⟩ := Option.isSome_iff_exists.1 hs
        simp [hj, hu]
      have hr := run_append_grow (P := Tryz.prog) w t ty e i z ht hi hz ⟨g, 0, none⟩ n cap olds hol
        (fun j u hu => by
          have hj : j < n * i.size := by have := (List.getElem?_eq_some_iff.1 hu).1; omega
          rw [Addr.add_lit, Nat.zero_add, hoc j hj, hu]) a m c news hl hnews (by omega) (by omega) (growslice_fits (by omega) (by omega))
      have hge := grownCap_ge w (n + m) cap e
      have hcm : grownCap w (n + m) cap e ≤ maxLen := grownCap_le_maxLen w (n + m) cap e (by unfold maxLen; omega)
      have hcs : (olds.toArray ++ news.toArray ++ Builtin.zeroCells z.cells (grownCap w (n + m) cap e - (n + m))).size = grownCap w (n + m) cap e * i.size := by
        simp only [Array.size_append, List.size_toArray, size_zeroCells, hzs, hl, hol, ← Nat.add_mul]
        congr 1; omega
      have hnm : n * i.size + m * i.size = (n + m) * i.size := (Nat.add_mul _ _ _).symm
      refine ⟨_, _, _, hr, Or.inr ⟨_, _, rfl, by simp, hge, hcm, there_new w _ _ _ (by rw [hcs]; exact Nat.le_refl _)⟩, ⟨⟨rfl, rfl, rfl, by simp, fun k hk _ => Below.heap_alloc w.drew _ k hk⟩, fun g k hg hk => there_upd (S := []) hk hg ((Upd.refl [] w).drew.alloc _) (by simp), Or.inr rfl, fun g2 l2 c2 e j hj => ?_, fun g2 l2 c2 e j hj => ?_⟩, fun j hj => ?_⟩
      · simp only [Value.slice.injEq, Option.some.injEq, Addr.mk.injEq, and_true] at e
        obtain ⟨rfl, _, _⟩ := e
        exact World.cell?_of_block (w := w) (a := ⟨g, j, none⟩) (Below.heap_alloc w.drew _ g h2)
      · simp only [Value.slice.injEq, Option.some.injEq, Addr.mk.injEq, and_true] at e
        obtain ⟨rfl, _, _⟩ := e
        rw [cellAt_new, Array.append_assoc, Array.getElem?_append_left (by simp; omega), hoc j hj]
        simp
      · rw [cellAt_new, Array.append_assoc, Array.getElem?_append_right (by simp; omega), Array.getElem?_append_left (by simp; omega)]
        simp only [List.size_toArray, hol, Nat.add_sub_cancel_left, List.getElem?_toArray]

theorem Grew.has {sz : Nat} {w w' : World} {v : Value} {n p l' c' : Nat} {g' : Nat} {C : Nat → List Value} (h : Grew sz w w' v n g') (hh : Hs w sz v p C) (hp : p ≤ n) (hr : RowG w sz v n) : Hs w' sz (.slice (some ⟨g', 0, none⟩) l' c') p C := by
  intro g2 l2 c2 e i j hi hj
  simp only [Value.slice.injEq, Option.some.injEq, Addr.mk.injEq, and_true] at e
  obtain ⟨rfl, _, _⟩ := e
  have hij : i * sz + j < n * sz := by have := mul_room (sz := sz) (show i < n by omega); omega
  rcases hr with ⟨rfl, rfl⟩ | ⟨g, cap, rfl, _⟩
  · omega
  · rw [h.new g n cap rfl _ hij]
    exact hh g n cap rfl i j hi hj
theorem Grew.kept {sz : Nat} {w w' : World} {v : Value} {n p : Nat} {g' : Nat} {C : Nat → List Value} (h : Grew sz w w' v n g') (hh : Hs w sz v p C) (hp : p ≤ n) : Hs w' sz v p C := by
  intro g l c e i j hi hj
  have hij : i * sz + j < n * sz := by have := mul_room (sz := sz) (show i < n by omega); omega
  rw [h.old g l c e _ hij]
  exact hh g l c e i j hi hj
theorem Grew.has1 {sz : Nat} {w w' : World} {v : Value} {n l' c' : Nat} {g' : Nat} {C : Nat → List Value} (h : Grew sz w w' v n g') (hh : Hs w sz v n C) (hr : RowG w sz v n) (hn : ∀ j, j < sz → w'.cell? ⟨g', n * sz + j, none⟩ = (C n)[j]?) : Hs w' sz (.slice (some ⟨g', 0, none⟩) l' c') (n + 1) C := by
  intro g2 l2 c2 e i j hi hj
  simp only [Value.slice.injEq, Option.some.injEq, Addr.mk.injEq, and_true] at e
  obtain ⟨rfl, _, _⟩ := e
  by_cases hin : i = n
  · rw [hin]; exact hn j hj
  · exact h.has (l' := l') (c' := c') hh (Nat.le_refl _) hr g' l' c' rfl i j (by omega) hj
/-- Whatever row there was may still be written. -/
theorem Grew.row {sz : Nat} {w w' : World} {v u : Value} {n m sz2 : Nat} {g' : Nat} (h : Grew sz w w' v n g') (hr : RowG w sz2 u m) : RowG w' sz2 u m := by
  rcases hr with hr | ⟨g, cap, rfl, h1, h2, h3, h4⟩
  · exact Or.inl hr
  · exact Or.inr ⟨g, cap, rfl, Nat.lt_of_lt_of_le h1 h.upd.size, h2, h3, h.room g _ h1 h4⟩

end Go.Proofs.YtofcniodobjopaaGreat

/- Lists that lie apart: what holds of them while they are marked and grown. -/
namespace Go.Proofs.YtofcniodobjopaaGreat
open Go.RowKit

/-- Rows that are listed in block L, apart from one another. -/
structure Rs (w : World) (sz L m B : Nat) (v : Nat → Value) (n : Nat → Nat) : Prop where
  hB : B ≤ w.heap.size
  hL : L < B
  blk : ∀ j, j < m → w.cell? ⟨L, j, none⟩ = some (v j)
  row : ∀ j, j < m → RowG w sz (v j) (n j)
  own : ∀ j g, j < m → (v j).ownBlock = some g → g < B ∧ g ≠ L
  apart : ∀ i j g, i < m → j < m → i ≠ j → (v i).ownBlock = some g → (v j).ownBlock ≠ some g
theorem Rs.upd {S : List Nat} {w w' : World} {sz L m B : Nat} {v : Nat → Value} {n : Nat → Nat} (h : Rs w sz L m B v n) (hu : Upd S w w') (hS : ∀ x, x ∈ S → B ≤ x) : Rs w' sz L m B v n := by
  have hLS : L ∉ S := fun hm => by have := hS L hm; have := h.hL; omega
  refine ⟨Nat.le_trans h.hB hu.size, h.hL, fun j hj => ?_, fun j hj => (h.row j hj).upd hu (fun g hg hm => ?_), h.own, h.apart⟩
  · rw [hu.cell (p := ⟨L, j, none⟩) (Nat.lt_of_lt_of_le h.hL h.hB) hLS]; exact h.blk j hj
  · have := hS g hm; have := (h.own j g hj hg).1; omega
theorem Rs.raise {w : World} {sz L m B B' : Nat} {v : Nat → Value} {n : Nat → Nat} (h : Rs w sz L m B v n) (h1 : B ≤ B') (h2 : B' ≤ w.heap.size) : Rs w sz L m B' v n :=
  ⟨h2, Nat.lt_of_lt_of_le h.hL h1, h.blk, h.row, fun j g hj hg => ⟨Nat.lt_of_lt_of_le (h.own j g hj hg).1 h1, (h.own j g hj hg).2⟩, h.apart⟩
theorem Rs.form {w : World} {sz L m B : Nat} {v : Nat → Value} {n : Nat → Nat} (h : Rs w sz L m B v n) {k : Nat} (hk : k < m) {i : Nat} (hi : i < n k) : ∃ g cap, v k = .slice (some ⟨g, 0, none⟩) (n k) cap ∧ g < B ∧ g ≠ L := by
  rcases h.row k hk with ⟨_, h0⟩ | ⟨g, cap, hv, _⟩
  · omega
  · have := h.own k g hk (by rw [hv]; rfl)
    exact ⟨g, cap, hv, this.1, this.2⟩
/-- An element of a row is stored. -/
theorem Rs.set {w : World} {sz L m B : Nat} {v : Nat → Value} {n : Nat → Nat} (h : Rs w sz L m B v n) {k : Nat} (hk : k < m) {g cap : Nat} (hv : v k = .slice (some ⟨g, 0, none⟩) (n k) cap) (o : Nat) (vs : List Value) : Rs (w.setCells g o vs) sz L m B v n := by
  have hu := setCells_Upd w g o vs
  have hg := h.own k g hk (by rw [hv]; rfl)
  refine ⟨Nat.le_trans h.hB hu.size, h.hL, fun j hj => ?_, fun j hj => ?_, h.own, h.apart⟩
  · rw [hu.cell (p := ⟨L, j, none⟩) (Nat.lt_of_lt_of_le h.hL h.hB) (by simp; exact fun e => hg.2 e.symm)]; exact h.blk j hj
  · by_cases hjk : j = k
    · subst hjk
      have hr := h.row j hj
      rw [hv] at hr ⊢
      exact hr.set o vs
    · exact (h.row j hj).upd hu (fun g2 hg2 hm => by
        simp at hm
        subst hm
        exact h.apart j k g2 hj hk hjk hg2 (by rw [hv]; rfl))
theorem Rs.hasOther {w : World} {sz L m B p : Nat} {v : Nat → Value} {n : Nat → Nat} {C : Nat → List Value} (h : Rs w sz L m B v n) {k j : Nat} (hk : k < m) (hj : j < m) (hjk : j ≠ k) {g cap : Nat} (hv : v k = .slice (some ⟨g, 0, none⟩) (n k) cap) (o : Nat) (vs : List Value) (hh : Hs w sz (v j) p C) : Hs (w.setCells g o vs) sz (v j) p C :=
  hh.upd (h.row j hj) (setCells_Upd w g o vs) (fun g2 hg2 hm => by
    simp at hm
    subst hm
    exact h.apart j k g2 hj hk hjk hg2 (by rw [hv]; rfl))

/-- .. and what they have grown to, in block G. -/
structure Ps (w : World) (sz L G m k B : Nat) (v u : Nat → Value) (n q : Nat → Nat) (C : Nat → Nat → List Value) : Prop where
  rs : Rs w sz L m B v n
  has : ∀ j, j < m → Hs w sz (v j) (n j) (C j)
  hG : G < B ∧ G ≠ L
  gown : ∀ j, j < m → (v j).ownBlock ≠ some G
  room : w.there G 0 m
  gs : ∀ j, j < k → w.cell? ⟨G, j, none⟩ = some (u j) ∧ Hs w sz (u j) (q j) (C j)
  ugs : ∀ j, j < k → ∃ g c, u j = .slice (some ⟨g, 0, none⟩) (n j + 64) c ∧ g < B ∧ g ≠ L ∧ g ≠ G ∧ ∀ i, i < m → i ≠ j → (v i).ownBlock ≠ some g

theorem Hs.uform {S : List Nat} {w w' : World} {sz p g l c : Nat} {C : Nat → List Value} (h : Hs w sz (.slice (some ⟨g, 0, none⟩) l c) p C) (hg : g < w.heap.size) (hu : Upd S w w') (hn : g ∉ S) : Hs w' sz (.slice (some ⟨g, 0, none⟩) l c) p C := by
  intro g2 l2 c2 e i j hi hj
  simp only [Value.slice.injEq, Option.some.injEq, Addr.mk.injEq, and_true] at e
  obtain ⟨rfl, _, _⟩ := e
  rw [hu.cell (p := ⟨g, i * sz + j, none⟩) hg hn]
  exact h g l c rfl i j hi hj
/-- Something else has turned. -/
theorem Ps.far {S : List Nat} {w w' : World} {sz L G m k B : Nat} {v u : Nat → Value} {n q : Nat → Nat} {C : Nat → Nat → List Value} (h : Ps w sz L G m k B v u n q C) (hu : Upd S w w') (hS : ∀ x, x ∈ S → B ≤ x) : Ps w' sz L G m k B v u n q C := by
  have hGS : G ∉ S := fun hm => by have := hS G hm; have := h.hG.1; omega
  have hGl : G < w.heap.size := Nat.lt_of_lt_of_le h.hG.1 h.rs.hB
  refine ⟨h.rs.upd hu hS, fun j hj => (h.has j hj).upd (h.rs.row j hj) hu (fun g hg hm => ?_), h.hG, h.gown, there_upd h.room hGl hu hGS, fun j hj => ⟨?_, ?_⟩, h.ugs⟩
  · have := hS g hm; have := (h.rs.own j g hj hg).1; omega
  · rw [hu.cell (p := ⟨G, j, none⟩) hGl hGS]; exact (h.gs j hj).1
  · obtain ⟨g, c, e, h1, _⟩ := h.ugs j hj
    have hh := (h.gs j hj).2
    rw [e] at hh ⊢
    exact hh.uform (Nat.lt_of_lt_of_le h1 h.rs.hB) hu (fun hm => by have := hS g hm; omega)
/-- Row k, or what it has grown to, has grown. -/
theorem Ps.grow {w w' : World} {sz L G m k B nx g' : Nat} {x : Value} {v u : Nat → Value} {n q : Nat → Nat} {C : Nat → Nat → List Value} (h : Ps w sz L G m k B v u n q C) (hk : k < m) (hg : Grew sz w w' x nx g') (hx : ∀ g, x.ownBlock = some g → (v k).ownBlock = some g ∨ B ≤ g) (hn : n k ≤ nx)
    (hx2 : ∀ g, (v k).ownBlock = some g → x.ownBlock = some g → ∃ l c, x = .slice (some ⟨g, 0, none⟩) l c) :
    Ps w' sz L G m k B v u n q C ∧ ((v k).ownBlock = some g' ∨ B ≤ g') := by
  have hgk : (v k).ownBlock = some g' ∨ B ≤ g' := by
    rcases hg.at' with h1 | h1
    · exact hx g' h1
    · exact Or.inr (by rw [h1]; exact h.rs.hB)
  have hgL : g' ≠ L := fun e => by
    rcases hgk with h1 | h1
    · exact (h.rs.own k g' hk h1).2 e
    · have := h.rs.hL; omega
  have hgG : g' ≠ G := fun e => by
    rcases hgk with h1 | h1
    · exact h.gown k hk (by rw [h1, e])
    · have := h.hG.1; omega
  have hoth : ∀ j, j < m → j ≠ k → ∀ g, (v j).ownBlock = some g → g ≠ g' := fun j hj hjk g hgj e => by
    subst e
    rcases hgk with h1 | h1
    · exact h.rs.apart j k g hj hk hjk hgj h1
    · have := (h.rs.own j g hj hgj).1; omega
  have hu := hg.upd
  have hLl : L < w.heap.size := Nat.lt_of_lt_of_le h.rs.hL h.rs.hB
  have hGl : G < w.heap.size := Nat.lt_of_lt_of_le h.hG.1 h.rs.hB
  refine ⟨⟨⟨Nat.le_trans h.rs.hB hu.size, h.rs.hL, fun j hj => ?_, fun j hj => hg.row (h.rs.row j hj), h.rs.own, h.rs.apart⟩, fun j hj => ?_, h.hG, h.gown, there_upd h.room hGl hu (by simpa using hgG.symm), fun j hj => ⟨?_, ?_⟩, h.ugs⟩, hgk⟩
  · rw [hu.cell (p := ⟨L, j, none⟩) hLl (by simpa using hgL.symm)]; exact h.rs.blk j hj
  · by_cases hjk : j = k
    · subst hjk
      have hh := h.has j hj
      by_cases hown : (v j).ownBlock = some g'
      · rcases hg.at' with h1 | h1
        · obtain ⟨l, c, ex⟩ := hx2 g' hown h1
          intro g l2 c2 e a b ha hb
          have hgg : g = g' := by rw [e] at hown; simpa [Value.ownBlock] using hown
          subst hgg
          rw [hg.old g l c ex (a * sz + b) (by have := mul_room (sz := sz) (show a < nx by omega); omega)]
          exact hh g l2 c2 e a b ha hb
        · have := (h.rs.own j g' hj hown).1
          have := h.rs.hB
          omega
      · exact hh.upd (h.rs.row j hj) hu (fun g hgj hm => by simp at hm; subst hm; exact hown hgj)
    · exact (h.has j hj).upd (h.rs.row j hj) hu (fun g hgj hm => by simp at hm; exact hoth j hj hjk g hgj hm)
  · rw [hu.cell (p := ⟨G, j, none⟩) hGl (by simpa using hgG.symm)]; exact (h.gs j hj).1
  · obtain ⟨g, c, e, h1, h2, h3, h4⟩ := h.ugs j hj
    have hh := (h.gs j hj).2
    rw [e] at hh ⊢
    refine hh.uform (Nat.lt_of_lt_of_le h1 h.rs.hB) hu ?_
    simp only [List.mem_singleton]
    intro hgg
    subst hgg
    rcases hgk with h5 | h5
    · by_cases hjk : j = k
      · omega
      · exact h4 k hk (fun e => hjk e.symm) h5
    · omega
/-- What it has grown to is put into G. -/
theorem Ps.next {w : World} {sz L G m k B : Nat} {v u : Nat → Value} {n q : Nat → Nat} {C : Nat → Nat → List Value} (h : Ps w sz L G m k B v u n q C) (hk : k < m) {g c : Nat} (hgl : g < w.heap.size) (hgk : (v k).ownBlock = some g ∨ B ≤ g) (hh : Hs w sz (.slice (some ⟨g, 0, none⟩) (n k + 64) c) (q k) (C k)) :
    Ps (w.setCell ⟨G, k, none⟩ (.slice (some ⟨g, 0, none⟩) (n k + 64) c)) sz L G m (k + 1) w.heap.size v (fun j => if j = k then .slice (some ⟨g, 0, none⟩) (n k + 64) c else u j) n q C := by
  have hGl : G < w.heap.size := Nat.lt_of_lt_of_le h.hG.1 h.rs.hB
  have hLl : L < w.heap.size := Nat.lt_of_lt_of_le h.rs.hL h.rs.hB
  have hu : Upd [G] w (w.setCell ⟨G, k, none⟩ (.slice (some ⟨g, 0, none⟩) (n k + 64) c)) := (Upd.refl [G] w).setCell (Or.inr (by simp)) _
  have hgL : g ≠ L := fun e => by
    rcases hgk with h1 | h1
    · exact (h.rs.own k g hk h1).2 e
    · have := h.rs.hL; omega
  have hgG : g ≠ G := fun e => by
    rcases hgk with h1 | h1
    · exact h.gown k hk (by rw [h1, e])
    · have := h.hG.1; omega
  have hsz : (w.setCell ⟨G, k, none⟩ (.slice (some ⟨g, 0, none⟩) (n k + 64) c)).heap.size = w.heap.size := World.size_setCell _ _ _
  have hrow : ∀ j, j < m → ∀ x, (v j).ownBlock = some x → x ∉ [G] := fun j hj x hx hm => by simp at hm; subst hm; exact h.gown j hj hx
  refine ⟨⟨by rw [hsz]; exact Nat.le_refl _, hLl, fun j hj => ?_, fun j hj => (h.rs.row j hj).upd hu (hrow j hj), fun j x hj hx => ⟨Nat.lt_of_lt_of_le (h.rs.own j x hj hx).1 h.rs.hB, (h.rs.own j x hj hx).2⟩, h.rs.apart⟩,
    fun j hj => (h.has j hj).upd (h.rs.row j hj) hu (hrow j hj), ⟨hGl, h.hG.2⟩, h.gown, ?_, fun j hj => ?_, fun j hj => ?_⟩
  · rw [hu.cell (p := ⟨L, j, none⟩) hLl (by simp; exact h.hG.2.symm)]; exact h.rs.blk j hj
  · have : w.setCell ⟨G, k, none⟩ (.slice (some ⟨g, 0, none⟩) (n k + 64) c) = w.setCells G k [.slice (some ⟨g, 0, none⟩) (n k + 64) c] := rfl
    rw [this]
    exact there_set h.room
  · by_cases hjk : j = k
    · subst hjk
      simp only [if_true]
      refine ⟨?_, hh.uform hgl hu (by simpa using hgG)⟩
      have ht := h.room j hk
      rw [Nat.zero_add] at ht
      exact World.cell?_setCells_in G [.slice (some ⟨g, 0, none⟩) (n j + 64) c] j w (fun a ha => by simp at ha; subst ha; exact ht.1) 0 (by simp)
    · simp only [hjk, if_false]
      have hj' : j < k := by omega
      refine ⟨?_, ?_⟩
      · have : w.setCell ⟨G, k, none⟩ (.slice (some ⟨g, 0, none⟩) (n k + 64) c) = w.setCells G k [.slice (some ⟨g, 0, none⟩) (n k + 64) c] := rfl
        rw [this, World.cell?_setCells_out G _ _ _ _ (fun a _ => Or.inl (show j < k by omega))]
        exact (h.gs j hj').1
      · obtain ⟨g2, c2, e, h1, _, h3, _⟩ := h.ugs j hj'
        have hh2 := (h.gs j hj').2
        rw [e] at hh2 ⊢
        exact hh2.uform (Nat.lt_of_lt_of_le h1 h.rs.hB) hu (by simpa using h3)
  · by_cases hjk : j = k
    · subst hjk
      simp only [if_true]
      refine ⟨g, c, rfl, hgl, hgL, hgG, fun i hi hij e => ?_⟩
      rcases hgk with h1 | h1
      · exact h.rs.apart i j g hi hk hij e h1
      · have := (h.rs.own i g hi e).1; omega
    · simp only [hjk, if_false]
      obtain ⟨g2, c2, e, h1, h2, h3, h4⟩ := h.ugs j (by omega)
      exact ⟨g2, c2, e, Nat.lt_of_lt_of_le h1 h.rs.hB, h2, h3, h4⟩
/-- .. anew: no more is said of what was put there earlier. -/
theorem Ps.anew {w : World} {sz L G m k B : Nat} {v u : Nat → Value} {n q q' : Nat → Nat} {C : Nat → Nat → List Value} (h : Ps w sz L G m k B v u n q C) : Ps w sz L G m 0 B v u n q' C :=
  ⟨h.rs, h.has, h.hG, h.gown, h.room, fun j hj => by omega, fun j hj => by omega⟩
theorem Ps.raise {w : World} {sz L G m k B : Nat} {v u : Nat → Value} {n q : Nat → Nat} {C : Nat → Nat → List Value} (h : Ps w sz L G m k B v u n q C) : Ps w sz L G m k w.heap.size v u n q C :=
  ⟨h.rs.raise h.rs.hB (Nat.le_refl _), h.has, ⟨Nat.lt_of_lt_of_le h.hG.1 h.rs.hB, h.hG.2⟩, h.gown, h.room, h.gs, fun j hj => by
    obtain ⟨g, c, e, h1, h2⟩ := h.ugs j hj
    exact ⟨g, c, e, Nat.lt_of_lt_of_le h1 h.rs.hB, h2⟩⟩

/-- A store of a whole element at a step of a region that draws its order. -/
theorem step_store_mid {ops : Array Oper} {o : Oper} {a : Act} {w : World} {K : Act → World → Prop} {Q : Exit → Act → World → Prop} {E : Prop} (hgd : o.guard = none) (ty : TypeId) (x y : Operand) (ho : o.op = .store ty x y)
    (b off : Nat) (cells : Array Value) (hx : a.eval x = .pointer (some ⟨b, off, none⟩)) (hy : a.eval y = .agg cells)
    (ht : w.there b off cells.size) (hi : (Tryz.prog.info? ty).map (·.size) = some cells.size) (h1 : cells.all (·.oneCell') = true)
    (h : K (a.put o.dst undef) (w.setCells b off cells.toList)) :
    if Region.wanted o (yielded ops a.tmps) = true then Oper.wp Tryz.prog o a w K Q else E := by
  have hw : Region.wanted o (yielded ops a.tmps) = true := by simp [Region.wanted, hgd]
  rw [if_pos hw]
  exact wp_store_mid ty x y ho b off cells hx hy ht hi h1 h

/-- Elements are appended: at the list of operations. -/
theorem wpList_appendG {w : World} {ops : Array Oper} {rest : List Oper} {o : Oper} {a : Act} {Q : Exit → Act → World → Prop} (hgd : o.guard = none) (s x : Operand) (t : TypeId) (ho : o.op = .call { callee := .builtin .append, args := #[s, x], argTypes := #[t, t] })
    {e : TypeId} {i : TypeInfo} {z : Value} {sz bytes : Nat} (ht : Tryz.prog.underlying t = some (.slice e)) (hi : Tryz.prog.info? e = some i) (hz : i.zero = some z) (hsize : i.size = sz) (hby : i.bytes = bytes) (hzs : z.cells.size = sz)
    {v : Value} {n : Nat} (hs : a.eval s = v) (hr : RowG w sz v n) (ad : Addr) (m c : Nat) (news : List Value) (hx : a.eval x = .slice (some ad) m c) (hl : news.length = m * sz) (hnews : ∀ j u, news[j]? = some u → w.cell? (ad.add j) = some u) (h1 : ∀ u ∈ news, u.oneCell' = true)
    (hm : 0 < m) (h63 : n + m ≤ 1000000000) (hbytes : bytes ≤ 1000)
    (h : ∀ g' cap' w', RowG w' sz (.slice (some ⟨g', 0, none⟩) (n + m) cap') (n + m) → Grew sz w w' v n g' → (∀ j, j < m * sz → w'.cell? ⟨g', n * sz + j, none⟩ = news[j]?) → wpList Tryz.prog ops Q rest (a.put o.dst (.slice (some ⟨g', 0, none⟩) (n + m) cap')) w') : wpList Tryz.prog ops Q (o :: rest) a w := by
  refine wpList_plain hgd fun K hK => ?_
  obtain ⟨g', cap', w', hrun, h2, h3, h4⟩ := run_appendG (ty := o.type) ht hi hz hsize hby hzs hr ad m c news hl hnews h1 hm (Nat.le_trans h63 (by omega)) (Nat.le_trans (Nat.mul_le_mul h63 hbytes) (by omega))
  unfold Oper.wp execOp
  simp only [ho, resolve, invoke, builtin, Sem.run_bind, Sem.run_pure, Result.andThen_ok, List.map_toArray, List.map_cons, List.map_nil, hs, hx, hrun]
  exact hK _ _ (h g' cap' w' h2 h3 h4)

end Go.Proofs.YtofcniodobjopaaGreat
