/- alike: rows that are the same but for places and kids. -/
import Derived.Test.YtehfoblfmehbdaaDoorJAI
import Derived.Deep.AppendSrc
import Derived.Deep.RegionHeld3
import Derived.Deep.LoopGhost

namespace Go.Proofs.YtehfoblfmehbdaaDoor
open Go.RowKit

/-- Two rows whose heads are alike. -/
def alR : List Nd → List Nd → Bool
  | [], [] => true
  | a :: r, b :: r' => heaN a b && alR r r'
  | [], _ :: _ => false
  | _ :: _, [] => false
theorem alR_no : ∀ (K J : List Nd), K.length ≠ J.length → alR K J = false
  | [], [], h => absurd rfl h
  | a :: r, b :: r', h => by rw [alR, alR_no r r' (fun e => h (by simp [e])), Bool.and_false]
  | [], _ :: _, _ => rfl
  | _ :: _, [], _ => rfl
theorem alR_next (K J : List Nd) (k : Nat) (hk : k < K.length) (hj : k < J.length) : alR (K.drop k) (J.drop k) = (heaN K[k] J[k] && alR (K.drop (k + 1)) (J.drop (k + 1))) := by
  rw [List.drop_eq_getElem_cons hk, List.drop_eq_getElem_cons hj, alR]

end Go.Proofs.YtehfoblfmehbdaaDoor

/- Rows of whatever cells, each in a block of its own: what is stored in them, what is appended. -/
namespace Go.Proofs.YtehfoblfmehbdaaDoor
open Go.RowKit

/-- A row that may be written and grown, with its room. -/
def RowG (w : World) (sz : Nat) (v : Value) (n : Nat) : Prop :=
  (v = .slice none 0 0 ∧ n = 0) ∨ ∃ g cap, v = .slice (some ⟨g, 0, none⟩) n cap ∧ g < w.heap.size ∧ n ≤ cap ∧ cap ≤ maxLen ∧ w.there g 0 (cap * sz)
/-- The first elements of a row. -/
def Hs (w : World) (sz : Nat) (v : Value) (p : Nat) (C : Nat → List Value) : Prop :=
  ∀ g l c, v = .slice (some ⟨g, 0, none⟩) l c → ∀ i j, i < p → j < sz → w.cell? ⟨g, i * sz + j, none⟩ = (C i)[j]?

theorem there_upd {S : List Nat} {w w' : World} {g o n : Nat} (h : w.there g o n) (hg : g < w.heap.size) (hu : Upd S w w') (hn : g ∉ S) : w'.there g o n := fun j hj => by
  have hb := hu.block g hg hn
  rw [hu.cell (p := ⟨g, o + j, none⟩) hg hn, World.frozen?_of_block (w := w) (a := ⟨g, o + j, none⟩) hb]
  exact h j hj
theorem RowG.upd {S : List Nat} {w w' : World} {sz n : Nat} {v : Value} (h : RowG w sz v n) (hu : Upd S w w') (hn : ∀ g, v.ownBlock = some g → g ∉ S) : RowG w' sz v n := by
  rcases h with h | ⟨g, cap, rfl, h1, h2, h3, h4⟩
  · exact Or.inl h
  · exact Or.inr ⟨g, cap, rfl, Nat.lt_of_lt_of_le h1 hu.size, h2, h3, there_upd h4 h1 hu (hn g rfl)⟩
theorem RowG.lt {w : World} {sz n : Nat} {v : Value} (h : RowG w sz v n) : ∀ g, v.ownBlock = some g → g < w.heap.size := by
  intro g hg
  rcases h with ⟨rfl, _⟩ | ⟨b, cap, rfl, h1, _⟩
  · cases hg
  · simp only [Value.ownBlock, Option.some.injEq] at hg
    subst hg; exact h1
theorem RowG.form {w : World} {sz n : Nat} {v : Value} (h : RowG w sz v n) : ∃ a c, v = .slice a n c ∧ n ≤ 9223372036854775807 := by
  rcases h with ⟨rfl, rfl⟩ | ⟨g, cap, rfl, _, h2, h3, _⟩
  · exact ⟨none, 0, rfl, by omega⟩
  · exact ⟨_, cap, rfl, by unfold maxLen at h3; omega⟩
theorem Hs.upd {S : List Nat} {w w' : World} {sz p n : Nat} {v : Value} {C : Nat → List Value} (h : Hs w sz v p C) (hr : RowG w sz v n) (hu : Upd S w w') (hn : ∀ g, v.ownBlock = some g → g ∉ S) : Hs w' sz v p C := by
  intro g l c e i j hi hj
  subst e
  rw [hu.cell (p := ⟨g, i * sz + j, none⟩) (hr.lt g rfl) (hn g rfl)]
  exact h g l c rfl i j hi hj
theorem Hs.less {w : World} {sz p q : Nat} {v : Value} {C : Nat → List Value} (h : Hs w sz v p C) (hq : q ≤ p) : Hs w sz v q C := fun g l c e i j hi hj => h g l c e i j (by omega) hj
theorem Hs.zero (w : World) (sz : Nat) (v : Value) (C : Nat → List Value) : Hs w sz v 0 C := fun _ _ _ _ i _ hi => by omega
theorem Hs.other {w : World} {sz p l l' c c' g : Nat} {C : Nat → List Value} (h : Hs w sz (.slice (some ⟨g, 0, none⟩) l c) p C) : Hs w sz (.slice (some ⟨g, 0, none⟩) l' c') p C := by
  intro g2 l2 c2 e
  simp only [Value.slice.injEq, Option.some.injEq, Addr.mk.injEq, and_true] at e
  obtain ⟨rfl, _, _⟩ := e
  exact h g l c rfl

theorem setCells_upd (g : Nat) : ∀ (vs : List Value) (o : Nat) (w : World), w.grownBy (w.setCells g o vs) (some g)
  | [], _, w => ⟨rfl, rfl, rfl, Nat.le_refl _, fun _ _ _ => rfl⟩
  | v :: r, o, w => by
    have ih := setCells_upd g r (o + 1) (w.setCell ⟨g, o, none⟩ v)
    exact ⟨ih.os, ih.tape, ih.output, Nat.le_trans (by rw [World.size_setCell]; exact Nat.le_refl _) ih.size, fun k hk hne => (ih.block k (by rw [World.size_setCell]; exact hk) hne).trans (heap_setCell_other _ _ _ _ (fun e => hne (by rw [e])))⟩
theorem setCells_Upd (w : World) (g o : Nat) (vs : List Value) : Upd [g] w (w.setCells g o vs) := by
  have h := setCells_upd g vs o w
  exact ⟨h.os, h.tape, h.output, h.size, fun k hk hn => h.block k hk (fun e => hn (by simp at e; simp [e]))⟩
theorem there_set {w : World} {g o o' n : Nat} {vs : List Value} (h : w.there g o n) : (w.setCells g o' vs).there g o n := fun j hj => by
  refine ⟨World.isSome_setCells g _ _ _ _ (h j hj).1, ?_⟩
  rw [World.frozen?_setCells]; exact (h j hj).2
/-- An element is stored. -/
theorem RowG.set {w : World} {sz n g cap : Nat} (h : RowG w sz (.slice (some ⟨g, 0, none⟩) n cap) n) (o : Nat) (vs : List Value) : RowG (w.setCells g o vs) sz (.slice (some ⟨g, 0, none⟩) n cap) n := by
  rcases h with ⟨h, _⟩ | ⟨g2, cap2, e, h1, h2, h3, h4⟩
  · cases h
  · simp only [Value.slice.injEq, Option.some.injEq, Addr.mk.injEq, and_true, true_and] at e
    obtain ⟨rfl, rfl⟩ := e
    exact Or.inr ⟨g, cap, rfl, Nat.lt_of_lt_of_le h1 (setCells_Upd w g o vs).size, h2, h3, there_set h4⟩
theorem mul_room {i n sz : Nat} (h : i < n) : i * sz + sz ≤ n * sz := by
  have := Nat.mul_le_mul_right sz (show i + 1 ≤ n from h)
  rw [Nat.add_mul, Nat.one_mul] at this
  exact this
theorem RowG.room {w : World} {sz n g cap : Nat} (h : RowG w sz (.slice (some ⟨g, 0, none⟩) n cap) n) {i : Nat} (hi : i < n) : w.there g (i * sz) sz := by
  rcases h with ⟨h, _⟩ | ⟨g2, cap2, e, h1, h2, h3, h4⟩
  · cases h
  · simp only [Value.slice.injEq, Option.some.injEq, Addr.mk.injEq, and_true, true_and] at e
    obtain ⟨rfl, rfl⟩ := e
    intro j hj
    have := mul_room (sz := sz) (show i < cap by omega)
    have := h4 (i * sz + j) (by omega)
    rw [Nat.zero_add] at this
    exact this
theorem Hs.set {w : World} {sz n g cap : Nat} {C : Nat → List Value} {i : Nat} (h : Hs w sz (.slice (some ⟨g, 0, none⟩) n cap) i C) (hr : RowG w sz (.slice (some ⟨g, 0, none⟩) n cap) n) (hi : i < n) (hC : (C i).length = sz) :
    Hs (w.setCells g (i * sz) (C i)) sz (.slice (some ⟨g, 0, none⟩) n cap) (i + 1) C := by
  intro g2 l2 c2 e k j hk hj
  simp only [Value.slice.injEq, Option.some.injEq, Addr.mk.injEq, and_true] at e
  obtain ⟨rfl, _, _⟩ := e
  by_cases hki : k = i
  · subst hki
    have ht := hr.room hi
    rw [World.cell?_setCells_in g (C k) (k * sz) w (fun a ha => (ht a (by omega)).1) j (by omega)]
    exact (List.getElem?_eq_getElem (by omega)).symm
  · have := mul_room (sz := sz) (show k < i by omega)
    rw [World.cell?_setCells_out g _ _ _ _ (fun a _ => Or.inl (show k * sz + j < i * sz by omega))]
    exact h g n cap rfl k j (by omega) hj

/-- Where a row has been grown to: the old block, or a new one; what was there has stayed. -/
structure Grew (sz : Nat) (w w' : World) (v : Value) (n : Nat) (g' : Nat) : Prop where
  upd : Upd [g'] w w'
  room : ∀ g k, g < w.heap.size → w.there g 0 k → w'.there g 0 k
  at' : v.ownBlock = some g' ∨ g' = w.heap.size
  old : ∀ g l c, v = .slice (some ⟨g, 0, none⟩) l c → ∀ j, j < n * sz → w'.cell? ⟨g, j, none⟩ = w.cell? ⟨g, j, none⟩
  new : ∀ g l c, v = .slice (some ⟨g, 0, none⟩) l c → ∀ j, j < n * sz → w'.cell? ⟨g', j, none⟩ = w.cell? ⟨g, j, none⟩

theorem cellAt_new (w : World) (cs : Array Value) (t : TypeId) (j : Nat) : (w.drew.alloc (.cells cs t)).cell? ⟨w.heap.size, j, none⟩ = cs[j]? := by
  have hb : (w.drew.alloc (.cells cs t)).heap[w.heap.size]? = some (.cells cs t (0, 0)) := heap_alloc_new w.drew _
  exact cell_of_row _ _ _ _ _ _ hb
theorem there_new (w : World) (cs : Array Value) (t : TypeId) (n : Nat) (h : n ≤ cs.size) : (w.drew.alloc (.cells cs t)).there w.heap.size 0 n := fun j hj => by
  have hb : (w.drew.alloc (.cells cs t)).heap[w.heap.size]? = some (.cells cs t (0, 0)) := heap_alloc_new w.drew _
  refine ⟨?_, frozen_of_row _ _ _ _ _ hb⟩
  rw [cell_of_row _ _ _ _ _ _ hb, Nat.zero_add, Array.getElem?_eq_getElem (by omega)]
  rfl

theorem set_room (w : World) (g o : Nat) (vs : List Value) (g2 k : Nat) (hg : g2 < w.heap.size) (hk : w.there g2 0 k) : (w.setCells g o vs).there g2 0 k := by
  by_cases he : g2 = g
  · rw [he] at hk ⊢; exact there_set hk
  · exact there_upd hk hg (setCells_Upd w g _ _) (by simpa using he)
set_option maxRecDepth 10000 in
/-- Elements are appended to a row. -/
theorem run_appendG {t ty e : TypeId} {i : TypeInfo} {z : Value} {sz bytes : Nat} (ht : Tryd.prog.underlying t = some (.slice e)) (hi : Tryd.prog.info? e = some i) (hz : i.zero = some z) (hsize : i.size = sz) (hby : i.bytes = bytes) (hzs : z.cells.size = sz)
    {w : World} {v : Value} {n : Nat} (h : RowG w sz v n) (a : Addr) (m c : Nat) (news : List Value) (hl : news.length = m * sz) (hnews : ∀ j u, news[j]? = some u → w.cell? (a.add j) = some u) (h1 : ∀ u ∈ news, u.oneCell' = true)
    (hm : 0 < m) (h63 : n + m ≤ 1000000000000000) (hbytes : (n + m) * bytes ≤ 140737488355328) :
    ∃ g' cap' w', (Builtin.append_ #[t, t] ty #[v, .slice (some a) m c]).run Tryd.prog w = .ok (.slice (some ⟨g', 0, none⟩) (n + m) cap') w' ∧ RowG w' sz (.slice (some ⟨g', 0, none⟩) (n + m) cap') (n + m) ∧ Grew sz w w' v n g' ∧
      ∀ j, j < m * sz → w'.cell? ⟨g', n * sz + j, none⟩ = news[j]? := by
  subst hsize
  subst hby
  have hbb : (n + m) * i.bytes ≤ 140737488355328 := hbytes
  rcases h with ⟨rfl, rfl⟩ | ⟨g, cap, rfl, h2, h3, h4, h5⟩
  · have hr := run_append_nil (P := Tryd.prog) w t ty e i z ht hi hz a m c news hl hnews (by omega) (by omega) (by have hb := hbb; simp only [Nat.zero_add] at hb; omega)
    have hge := grownCap_ge w m 0 e
    have hcm : grownCap w m 0 e ≤ maxLen := grownCap_le_maxLen w m 0 e (by unfold maxLen; omega)
    have hcs : (news.toArray ++ Builtin.zeroCells z.cells (grownCap w m 0 e - m)).size = grownCap w m 0 e * i.size := by
      simp only [Array.size_append, List.size_toArray, size_zeroCells, hzs, hl, ← Nat.add_mul]
      congr 1; omega
    rw [Nat.zero_add]
    refine ⟨_, _, _, hr, Or.inr ⟨_, _, rfl, by simp, hge, hcm, there_new w _ _ _ (by rw [hcs]; exact Nat.le_refl _)⟩, ⟨⟨rfl, rfl, rfl, by simp, fun k hk _ => Below.heap_alloc w.drew _ k hk⟩, fun g k hg hk => there_upd (S := []) hk hg ((Upd.refl [] w).drew.alloc _) (by simp), Or.inr rfl, fun g l c e => (by cases e), fun g l c e => (by cases e)⟩, fun j hj => ?_⟩
    rw [Nat.zero_mul, Nat.zero_add, cellAt_new, Array.getElem?_append_left (by simp; omega)]
    simp
  · by_cases hroom : n + m ≤ cap
    · have hfit : n * i.size + news.length ≤ cap * i.size := by rw [hl, ← Nat.add_mul]; exact Nat.mul_le_mul_right _ hroom
      have hr := run_append_room_cells (P := Tryd.prog) w t ty e i ht hi g 0 n cap a m c news hl hnews h1 hroom
        (fun j hj => by have := (h5 (n * i.size + j) (by omega)).1; rw [Nat.zero_add] at this ⊢; exact this) (fun j hj => by have := (h5 (n * i.size + j) (by omega)).2; rw [Nat.zero_add] at this ⊢; exact this)
      rw [Nat.zero_add] at hr
      have hin : ∀ j, j < n * i.size → (w.setCells g (n * i.size) news).cell? ⟨g, j, none⟩ = w.cell? ⟨g, j, none⟩ := fun j hj => World.cell?_setCells_out g _ _ _ _ (fun a _ => Or.inl (show j < n * i.size by omega))
      refine ⟨_, _, _, hr, Or.inr ⟨g, cap, rfl, Nat.lt_of_lt_of_le h2 (setCells_Upd w g _ _).size, hroom, h4, there_set h5⟩, ⟨setCells_Upd w g _ _, fun g2 k hg hk => set_room w g _ _ g2 k hg hk, Or.inl rfl, fun g2 l2 c2 e j hj => ?_, fun g2 l2 c2 e j hj => ?_⟩, fun j hj => ?_⟩
      · simp only [Value.slice.injEq, Option.some.injEq, Addr.mk.injEq, and_true] at e
        obtain ⟨rfl, _, _⟩ := e
        exact hin j hj
      · simp only [Value.slice.injEq, Option.some.injEq, Addr.mk.injEq, and_true] at e
        obtain ⟨rfl, _, _⟩ := e
        exact hin j hj
      · refine Eq.trans ?_ (List.getElem?_eq_getElem (show j < news.length by omega)).symm
        exact World.cell?_setCells_in g news (n * i.size) w (fun k hk => by have := (h5 (n * i.size + k) (by omega)).1; rw [Nat.zero_add] at this; exact this) j (by omega)
    · have hnc : n * i.size ≤ cap * i.size := Nat.mul_le_mul_right _ h3
      obtain ⟨olds, hol, hoc⟩ : ∃ olds : List Value, olds.length = n * i.size ∧ ∀ j, j < n * i.size → w.cell? ⟨g, j, none⟩ = olds[j]? := by
        refine ⟨(List.range (n * i.size)).map (fun j => ((w.cell? ⟨g, j, none⟩).getD undef)), by simp, fun j hj => ?_⟩
        have hs := (h5 j (by omega)).1
        rw [Nat.zero_add] at hs
        obtain ⟨u, hu⟩ := Option.isSome_iff_exists.1 hs
        simp [hj, hu]
      have hr := run_append_grow (P := Tryd.prog) w t ty e i z ht hi hz ⟨g, 0, none⟩ n cap olds hol
        (fun j u hu => by
          have hj : j < n * i.size := by have := (List.getElem?_eq_some_iff.1 hu).1; omega
          rw [Addr.add_lit, Nat.zero_add, hoc j hj, hu]) a m c news hl hnews (by omega) (by omega) (growslice_fits (by omega) (by omega))
      have hge := grownCap_ge w (n + m) cap e
      have hcm : grownCap w (n + m) cap e ≤ maxLen := grownCap_le_maxLen w (n + m) cap e (by unfold maxLen; omega)
      have hcs : (olds.toArray ++ news.toArray ++ Builtin.zeroCells z.cells (grownCap w (n + m) cap e - (n + m))).size = grownCap w (n + m) cap e * i.size := by
        simp only [Array.size_append, List.size_toArray, size_zeroCells, hzs, hl, hol, ← Nat.add_mul]
        congr 1; omega
      have hnm : n * i.size + m * i.size = (n + m) * i.size := (Nat.add_mul _ _ _).symm
      refine ⟨_, _, _, hr, Or.inr ⟨_, _, rfl, by simp, hge, hcm, there_new w _ _ _ (by rw [hcs]; exact Nat.le_refl _)⟩, ⟨⟨rfl, rfl, rfl, by simp, fun k hk _ => Below.heap_alloc w.drew _ k hk⟩, fun g k hg hk => there_upd (S := []) hk hg ((Upd.refl [] w).drew.alloc _) (by simp), Or.inr rfl, fun g2 l2 c2 e j hj => ?_, fun g2 l2 c2 e j hj => ?_⟩, fun j hj => ?_⟩
      · simp only [Value.slice.injEq, Option.some.injEq, Addr.mk.injEq, and_true] at e
        obtain ⟨rfl, _, _⟩ := e
        exact World.cell?_of_block (w := w) (a := ⟨g, j, none⟩) (Below.heap_alloc w.drew _ g h2)
      · simp only [Value.slice.injEq, Option.some.injEq, Addr.mk.injEq, and_true] at e
        obtain ⟨rfl, _, _⟩ := e
        rw [cellAt_new, Array.append_assoc, Array.getElem?_append_left (by simp; omega), hoc j hj]
        simp
      · rw [cellAt_new, Array.append_assoc, Array.getElem?_append_right (by simp; omega), Array.getElem?_append_left (by simp; omega)]
        simp only [List.size_toArray, hol, Nat.add_sub_cancel_left, List.getElem?_toArray]

theorem Grew.has {sz : Nat} {w w' : World} {v : Value} {n p l' c' : Nat} {g' : Nat} {C : Nat → List Value} (h : Grew sz w w' v n g') (hh : Hs w sz v p C) (hp : p ≤ n) (hr : RowG w sz v n) : Hs w' sz (.slice (some ⟨g', 0, none⟩) l' c') p C := by
  intro g2 l2 c2 e i j hi hj
  simp only [Value.slice.injEq, Option.some.injEq, Addr.mk.injEq, and_true] at e
  obtain ⟨rfl, _, _⟩ := e
  have hij : i * sz + j < n * sz := by have := mul_room (sz := sz) (show i < n by omega); omega
  rcases hr with ⟨rfl, rfl⟩ | ⟨g, cap, rfl, _⟩
  · omega
  · rw [h.new g n cap rfl _ hij]
    exact hh g n cap rfl i j hi hj
theorem Grew.kept {sz : Nat} {w w' : World} {v : Value} {n p : Nat} {g' : Nat} {C : Nat → List Value} (h : Grew sz w w' v n g') (hh : Hs w sz v p C) (hp : p ≤ n) : Hs w' sz v p C := by
  intro g l c e i j hi hj
  have hij : i * sz + j < n * sz := by have := mul_room (sz := sz) (show i < n by omega); omega
  rw [h.old g l c e _ hij]
  exact hh g l c e i j hi hj
theorem Grew.has1 {sz : Nat} {w w' : World} {v : Value} {n l' c' : Nat} {g' : Nat} {C : Nat → List Value} (h : Grew sz w w' v n g') (hh : Hs w sz v n C) (hr : RowG w sz v n) (hn : ∀ j, j < sz → w'.cell? ⟨g', n * sz + j, none⟩ = (C n)[j]?) : Hs w' sz (.slice (some ⟨g', 0, none⟩) l' c') (n + 1) C := by
  intro g2 l2 c2 e i j hi hj
  simp only [Value.slice.injEq, Option.some.injEq, Addr.mk.injEq, and_true] at e
  obtain ⟨rfl, _, _⟩ := e
  by_cases hin : i = n
  · rw [hin]; exact hn j hj
  · exact h.has (l' := l') (c' := c') hh (Nat.le_refl _) hr g' l' c' rfl i j (by omega) hj
/-- Whatever row there was may still be written. -/
theorem Grew.row {sz : Nat} {w w' : World} {v u : Value} {n m sz2 : Nat} {g' : Nat} (h : Grew sz w w' v n g') (hr : RowG w sz2 u m) : RowG w' sz2 u m := by
  rcases hr with hr | ⟨g, cap, rfl, h1, h2, h3, h4⟩
  · exact Or.inl hr
  · exact Or.inr ⟨g, cap, rfl, Nat.lt_of_lt_of_le h1 h.upd.size, h2, h3, h.room g _ h1 h4⟩

end Go.Proofs.YtehfoblfmehbdaaDoor

/- What is still to be held against one another: pairs of rows. -/
namespace Go.Proofs.YtehfoblfmehbdaaDoor
open Go.RowKit

theorem NL.more {w : World} : ∀ (d : Nat) (cs : List Value) (t : Nd) (P : Nat → Prop), NL w d cs t P → NL w (d + 1) cs t P := by
  intro d
  induction d with
  | zero => intro cs t P h; exact h.elim
  | succ d ih =>
    intro cs t P h
    cases t with
    | mk k s num pos K =>
      obtain ⟨g, cap, rfl, h1, h2, h3⟩ := h
      exact ⟨g, cap, rfl, h1.upd (S := []) (Upd.refl [] w) (fun x _ => by simp) (fun x hx => hx) (fun cs t Q _ hR => ih cs t Q hR), h2, h3⟩
/-- A pair of rows. -/
structure Ent where
  ga : Nat
  ca : Nat
  gb : Nat
  cb : Nat
  K : List Nd
  J : List Nd
  PA : Nat → Prop
  PB : Nat → Prop
/-- Its cells. -/
def Ent.cells (e : Ent) : List Value := [.slice (some ⟨e.ga, 0, none⟩) e.K.length e.ca, .slice (some ⟨e.gb, 0, none⟩) e.J.length e.cb]
/-- Its rows stand. -/
structure Ent.Ok (w : World) (d : Nat) (A B : Nat → Prop) (e : Ent) : Prop where
  a : RowS (NL w d) w e.ga e.ca e.K e.PA
  b : RowS (NL w d) w e.gb e.cb e.J e.PB
  za : nszs e.K ≤ 20000
  zb : nszs e.J ≤ 20000
  sa : ∀ x, e.PA x → A x
  sb : ∀ x, e.PB x → B x
def Ent.sam (e : Ent) : Bool := samR e.K e.J
/-- How much is to be done. -/
def mass : List Ent → Nat
  | [] => 0
  | e :: r => (1 + 2 * manR e.K) + mass r
theorem mass_append : ∀ (E F : List Ent), mass (E ++ F) = mass E + mass F
  | [], F => by simp [mass]
  | e :: r, F => by simp only [List.cons_append, mass, mass_append r F]; omega
theorem exists_list {α : Type} {P : Nat → α → Prop} : ∀ n, (∀ i, i < n → ∃ t, P i t) → ∃ I : List α, I.length = n ∧ ∀ i (hi : i < I.length), P i I[i] := by
  intro n
  induction n with
  | zero => intro _; exact ⟨[], rfl, fun i hi => by simp at hi⟩
  | succ n ih =>
    intro h
    obtain ⟨I, h1, h2⟩ := ih (fun i hi => h i (by omega))
    obtain ⟨t, ht⟩ := h n (by omega)
    refine ⟨I ++ [t], by simp [h1], fun i hi => ?_⟩
    by_cases e : i < I.length
    · rw [List.getElem_append_left e]; exact h2 i e
    · have : i = n := by simp at hi; omega
      subst this
      rw [List.getElem_append_right (by omega)]
      simpa using ht
theorem alR_iff : ∀ (K J : List Nd), alR K J = true ↔ K.length = J.length ∧ ∀ i (h : i < K.length) (h' : i < J.length), heaN K[i] J[i] = true
  | [], [] => by simp [alR]
  | a :: r, b :: r' => by
    rw [alR, Bool.and_eq_true, alR_iff r r']
    constructor
    · rintro ⟨h1, h2, h3⟩
      refine ⟨by simp [h2], fun i h h' => ?_⟩
      cases i with
      | zero => exact h1
      | succ i => exact h3 i (by simpa using h) (by simpa using h')
    · rintro ⟨h1, h2⟩
      refine ⟨h2 0 (by simp) (by simp), by simpa using h1, fun i h h' => ?_⟩
      exact h2 (i + 1) (by simpa using h) (by simpa using h')
  | [], _ :: _ => by simp [alR]
  | _ :: _, [] => by simp [alR]
theorem samR_alR (K J : List Nd) (h : alR K J = false) : samR K J = false := by
  cases hs : samR K J with
  | false => rfl
  | true =>
    obtain ⟨h1, h2⟩ := (samR_iff K J).1 hs
    have : alR K J = true := (alR_iff K J).2 ⟨h1, fun i a b => by
      have := h2 i a b
      rw [samN_eq, Bool.and_eq_true] at this
      exact this.1⟩
    rw [this] at h
    cases h
/-- The kids' pairs. -/
structure Kids (w : World) (d : Nat) (A B : Nat → Prop) (e : Ent) (F : List Ent) : Prop where
  len : F.length = e.K.length
  ok : ∀ f ∈ F, f.Ok w d A B
  ca : ∀ i (hi : i < F.length), w.cell? ⟨e.ga, i * 5 + 4, none⟩ = some (.slice (some ⟨F[i].ga, 0, none⟩) F[i].K.length F[i].ca)
  cb : ∀ i (hi : i < F.length), w.cell? ⟨e.gb, i * 5 + 4, none⟩ = some (.slice (some ⟨F[i].gb, 0, none⟩) F[i].J.length F[i].cb)
  sub : ∀ f ∈ F, ∀ x, f.PA x → e.PA x ∧ x ≠ e.ga
  dis : F.Pairwise fun f f' => ∀ x, f.PA x → ¬ f'.PA x
  sam : alR e.K e.J = true → samR e.K e.J = F.all Ent.sam
  mass : mass F < 1 + 2 * manR e.K
theorem nsz_kids (t : Nd) : nszs t.kids = nsz t := by cases t; rfl
theorem man_kids (t : Nd) : manN t = 1 + manR t.kids := by cases t; rw [manN]; rfl
theorem RowS.kid {w : World} {d g cap : Nat} {K : List Nd} {P : Nat → Prop} (h : RowS (NL w d) w g cap K P) : ∃ Q : Nat → Nat → Prop, (∀ i x, i < K.length → Q i x → P x ∧ x ≠ g) ∧ (∀ i j x, i < K.length → j < K.length → i ≠ j → Q i x → ¬ Q j x) ∧ ∀ i (hi : i < K.length), ∃ g' c', w.cell? ⟨g, i * 5 + 4, none⟩ = some (.slice (some ⟨g', 0, none⟩) K[i].kids.length c') ∧ RowS (NL w d) w g' c' K[i].kids (Q i) := by
  obtain ⟨_, _, _, _, Q, h1, h2, h3⟩ := h
  refine ⟨Q, h1, h2, fun i hi => ?_⟩
  obtain ⟨cs, k1, k2, k3⟩ := h3 i hi
  cases d with
  | zero => exact k3.elim
  | succ d =>
    generalize hKi : K[i] = t at k3
    cases t with
    | mk k s num pos L =>
      obtain ⟨g', c', rfl, r1, r2, r3⟩ := k3
      exact ⟨g', c', k2 4 (by omega), r1.upd (S := []) (Upd.refl [] w) (fun x _ => by simp) (fun x hx => hx) (fun cs t Q _ hR => NL.more _ _ _ _ hR)⟩
theorem mass_kids : ∀ (K : List Nd) (F : List Ent), F.length = K.length → (∀ i (h : i < F.length) (h' : i < K.length), F[i].K = K[i].kids) → mass F ≤ 2 * manR K
  | [], F, hl, _ => by
    have : F = [] := List.eq_nil_of_length_eq_zero (by simpa using hl)
    subst this
    simp [mass]
  | t :: r, [], hl, _ => by simp at hl
  | t :: r, f :: F, hl, h => by
    have h0 : f.K = t.kids := h 0 (by simp) (by simp)
    have ih := mass_kids r F (by simpa using hl) (fun i a b => h (i + 1) (by simpa using a) (by simpa using b))
    rw [mass, manR, h0, man_kids]
    omega
theorem all_kids : ∀ (K J : List Nd) (F : List Ent), F.length = K.length → K.length = J.length → (∀ i (h : i < K.length) (h' : i < J.length), heaN K[i] J[i] = true) → (∀ i (h : i < F.length) (h1 : i < K.length) (h2 : i < J.length), F[i].K = K[i].kids ∧ F[i].J = J[i].kids) → samR K J = F.all Ent.sam
  | [], [], F, hl, _, _, _ => by
    have : F = [] := List.eq_nil_of_length_eq_zero (by simpa using hl)
    subst this
    simp [samR]
  | t :: r, [], _, _, h, _, _ => by simp at h
  | [], t :: r, _, _, h, _, _ => by simp at h
  | t :: r, u :: r', [], hl, _, _, _ => by simp at hl
  | t :: r, u :: r', f :: F, hl, hlJ, hh, h => by
    obtain ⟨a1, a2⟩ := h 0 (by simp) (by simp) (by simp)
    have a3 : heaN t u = true := hh 0 (by simp) (by simp)
    have ih := all_kids r r' F (by simpa using hl) (by simpa using hlJ) (fun i a b => hh (i + 1) (by simpa using a) (by simpa using b)) (fun i a b c => h (i + 1) (by simpa using a) (by simpa using b) (by simpa using c))
    have a1' : f.K = t.kids := a1
    have a2' : f.J = u.kids := a2
    rw [samR, List.all_cons, samN_eq, a3, Bool.true_and, ih, Ent.sam, a1', a2']
theorem kids_of {w : World} {d : Nat} {A B : Nat → Prop} {e : Ent} (h : e.Ok w d A B) (hl : e.K.length = e.J.length) : ∃ F, Kids w d A B e F := by
  obtain ⟨Q, q1, q2, q3⟩ := h.a.kid
  obtain ⟨R, r1, r2, r3⟩ := h.b.kid
  obtain ⟨F, hF, hP⟩ := exists_list (P := fun i (f : Ent) => ∃ (hi : i < e.K.length) (hj : i < e.J.length), w.cell? ⟨e.ga, i * 5 + 4, none⟩ = some (.slice (some ⟨f.ga, 0, none⟩) f.K.length f.ca) ∧ w.cell? ⟨e.gb, i * 5 + 4, none⟩ = some (.slice (some ⟨f.gb, 0, none⟩) f.J.length f.cb) ∧ f.K = e.K[i].kids ∧ f.J = e.J[i].kids ∧ f.PA = Q i ∧ f.PB = R i ∧ f.Ok w d A B) e.K.length (fun i hi => by
    obtain ⟨g', c', a1, a2⟩ := q3 i hi
    obtain ⟨g2, c2, b1, b2⟩ := r3 i (by omega)
    exact ⟨⟨g', c', g2, c2, e.K[i].kids, (e.J[i]'(by omega)).kids, Q i, R i⟩, hi, by omega, a1, b1, rfl, rfl, rfl, rfl, ⟨a2, b2, by rw [nsz_kids]; exact Nat.le_trans (nszs_get e.K i hi) h.za, by rw [nsz_kids]; exact Nat.le_trans (nszs_get e.J i (by omega)) h.zb, fun x hx => h.sa x (q1 i x hi hx).1, fun x hx => h.sb x (r1 i x (by omega) hx).1⟩⟩)
  refine ⟨F, hF, fun f hf => ?_, fun i hi => ?_, fun i hi => ?_, fun f hf x hx => ?_, ?_, fun ha => ?_, ?_⟩
  · obtain ⟨i, hi, rfl⟩ := List.mem_iff_getElem.1 hf
    obtain ⟨_, _, _, _, _, _, _, _, h9⟩ := hP i hi
    exact h9
  · obtain ⟨_, _, h3, _⟩ := hP i hi
    exact h3
  · obtain ⟨_, _, _, h4, _⟩ := hP i hi
    exact h4
  · obtain ⟨i, hi, rfl⟩ := List.mem_iff_getElem.1 hf
    obtain ⟨h1, _, _, _, _, _, h7, _⟩ := hP i hi
    rw [h7] at hx
    exact q1 i x h1 hx
  · rw [List.pairwise_iff_getElem]
    intro i j hi hj hij x hx hx2
    obtain ⟨h1, _, _, _, _, _, h7, _⟩ := hP i hi
    obtain ⟨k1, _, _, _, _, _, k7, _⟩ := hP j hj
    rw [h7] at hx
    rw [k7] at hx2
    exact q2 i j x h1 k1 (by omega) hx hx2
  · obtain ⟨_, hh⟩ := (alR_iff e.K e.J).1 ha
    refine all_kids e.K e.J F hF hl hh (fun i a b c => ?_)
    obtain ⟨_, _, _, _, h5, h6, _⟩ := hP i a
    exact ⟨h5, h6⟩
  · have := mass_kids e.K F hF (fun i a b => by
      obtain ⟨_, _, _, _, h5, _⟩ := hP i a
      exact h5)
    omega

end Go.Proofs.YtehfoblfmehbdaaDoor

/- Same of package node: what holds while pairs of rows are gone through. -/
namespace Go.Proofs.YtehfoblfmehbdaaDoor
open Go.RowKit

/-- Where a row stands, if it has something. -/
def plA (g n : Nat) : Option Addr := if n = 0 then none else some ⟨g, 0, none⟩
theorem placeOf_in (w : World) (g n c : Nat) (hn : n ≤ 20000) : Calls Tryd.prog 34 #[.slice (some ⟨g, 0, none⟩) n c] w fun e w' => e = .returned (pl (plA g n) n) ∧ Upd [] w w' := by
  by_cases h : n = 0
  · subst h
    exact placeOf_none w _ c
  · rw [plA, if_neg h]
    exact placeOf_some w g n c (by omega) hn
/-- Does join take them to be the same anew? -/
def jb (n m : Nat) : Bool := !(n == 0 && m == 0)
theorem MapK.wide {w : World} {bm : Nat} {G G' : Nat → Prop} (h : MapK w bm G) (hG : ∀ x, G x → G' x) : MapK w bm G' := by
  obtain ⟨es, clock, hb, r⟩ := h
  exact ⟨es, clock, hb, fun e he => by
    obtain ⟨g, n, h1, h2, h3⟩ := r e he
    exact ⟨g, n, h1, hG g h2, h3⟩⟩
/-- What holds while pairs of rows are gone through. -/
structure SmI (W0 : World) (d bm : Nat) (A B G : Nat → Prop) (E : List Ent) (v : Value) (wr : World) : Prop where
  u : Upd [] W0 wr
  map : MapK wr bm G
  far : W0.heap.size ≤ bm
  row : RowG wr 2 v E.length
  hs : Hs wr 2 v E.length (fun i => ((E[i]?).map Ent.cells).getD [])
  own : ∀ g, v.ownBlock = some g → W0.heap.size ≤ g ∧ g ≠ bm
  ok : ∀ e ∈ E, e.Ok W0 d A B
  dis : E.Pairwise fun e e' => ∀ x, e.PA x → ¬ e'.PA x
  out : ∀ e ∈ E, ∀ x, e.PA x → ¬ G x
  gA : ∀ x, G x → A x
theorem RowG.pop {w : World} {sz n : Nat} {g cap : Nat} (h : RowG w sz (.slice (some ⟨g, 0, none⟩) (n + 1) cap) (n + 1)) : RowG w sz (.slice (some ⟨g, 0, none⟩) n cap) n := by
  rcases h with ⟨h, _⟩ | ⟨g2, cap2, e, h1, h2, h3, h4⟩
  · cases h
  · simp only [Value.slice.injEq, Option.some.injEq, Addr.mk.injEq, and_true, true_and] at e
    obtain ⟨rfl, rfl⟩ := e
    exact Or.inr ⟨g, cap, rfl, h1, by omega, h3, h4⟩
theorem RowG.slice {w : World} {sz n : Nat} {v : Value} (h : RowG w sz v (n + 1)) : ∃ g cap, v = .slice (some ⟨g, 0, none⟩) (n + 1) cap ∧ n + 1 ≤ cap ∧ cap ≤ 9223372036854775807 ∧ g < w.heap.size := by
  rcases h with ⟨_, h⟩ | ⟨g, cap, e, h1, h2, h3, _⟩
  · omega
  · exact ⟨g, cap, e, h2, by unfold maxLen at h3; omega, h1⟩

theorem Hs.weak {w : World} {sz p : Nat} {v : Value} {C D : Nat → List Value} (h : Hs w sz v p C) (hCD : ∀ i, i < p → C i = D i) : Hs w sz v p D := fun g l c e i j hi hj => by rw [← hCD i hi]; exact h g l c e i j hi hj
/-- The last pair is taken. -/
theorem SmI.pop {W0 : World} {d bm : Nat} {A B G : Nat → Prop} {E0 : List Ent} {e : Ent} {g n cap : Nat} {wr w' : World} (h : SmI W0 d bm A B G (E0 ++ [e]) (.slice (some ⟨g, 0, none⟩) (n + 1) cap) wr) (hn : n = E0.length) (hu : Upd [bm] wr w') (hm : MapK w' bm (fun x => G x ∨ x = e.ga)) :
    SmI W0 d bm A B (fun x => G x ∨ x = e.ga) E0 (.slice (some ⟨g, 0, none⟩) n cap) w' := by
  subst hn
  have hrow := h.row
  rw [List.length_append] at hrow
  have hown := h.own g rfl
  have hbm : ∀ x, (Value.slice (some ⟨g, 0, none⟩) (E0.length + 1) cap).ownBlock = some x → x ∉ [bm] := fun x hx => by
    simp only [Value.ownBlock, Option.some.injEq] at hx
    subst hx
    simpa using hown.2
  have hpo := List.pairwise_append.1 h.dis
  refine ⟨h.u.then hu (fun x hx => Or.inl (by simp at hx; subst hx; exact h.far)), hm, h.far, (RowG.pop hrow).upd hu hbm, ?_, h.own, fun f hf => h.ok f (by simp [hf]), hpo.1, fun f hf x hx => ?_, fun x hx => ?_⟩
  · have h1 := (h.hs.upd h.row hu hbm).less (show E0.length ≤ (E0 ++ [e]).length by simp)
    refine Hs.weak (Hs.other h1) fun i hi => ?_
    rw [List.getElem?_append_left hi]
  · rintro (h1 | h1)
    · exact h.out f (by simp [hf]) x hx h1
    · subst h1
      exact hpo.2.2 f hf e (by simp) _ hx (h.ok e (by simp)).a.1
  · rcases hx with hx | hx
    · exact h.gA x hx
    · subst hx
      exact (h.ok e (by simp)).sa _ (h.ok e (by simp)).a.1
theorem SmI.later {W0 : World} {d bm : Nat} {A B G : Nat → Prop} {E : List Ent} {v : Value} {wr w' : World} (h : SmI W0 d bm A B G E v wr) (hu : Upd [] wr w') : SmI W0 d bm A B G E v w' :=
  ⟨h.u.trans hu, h.map.upd hu (by simp) (by simp), h.far, h.row.upd hu (by simp), h.hs.upd h.row hu (by simp), h.own, h.ok, h.dis, h.out, h.gA⟩
theorem SmI.push {W0 : World} {d bm : Nat} {A B G : Nat → Prop} {E : List Ent} {v : Value} {f : Ent} {w1 w' : World} {N g' cap' : Nat} (h : SmI W0 d bm A B G E v w1) (hN : N = E.length) (la : ∀ x, A x → x < W0.heap.size) (hr : RowG w' 2 (.slice (some ⟨g', 0, none⟩) (N + 1) cap') (N + 1)) (hg : Grew 2 w1 w' v N g') (hc : ∀ j, j < 1 * 2 → w'.cell? ⟨g', N * 2 + j, none⟩ = f.cells[j]?)
    (hok : f.Ok W0 d A B) (hd : ∀ e ∈ E, ∀ x, e.PA x → ¬ f.PA x) (ho : ∀ x, f.PA x → ¬ G x) : SmI W0 d bm A B G (E ++ [f]) (.slice (some ⟨g', 0, none⟩) (N + 1) cap') w' := by
  subst hN
  have hg1 : W0.heap.size ≤ g' ∧ g' ≠ bm := by
    rcases hg.at' with h1 | h1
    · exact h.own g' h1
    · have := h.u.size
      have := h.map.lt
      omega
  refine ⟨h.u.then hg.upd (fun x hx => Or.inl (by simp at hx; omega)), h.map.upd hg.upd (by simp; omega) (fun x hx => by have := la x (h.gA x hx); simp; omega), h.far, by simpa using hr, ?_, fun x hx => ?_, fun e he => ?_, ?_, fun e he x hx => ?_, h.gA⟩
  · have h1 : Hs w1 2 v E.length (fun i => (((E ++ [f])[i]?).map Ent.cells).getD []) := h.hs.weak (fun i hi => by rw [List.getElem?_append_left hi])
    have h2 := hg.has1 (l' := E.length + 1) (c' := cap') h1 h.row (fun j hj => by rw [hc j (by omega)]; simp)
    simpa using h2
  · simp only [Value.ownBlock, Option.some.injEq] at hx
    omega
  · rcases List.mem_append.1 he with he | he
    · exact h.ok e he
    · simp at he
      rw [he]; exact hok
  · refine List.pairwise_append.2 ⟨h.dis, by simp, fun a ha b hb x hx => ?_⟩
    simp at hb
    rw [hb]
    exact hd a ha x hx
  · rcases List.mem_append.1 he with he | he
    · exact h.out e he x hx
    · simp at he
      subst he
      exact ho x hx
theorem len_mass : ∀ E : List Ent, E.length ≤ mass E
  | [] => by simp
  | e :: r => by have := len_mass r; simp only [mass, List.length_cons]; omega
/-- An append at a step of a region that draws its order. -/
theorem step_append {ops : Array Oper} {o : Oper} {a : Act} {w : World} {K : Act → World → Prop} {Q : Exit → Act → World → Prop} {E : Prop} {t : TypeId} (hgd : o.guard = none) (s x : Operand) (ho : o.op = .call { callee := .builtin .append, args := #[s, x], argTypes := #[t, t] })
    (v u v' : Value) (w' : World) (hs : a.eval s = v) (hx : a.eval x = u) (hr : (Builtin.append_ #[t, t] o.type #[v, u]).run Tryd.prog w = .ok v' w') (h : K (a.put o.dst v') w') :
    if Region.wanted o (yielded ops a.tmps) = true then Oper.wp Tryd.prog o a w K Q else E := by
  have hw : Region.wanted o (yielded ops a.tmps) = true := by simp [Region.wanted, hgd]
  rw [if_pos hw]
  unfold Oper.wp execOp
  simp only [ho, resolve, invoke, builtin, Sem.run_bind, Sem.run_pure, Result.andThen_ok, List.map_toArray, List.map_cons, List.map_nil, hs, hx, hr]
  exact h
theorem RowS.unm {R : List Value → Nd → (Nat → Prop) → Prop} {w : World} {g cap : Nat} {K : List Nd} {P : Nat → Prop} (h : RowS R w g cap K P) : Unm w g := by
  obtain ⟨_, ⟨cur, h1, _⟩, _⟩ := h
  exact ⟨cur, h1⟩
theorem RowS.nin {w w' : World} {d g cap : Nat} {K : List Nd} {P : Nat → Prop} (h : RowS (NL w d) w g cap K P) (hu : Upd [] w w') : RowN (NIn w' d) w' (some ⟨g, 0, none⟩) K :=
  (h.plain (Z := NIn w d) (fun _cs _t _Q h => NL.plain _ _ _ _ h)).imp hu (NIn.mono hu d)

end Go.Proofs.YtehfoblfmehbdaaDoor

/- Maps from places to numbers. -/
namespace Go.Proofs.YtehfoblfmehbdaaDoor
open Go.RowKit

theorem und_depths : Tryd.prog.underlying 44 = some (.map 42 3) := by kernel_rfl
theorem zero_int (w : World) : (zeroValue 3).run Tryd.prog w = .ok (.int .i64 0) w := by kernel_rfl
/-- A map with just these entries. -/
def DM (w : World) (bm : Nat) (l : List (Option Addr × Int × Int)) : Prop := ∃ es clock, w.heap[bm]? = some (.map es clock) ∧ es.toList.map (fun e => (e.key, e.val)) = l.map (fun t => (pl t.1 t.2.1, Value.int .i64 t.2.2))
theorem DM.lt {w : World} {bm : Nat} {l : List (Option Addr × Int × Int)} (h : DM w bm l) : bm < w.heap.size := by
  obtain ⟨es, clock, hb, _⟩ := h
  exact lt_of_block hb
theorem DM.upd {S : List Nat} {w w' : World} {bm : Nat} {l : List (Option Addr × Int × Int)} (h : DM w bm l) (hu : Upd S w w') (hn : bm ∉ S) : DM w' bm l := by
  have hl := h.lt
  obtain ⟨es, clock, hb, r⟩ := h
  exact ⟨es, clock, (hu.block bm hl hn).trans hb, r⟩
theorem place_same {w : World} (p : Option Addr) (n : Int) (d : Nat) : (Op.equalIn (d + 2) 42 (pl p n) (pl p n)).run Tryd.prog w = .ok true w := by
  obtain ⟨f0, f1, hl, a1, a2, a3, b1, b2, b3⟩ := flds_eq
  rw [pl, run_equalIn_struct w (d + 1) 42 _ _ und_place held_place, hl]
  have e1 : (Op.equalIn (d + 1) 40 (.pointer p) (.pointer p)).run Tryd.prog w = .ok true w := by
    cases p with
    | none => exact ptr_none w d
    | some a =>
      have h3 := run_sameAddr_same (P := Tryd.prog) w a
      simp only [Op.equalIn, Sem.run_bind, run_underlying und_pnode, Result.andThen_ok, size_node]
      simpa using h3
  have e2 : (Op.equalIn (d + 1) 3 (.int .i64 n) (.int .i64 n)).run Tryd.prog w = .ok true w := by simp [Op.equalIn, run_underlying Tryd.underlying3]
  simp [Op.eqFields, a1, a2, a3, b1, b2, b3, part_p, part_n, e1, e2]
theorem ask_no {w : World} {p : Option Addr} {n : Int} : ∀ (es : List MapEntry) (l : List (Option Addr × Int × Int)) (i : Nat), es.map (fun e => (e.key, e.val)) = l.map (fun t => (pl t.1 t.2.1, Value.int .i64 t.2.2)) → (∀ t ∈ l, Far w p t.1) → (Instr.findAsking 42 (pl p n) es i).run Tryd.prog w = .ok none w
  | [], _, i, _, _ => rfl
  | e :: es, [], i, h, _ => by simp at h
  | e :: es, t :: l, i, h, hf => by
    simp only [List.map_cons, List.cons.injEq, Prod.mk.injEq] at h
    have ih := ask_no (w := w) (p := p) (n := n) es l (i + 1) h.2 (fun t ht => hf t (List.mem_cons_of_mem _ ht))
    have e1 := place_far (n := n) (m := t.2.1) (hf t List.mem_cons_self) 9998
    simp only [Instr.findAsking, h.1.1, Op.equal, Op.maxDepth, Sem.run_bind, e1, Result.andThen_ok]
    simpa using ih
theorem ask_at {w : World} {p : Option Addr} {n v : Int} : ∀ (es : List MapEntry) (l1 l2 : List (Option Addr × Int × Int)) (i : Nat), es.map (fun e => (e.key, e.val)) = (l1 ++ (p, n, v) :: l2).map (fun t => (pl t.1 t.2.1, Value.int .i64 t.2.2)) → (∀ t ∈ l1, Far w p t.1) → (Instr.findAsking 42 (pl p n) es i).run Tryd.prog w = .ok (some (i + l1.length, .int .i64 v)) w
  | [], l1, l2, i, h, _ => by simp at h
  | e :: es, [], l2, i, h, hf => by
    simp only [List.nil_append, List.map_cons, List.cons.injEq, Prod.mk.injEq] at h
    have e1 := place_same (w := w) p n 9998
    simp only [Instr.findAsking, h.1.1, h.1.2, Op.equal, Op.maxDepth, Sem.run_bind, e1, Result.andThen_ok]
    simp
  | e :: es, t :: l1, l2, i, h, hf => by
    simp only [List.cons_append, List.map_cons, List.cons.injEq, Prod.mk.injEq] at h
    have ih := ask_at (w := w) (p := p) (n := n) (v := v) es l1 l2 (i + 1) h.2 (fun t ht => hf t (List.mem_cons_of_mem _ ht))
    have e1 := place_far (n := n) (m := t.2.1) (hf t List.mem_cons_self) 9998
    simp only [Instr.findAsking, h.1.1, Op.equal, Op.maxDepth, Sem.run_bind, e1, Result.andThen_ok]
    rw [show i + (t :: l1).length = i + 1 + l1.length by simp; omega]
    simpa using ih
theorem DM.look_no {w : World} {bm : Nat} {l : List (Option Addr × Int × Int)} (h : DM w bm l) {p : Option Addr} (n : Int) (hf : ∀ t ∈ l, Far w p t.1) : (Instr.lookup 44 (.map (some bm)) (pl p n) true).run Tryd.prog w = .ok (.tuple #[.int .i64 0, .bool false]) w := by
  obtain ⟨es, clock, hb, r⟩ := h
  have hr : (Instr.findKey 42 (pl p n) es.toList).run Tryd.prog w = .ok none w := by
    rw [run_findKey_eq w (by rw [und_place])]
    exact ask_no _ _ _ r hf
  simp [Instr.lookup, run_underlying und_depths, MapKept.run_getObj_map hb, pk_check, hr, Result.andThen]
theorem DM.look_at {w : World} {bm : Nat} {l1 l2 : List (Option Addr × Int × Int)} {p : Option Addr} {n v : Int} (h : DM w bm (l1 ++ (p, n, v) :: l2)) (hf : ∀ t ∈ l1, Far w p t.1) : (Instr.lookup 44 (.map (some bm)) (pl p n) true).run Tryd.prog w = .ok (.tuple #[.int .i64 v, .bool true]) w ∧ (Instr.lookup 44 (.map (some bm)) (pl p n) false).run Tryd.prog w = .ok (.int .i64 v) w := by
  obtain ⟨es, clock, hb, r⟩ := h
  have hr : (Instr.findKey 42 (pl p n) es.toList).run Tryd.prog w = .ok (some (l1.length, .int .i64 v)) w := by
    rw [run_findKey_eq w (by rw [und_place])]
    have := ask_at _ l1 l2 0 r hf
    rwa [Nat.zero_add] at this
  constructor <;> simp [Instr.lookup, run_underlying und_depths, MapKept.run_getObj_map hb, pk_check, hr, Result.andThen]
theorem DM.put_new {w : World} {bm : Nat} {l : List (Option Addr × Int × Int)} (h : DM w bm l) {p : Option Addr} (n v : Int) (hf : ∀ t ∈ l, Far w p t.1) : ∃ w', (Instr.mapUpdate 44 (.map (some bm)) (pl p n) (.int .i64 v)).run Tryd.prog w = .ok () w' ∧ Upd [bm] w w' ∧ w'.heap.size = w.heap.size ∧ DM w' bm (l ++ [(p, n, v)]) := by
  have hlt := h.lt
  obtain ⟨es, clock, hb, r⟩ := h
  have hr : (Instr.findKey 42 (pl p n) es.toList).run Tryd.prog w = .ok none w := by
    rw [run_findKey_eq w (by rw [und_place])]
    exact ask_no _ _ _ r hf
  refine ⟨{ w with heap := w.heap.setIfInBounds bm (.map (es.push { key := pl p n, val := .int .i64 v, born := clock }) (clock + 1)) }, ?_, setObj_upd _ _ _, by simp, ⟨es.push { key := pl p n, val := .int .i64 v, born := clock }, clock + 1, by simp [hlt], ?_⟩⟩
  · simp [Instr.mapUpdate, run_underlying und_depths, MapKept.run_getObj_map hb, MapKept.run_setObj_map _ hb, pk_check, hr, Result.andThen]
  · rw [Array.toList_push, List.map_append, List.map_append, r]
    rfl
theorem stays (p : Option Addr) (n : Int) (w : World) : (Instr.keyThatStays (pl p n) (pl p n)).run Tryd.prog w = .ok (pl p n) w := by
  have h : Instr.sameBits 10000 (pl p n) (pl p n) = true := by simp [Instr.sameBits, pl]
  simp [Instr.keyThatStays, h]
theorem DM.put_at {w : World} {bm : Nat} {l1 l2 : List (Option Addr × Int × Int)} {p : Option Addr} {n v : Int} (h : DM w bm (l1 ++ (p, n, v) :: l2)) (hf : ∀ t ∈ l1, Far w p t.1) (u : Int) : ∃ w', (Instr.mapUpdate 44 (.map (some bm)) (pl p n) (.int .i64 u)).run Tryd.prog w = .ok () w' ∧ Upd [bm] w w' ∧ w'.heap.size = w.heap.size ∧ DM w' bm (l1 ++ (p, n, u) :: l2) := by
  have hlt := h.lt
  obtain ⟨es, clock, hb, r⟩ := h
  have hr : (Instr.findKey 42 (pl p n) es.toList).run Tryd.prog w = .ok (some (l1.length, .int .i64 v)) w := by
    rw [run_findKey_eq w (by rw [und_place])]
    have := ask_at _ l1 l2 0 r hf
    rwa [Nat.zero_add] at this
  have hl : es.size = l1.length + (l2.length + 1) := by
    have := congrArg List.length r
    simpa using this
  have hj : l1.length < es.size := by omega
  have hek : es[l1.length].key = pl p n := by
    have := congrArg (·[l1.length]?) r
    simp [hj] at this
    exact this.1
  refine ⟨{ w with heap := w.heap.setIfInBounds bm (.map (es.modify l1.length fun x => { key := pl p n, val := .int .i64 u, born := x.born }) clock) }, ?_, setObj_upd _ _ _, by simp, ⟨es.modify l1.length fun x => { key := pl p n, val := .int .i64 u, born := x.born }, clock, by simp [hlt], ?_⟩⟩
  · simp [Instr.mapUpdate, run_underlying und_depths, MapKept.run_getObj_map hb, MapKept.run_setObj_map _ hb, pk_check, hr, Result.andThen, Array.getElem?_eq_getElem hj, hek, stays]
  · apply List.ext_getElem?
    intro i
    have ri := congrArg (·[i]?) r
    simp only [List.getElem?_map] at ri ⊢
    rw [Array.toList_modify, List.getElem?_modify]
    by_cases hi : l1.length = i
    · subst hi
      have : es.toList[l1.length]? = some es[l1.length] := by simp [hj]
      rw [this]
      simp
    · simp only [hi, if_false]
      have e2 : (l1 ++ (p, n, u) :: l2)[i]? = (l1 ++ (p, n, v) :: l2)[i]? := by
        by_cases hlt : i < l1.length
        · rw [List.getElem?_append_left hlt, List.getElem?_append_left hlt]
        · rw [List.getElem?_append_right (by omega), List.getElem?_append_right (by omega)]
          obtain ⟨k, hk⟩ : ∃ k, i - l1.length = k + 1 := ⟨i - l1.length - 1, by omega⟩
          rw [hk]
          rfl
      rw [e2, ← ri]
      cases es.toList[i]? <;> rfl

end Go.Proofs.YtehfoblfmehbdaaDoor
