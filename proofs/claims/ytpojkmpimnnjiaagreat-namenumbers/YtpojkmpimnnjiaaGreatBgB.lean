/- Rows of whatever cells, each in a block of its own: what is stored in them, what is appended. -/
import Derived.Test.YtpojkmpimnnjiaaGreatBgA
import Derived.Deep.AppendSrc
import Derived.Deep.RegionHeld3
namespace Go.Proofs.YtpojkmpimnnjiaaGreat
open Go.RowKit

/-- The block in which a row has room. -/
def oB : Value → Option Nat
  | .slice (some a) _ c => if c = 0 then none else some a.block
  | _ => none
theorem oB_pos {a : Addr} {n c : Nat} (h : 0 < c) : oB (.slice (some a) n c) = some a.block := by
  show (if c = 0 then none else some a.block) = _
  rw [if_neg (by omega)]
theorem oB_zero {p : Option Addr} {n : Nat} : oB (.slice p n 0) = none := by cases p <;> rfl
theorem oB_some {a : Addr} {n c g : Nat} (h : oB (.slice (some a) n c) = some g) : g = a.block := by
  by_cases hc : 0 < c
  · rw [oB_pos hc] at h; exact (Option.some.inj h).symm
  · have : c = 0 := by omega
    subst this
    rw [oB_zero] at h; cases h
/-- A row that may be written and grown, with its room. -/
def RowG (w : World) (sz : Nat) (v : Value) (n : Nat) : Prop :=
  ((∃ p, v = .slice p 0 0) ∧ n = 0) ∨ ∃ g cap, v = .slice (some ⟨g, 0, none⟩) n cap ∧ g < w.heap.size ∧ n ≤ cap ∧ cap ≤ maxLen ∧ w.there g 0 (cap * sz) ∧ 0 < cap
/-- The first elements of a row. -/
def Hs (w : World) (sz : Nat) (v : Value) (p : Nat) (C : Nat → List Value) : Prop :=
  ∀ g l c, v = .slice (some ⟨g, 0, none⟩) l c → ∀ i j, i < p → j < sz → w.cell? ⟨g, i * sz + j, none⟩ = (C i)[j]?

theorem there_upd {S : List Nat} {w w' : World} {g o n : Nat} (h : w.there g o n) (hg : g < w.heap.size) (hu : Upd S w w') (hn : g ∉ S) : w'.there g o n := fun j hj => by
  have hb := hu.block g hg hn
  rw [hu.cell (p := ⟨g, o + j, none⟩) hg hn, World.frozen?_of_block (w := w) (a := ⟨g, o + j, none⟩) hb]
  exact h j hj
theorem RowG.upd {S : List Nat} {w w' : World} {sz n : Nat} {v : Value} (h : RowG w sz v n) (hu : Upd S w w') (hn : ∀ g, oB v = some g → g ∉ S) : RowG w' sz v n := by
  rcases h with h | ⟨g, cap, rfl, h1, h2, h3, h4, h5⟩
  · exact Or.inl h
  · exact Or.inr ⟨g, cap, rfl, Nat.lt_of_lt_of_le h1 hu.size, h2, h3, there_upd h4 h1 hu (hn g (oB_pos h5)), h5⟩
theorem RowG.lt {w : World} {sz n : Nat} {v : Value} (h : RowG w sz v n) : ∀ g, oB v = some g → g < w.heap.size := by
  intro g hg
  rcases h with ⟨⟨p, rfl⟩, _⟩ | ⟨b, cap, rfl, h1, _, _, _, h5⟩
  · rw [oB_zero] at hg; cases hg
  · simp only [oB_pos h5, Option.some.injEq] at hg
    subst hg; exact h1
theorem RowG.form {w : World} {sz n : Nat} {v : Value} (h : RowG w sz v n) : ∃ a c, v = .slice a n c ∧ n ≤ 9223372036854775807 := by
  rcases h with ⟨⟨p, rfl⟩, rfl⟩ | ⟨g, cap, rfl, _, h2, h3, _⟩
  · exact ⟨p, 0, rfl, by omega⟩
  · exact ⟨_, cap, rfl, by unfold maxLen at h3; omega⟩
theorem Hs.upd {S : List Nat} {w w' : World} {sz p n : Nat} {v : Value} {C : Nat → List Value} (h : Hs w sz v p C) (hr : RowG w sz v n) (hp : p ≤ n) (hu : Upd S w w') (hn : ∀ g, oB v = some g → g ∉ S) : Hs w' sz v p C := by
  intro g l c e i j hi hj
  rcases hr with ⟨_, h0⟩ | ⟨b, cap, hv, h1, _, _, _, h5⟩
  · omega
  · rw [hv] at e
    simp only [Value.slice.injEq, Option.some.injEq, Addr.mk.injEq, and_true] at e
    obtain ⟨rfl, rfl, rfl⟩ := e
    rw [hu.cell (p := ⟨b, i * sz + j, none⟩) h1 (hn b (by rw [hv]; exact oB_pos h5))]
    exact h b n cap hv i j hi hj
theorem Hs.less {w : World} {sz p q : Nat} {v : Value} {C : Nat → List Value} (h : Hs w sz v p C) (hq : q ≤ p) : Hs w sz v q C := fun g l c e i j hi hj => h g l c e i j (by omega) hj
theorem Hs.zero (w : World) (sz : Nat) (v : Value) (C : Nat → List Value) : Hs w sz v 0 C := fun _ _ _ _ i _ hi => by omega
theorem Hs.other {w : World} {sz p l l' c c' g : Nat} {C : Nat → List Value} (h : Hs w sz (.slice (some ⟨g, 0, none⟩) l c) p C) : Hs w sz (.slice (some ⟨g, 0, none⟩) l' c') p C := by
  intro g2 l2 c2 e
  simp only [Value.slice.injEq, Option.some.injEq, Addr.mk.injEq, and_true] at e
  obtain ⟨rfl, _, _⟩ := e
  exact h g l c rfl

theorem setCells_upd (g : Nat) : ∀ (vs : List Value) (o : Nat) (w : World), w.grownBy (w.setCells g o vs) (some g)
  | [], _, w => ⟨rfl, rfl, rfl, Nat.le_refl _, fun _ _ _ => rfl⟩
  | v :: r, o, w => by
    have ih := setCells_upd g r (o + 1) (w.setCell ⟨g, o, none⟩ v)
    exact ⟨ih.os, ih.tape, ih.output, Nat.le_trans (by rw [World.size_setCell]; exact Nat.le_refl _) ih.size, fun k hk hne => (ih.block k (by rw [World.size_setCell]; exact hk) hne).trans (heap_setCell_other _ _ _ _ (fun e => hne (by rw [e])))⟩
theorem setCells_Upd (w : World) (g o : Nat) (vs : List Value) : Upd [g] w (w.setCells g o vs) := by
  have h := setCells_upd g vs o w
  exact ⟨h.os, h.tape, h.output, h.size, fun k hk hn => h.block k hk (fun e => hn (by simp at e; simp [e]))⟩
theorem there_set {w : World} {g o o' n : Nat} {vs : List Value} (h : w.there g o n) : (w.setCells g o' vs).there g o n := fun j hj => by
  refine ⟨World.isSome_setCells g _ _ _ _ (h j hj).1, ?_⟩
  rw [World.frozen?_setCells]; exact (h j hj).2
/-- An element is stored. -/
theorem RowG.set {w : World} {sz n g cap : Nat} (h : RowG w sz (.slice (some ⟨g, 0, none⟩) n cap) n) (o : Nat) (vs : List Value) : RowG (w.setCells g o vs) sz (.slice (some ⟨g, 0, none⟩) n cap) n := by
  rcases h with ⟨⟨p, e⟩, rfl⟩ | ⟨g2, cap2, e, h1, h2, h3, h4, h5⟩
  · exact Or.inl ⟨⟨p, e⟩, rfl⟩
  · simp only [Value.slice.injEq, Option.some.injEq, Addr.mk.injEq, and_true, true_and] at e
    obtain ⟨rfl, rfl⟩ := e
    exact Or.inr ⟨g, cap, rfl, Nat.lt_of_lt_of_le h1 (setCells_Upd w g o vs).size, h2, h3, there_set h4, h5⟩
theorem mul_room {i n sz : Nat} (h : i < n) : i * sz + sz ≤ n * sz := by
  have := Nat.mul_le_mul_right sz (show i + 1 ≤ n from h)
  rw [Nat.add_mul, Nat.one_mul] at this
  exact this
theorem RowG.room {w : World} {sz n g cap : Nat} (h : RowG w sz (.slice (some ⟨g, 0, none⟩) n cap) n) {i : Nat} (hi : i < n) : w.there g (i * sz) sz := by
  rcases h with ⟨_, h0⟩ | ⟨g2, cap2, e, h1, h2, h3, h4, h5⟩
  · omega
  · simp only [Value.slice.injEq, Option.some.injEq, Addr.mk.injEq, and_true, true_and] at e
    obtain ⟨rfl, rfl⟩ := e
    intro j hj
    have := mul_room (sz := sz) (show i < cap by omega)
    have := h4 (i * sz + j) (by omega)
    rw [Nat.zero_add] at this
    exact this
theorem Hs.set {w : World} {sz n g cap : Nat} {C : Nat → List Value} {i : Nat} (h : Hs w sz (.slice (some ⟨g, 0, none⟩) n cap) i C) (hr : RowG w sz (.slice (some ⟨g, 0, none⟩) n cap) n) (hi : i < n) (hC : (C i).length = sz) :
    Hs (w.setCells g (i * sz) (C i)) sz (.slice (some ⟨g, 0, none⟩) n cap) (i + 1) C := by
  intro g2 l2 c2 e k j hk hj
  simp only [Value.slice.injEq, Option.some.injEq, Addr.mk.injEq, and_true] at e
  obtain ⟨rfl, _, _⟩ := e
  by_cases hki : k = i
  · subst hki
    have ht := hr.room hi
    rw [World.cell?_setCells_in g (C k) (k * sz) w (fun a ha => (ht a (by omega)).1) j (by omega)]
    exact (List.getElem?_eq_getElem (by omega)).symm
  · have := mul_room (sz := sz) (show k < i by omega)
    rw [World.cell?_setCells_out g _ _ _ _ (fun a _ => Or.inl (show k * sz + j < i * sz by omega))]
    exact h g n cap rfl k j (by omega) hj

/-- Where a row has been grown to: the old block, or a new one; what was there has stayed. -/
structure Grew (sz : Nat) (w w' : World) (v : Value) (n : Nat) (g' : Nat) : Prop where
  upd : Upd [g'] w w'
  room : ∀ g k, g < w.heap.size → w.there g 0 k → w'.there g 0 k
  at' : oB v = some g' ∨ g' = w.heap.size
  old : ∀ g l c, v = .slice (some ⟨g, 0, none⟩) l c → ∀ j, j < n * sz → w'.cell? ⟨g, j, none⟩ = w.cell? ⟨g, j, none⟩
  new : ∀ g l c, v = .slice (some ⟨g, 0, none⟩) l c → ∀ j, j < n * sz → w'.cell? ⟨g', j, none⟩ = w.cell? ⟨g, j, none⟩

theorem cellAt_new (w : World) (cs : Array Value) (t : TypeId) (j : Nat) : (w.drew.alloc (.cells cs t)).cell? ⟨w.heap.size, j, none⟩ = cs[j]? := by
  have hb : (w.drew.alloc (.cells cs t)).heap[w.heap.size]? = some (.cells cs t (0, 0)) := heap_alloc_new w.drew _
  exact cell_of_row _ _ _ _ _ _ hb
theorem there_new (w : World) (cs : Array Value) (t : TypeId) (n : Nat) (h : n ≤ cs.size) : (w.drew.alloc (.cells cs t)).there w.heap.size 0 n := fun j hj => by
  have hb : (w.drew.alloc (.cells cs t)).heap[w.heap.size]? = some (.cells cs t (0, 0)) := heap_alloc_new w.drew _
  refine ⟨?_, frozen_of_row _ _ _ _ _ hb⟩
  rw [cell_of_row _ _ _ _ _ _ hb, Nat.zero_add, Array.getElem?_eq_getElem (by omega)]
  rfl

theorem set_room (w : World) (g o : Nat) (vs : List Value) (g2 k : Nat) (hg : g2 < w.heap.size) (hk : w.there g2 0 k) : (w.setCells g o vs).there g2 0 k := by
  by_cases he : g2 = g
  · rw [he] at hk ⊢; exact there_set hk
  · exact there_upd hk hg (setCells_Upd w g _ _) (by simpa using he)
set_option maxRecDepth 10000 in
/-- Elements are appended to a row. -/
theorem run_appendG {t ty e : TypeId} {i : TypeInfo} {z : Value} {sz bytes : Nat} (ht : Tryz.prog.underlying t = some (.slice e)) (hi : Tryz.prog.info? e = some i) (hz : i.zero = some z) (hsize : i.size = sz) (hby : i.bytes = bytes) (hzs : z.cells.size = sz)
    {w : World} {v : Value} {n : Nat} (h : RowG w sz v n) (a : Addr) (m c : Nat) (news : List Value) (hl : news.length = m * sz) (hnews : ∀ j u, news[j]? = some u → w.cell? (a.add j) = some u) (h1 : ∀ u ∈ news, u.oneCell' = true)
    (hm : 0 < m) (h63 : n + m ≤ 1000000000000000) (hbytes : (n + m) * bytes ≤ 140737488355328) :
    ∃ g' cap' w', (Builtin.append_ #[t, t] ty #[v, .slice (some a) m c]).run Tryz.prog w = .ok (.slice (some ⟨g', 0, none⟩) (n + m) cap') w' ∧ RowG w' sz (.slice (some ⟨g', 0, none⟩) (n + m) cap') (n + m) ∧ Grew sz w w' v n g' ∧
      ∀ j, j < m * sz → w'.cell? ⟨g', n * sz + j, none⟩ = news[j]? := by
  subst hsize
  subst hby
  have hbb : (n + m) * i.bytes ≤ 140737488355328 := hbytes
  rcases h with ⟨⟨p, rfl⟩, rfl⟩ | ⟨g, cap, rfl, h2, h3, h4, h5, h6⟩
  · have hr : (Builtin.append_ #[t, t] ty #[.slice p 0 0, .slice (some a) m c]).run Tryz.prog w = .ok (.slice (some ⟨w.heap.size, 0, none⟩) m (grownCap w m 0 e)) (w.drew.alloc (.cells (news.toArray ++ Builtin.zeroCells z.cells (grownCap w m 0 e - m)) e)) := by
      cases p with
      | none => exact run_append_nil (P := Tryz.prog) w t ty e i z ht hi hz a m c news hl hnews (by omega) (by omega) (by have hb := hbb; simp only [Nat.zero_add] at hb; omega)
      | some pa =>
        have hr := run_append_grow (P := Tryz.prog) w t ty e i z ht hi hz pa 0 0 [] (by simp) (fun j u hu => by simp at hu) a m c news hl hnews (by omega) (by omega) (growslice_fits (by omega) (by omega))
        simpa using hr
    have hge := grownCap_ge w m 0 e
    have hcm : grownCap w m 0 e ≤ maxLen := grownCap_le_maxLen w m 0 e (by unfold maxLen; omega)
    have hcs : (news.toArray ++ Builtin.zeroCells z.cells (grownCap w m 0 e - m)).size = grownCap w m 0 e * i.size := by
      simp only [Array.size_append, List.size_toArray, size_zeroCells, hzs, hl, ← Nat.add_mul]
      congr 1; omega
    rw [Nat.zero_add]
    refine ⟨_, _, _, hr, Or.inr ⟨_, _, rfl, by simp, hge, hcm, there_new w _ _ _ (by rw [hcs]; exact Nat.le_refl _), by omega⟩, ⟨⟨rfl, rfl, rfl, by simp, fun k hk _ => Below.heap_alloc w.drew _ k hk⟩, fun g k hg hk => there_upd (S := []) hk hg ((Upd.refl [] w).drew.alloc _) (by simp), Or.inr rfl, fun g l c e j hj => by omega, fun g l c e j hj => by omega⟩, fun j hj => ?_⟩
    rw [Nat.zero_mul, Nat.zero_add, cellAt_new, Array.getElem?_append_left (by simp; omega)]
    simp
  · by_cases hroom : n + m ≤ cap
    · have hfit : n * i.size + news.length ≤ cap * i.size := by rw [hl, ← Nat.add_mul]; exact Nat.mul_le_mul_right _ hroom
      have hr := run_append_room_cells (P := Tryz.prog) w t ty e i ht hi g 0 n cap a m c news hl hnews h1 hroom
        (fun j hj => by have := (h5 (n * i.size + j) (by omega)).1; rw [Nat.zero_add] at this ⊢; exact this) (fun j hj => by have := (h5 (n * i.size + j) (by omega)).2; rw [Nat.zero_add] at this ⊢; exact this)
      rw [Nat.zero_add] at hr
      have hin : ∀ j, j < n * i.size → (w.setCells g (n * i.size) news).cell? ⟨g, j, none⟩ = w.cell? ⟨g, j, none⟩ := fun j hj => World.cell?_setCells_out g _ _ _ _ (fun a _ => Or.inl (show j < n * i.size by omega))
      refine ⟨_, _, _, hr, Or.inr ⟨g, cap, rfl, Nat.lt_of_lt_of_le h2 (setCells_Upd w g _ _).size, hroom, h4, there_set h5, h6⟩, ⟨setCells_Upd w g _ _, fun g2 k hg hk => set_room w g _ _ g2 k hg hk, Or.inl (oB_pos h6), fun g2 l2 c2 e j hj => ?_, fun g2 l2 c2 e j hj => ?_⟩, fun j hj => ?_⟩
      · simp only [Value.slice.injEq, Option.some.injEq, Addr.mk.injEq, and_true] at e
        obtain ⟨rfl, _, _⟩ := e
        exact hin j hj
      · simp only [Value.slice.injEq, Option.some.injEq, Addr.mk.injEq, and_true] at e
        obtain ⟨rfl, _, _⟩ := e
        exact hin j hj
      · refine Eq.trans ?_ (List.getElem?_eq_getElem (show j < news.length by omega)).symm
        exact World.cell?_setCells_in g news (n * i.size) w (fun k hk => by have := (h5 (n * i.size + k) (by omega)).1; rw [Nat.zero_add] at this; exact this) j (by omega)
    · have hnc : n * i.size ≤ cap * i.size := Nat.mul_le_mul_right _ h3
      obtain ⟨olds, hol, hoc⟩ : ∃ olds : List Value, olds.length = n * i.size ∧ ∀ j, j < n * i.size → w.cell? ⟨g, j, none⟩ = olds[j]? := by
        refine ⟨(List.range (n * i.size)).map (fun j => ((w.cell? ⟨g, j, none⟩).getD undef)), by simp, fun j hj => ?_⟩
        have hs := (h5 j (by omega)).1
        rw [Nat.zero_add] at hs
        obtain ⟨u, hu⟩ := Option.isSome_iff_exists.1 hs
        simp [hj, hu]
      have hr := run_append_grow (P := Tryz.prog) w t ty e i z ht hi hz ⟨g, 0, none⟩ n cap olds hol
        (fun j u hu => by
          have hj : j < n * i.size := by have := (List.getElem?_eq_some_iff.1 hu).1; omega
          rw [Addr.add_lit, Nat.zero_add, hoc j hj, hu]) a m c news hl hnews (by omega) (by omega) (growslice_fits (by omega) (by omega))
      have hge := grownCap_ge w (n + m) cap e
      have hcm : grownCap w (n + m) cap e ≤ maxLen := grownCap_le_maxLen w (n + m) cap e (by unfold maxLen; omega)
      have hcs : (olds.toArray ++ news.toArray ++ Builtin.zeroCells z.cells (grownCap w (n + m) cap e - (n + m))).size = grownCap w (n + m) cap e * i.size := by
        simp only [Array.size_append, List.size_toArray, size_zeroCells, hzs, hl, hol, ← Nat.add_mul]
        congr 1; omega
      have hnm : n * i.size + m * i.size = (n + m) * i.size := (Nat.add_mul _ _ _).symm
      refine ⟨_, _, _, hr, Or.inr ⟨_, _, rfl, by simp, hge, hcm, there_new w _ _ _ (by rw [hcs]; exact Nat.le_refl _), by omega⟩, ⟨⟨rfl, rfl, rfl, by simp, fun k hk _ => Below.heap_alloc w.drew _ k hk⟩, fun g k hg hk => there_upd (S := []) hk hg ((Upd.refl [] w).drew.alloc _) (by simp), Or.inr rfl, fun g2 l2 c2 e j hj => ?_, fun g2 l2 c2 e j hj => ?_⟩, fun j hj => ?_⟩
      · simp only [Value.slice.injEq, Option.some.injEq, Addr.mk.injEq, and_true] at e
        obtain ⟨rfl, _, _⟩ := e
        exact World.cell?_of_block (w := w) (a := ⟨g, j, none⟩) (Below.heap_alloc w.drew _ g h2)
      · simp only [Value.slice.injEq, Option.some.injEq, Addr.mk.injEq, and_true] at e
        obtain ⟨rfl, _, _⟩ := e
        rw [cellAt_new, Array.append_assoc, Array.getElem?_append_left (by simp; omega), hoc j hj]
        simp
      · rw [cellAt_new, Array.append_assoc, Array.getElem?_append_right (by simp; omega), Array.getElem?_append_left (by simp; omega)]
        simp only [List.size_toArray, hol, Nat.add_sub_cancel_left, List.getElem?_toArray]

theorem Grew.has {sz : Nat} {w w' : World} {v : Value} {n p l' c' : Nat} {g' : Nat} {C : Nat → List Value} (h : Grew sz w w' v n g') (hh : Hs w sz v p C) (hp : p ≤ n) (hr : RowG w sz v n) : Hs w' sz (.slice (some ⟨g', 0, none⟩) l' c') p C := by
  intro g2 l2 c2 e i j hi hj
  simp only [Value.slice.injEq, Option.some.injEq, Addr.mk.injEq, and_true] at e
  obtain ⟨rfl, _, _⟩ := e
  have hij : i * sz + j < n * sz := by have := mul_room (sz := sz) (show i < n by omega); omega
  rcases hr with ⟨_, rfl⟩ | ⟨g, cap, rfl, _⟩
  · omega
  · rw [h.new g n cap rfl _ hij]
    exact hh g n cap rfl i j hi hj
theorem Grew.kept {sz : Nat} {w w' : World} {v : Value} {n p : Nat} {g' : Nat} {C : Nat → List Value} (h : Grew sz w w' v n g') (hh : Hs w sz v p C) (hp : p ≤ n) : Hs w' sz v p C := by
  intro g l c e i j hi hj
  have hij : i * sz + j < n * sz := by have := mul_room (sz := sz) (show i < n by omega); omega
  rw [h.old g l c e _ hij]
  exact hh g l c e i j hi hj
theorem Grew.has1 {sz : Nat} {w w' : World} {v : Value} {n l' c' : Nat} {g' : Nat} {C : Nat → List Value} (h : Grew sz w w' v n g') (hh : Hs w sz v n C) (hr : RowG w sz v n) (hn : ∀ j, j < sz → w'.cell? ⟨g', n * sz + j, none⟩ = (C n)[j]?) : Hs w' sz (.slice (some ⟨g', 0, none⟩) l' c') (n + 1) C := by
  intro g2 l2 c2 e i j hi hj
  simp only [Value.slice.injEq, Option.some.injEq, Addr.mk.injEq, and_true] at e
  obtain ⟨rfl, _, _⟩ := e
  by_cases hin : i = n
  · rw [hin]; exact hn j hj
  · exact h.has (l' := l') (c' := c') hh (Nat.le_refl _) hr g' l' c' rfl i j (by omega) hj
/-- Whatever row there was may still be written. -/
theorem Grew.row {sz : Nat} {w w' : World} {v u : Value} {n m sz2 : Nat} {g' : Nat} (h : Grew sz w w' v n g') (hr : RowG w sz2 u m) : RowG w' sz2 u m := by
  rcases hr with hr | ⟨g, cap, rfl, h1, h2, h3, h4, h5⟩
  · exact Or.inl hr
  · exact Or.inr ⟨g, cap, rfl, Nat.lt_of_lt_of_le h1 h.upd.size, h2, h3, h.room g _ h1 h4, h5⟩

end Go.Proofs.YtpojkmpimnnjiaaGreat
