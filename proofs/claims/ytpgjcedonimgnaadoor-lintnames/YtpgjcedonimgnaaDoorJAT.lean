/- Pick, small. -/
import Derived.Test.YtpgjcedonimgnaaDoorGnG
import Derived.Deep.AppendSrc
import Derived.Deep.RegionHeld3

namespace Go.Proofs.YtpgjcedonimgnaaDoor
open Go.RowKit

theorem tmod_low (x : Int) (n : Nat) (h : 0 < n) : -(n : Int) < x.tmod n := by
  have h1 := Int.tmod_lt_of_pos (-x) (b := (n : Int)) (by omega)
  rw [Int.neg_tmod] at h1
  omega
set_option maxHeartbeats 2000000 in
/-- A number below a number. -/
theorem Pick_in (x : Int) (n : Nat) (h0 : 0 < n) (hn : n ≤ 2199023255488) (w : World) : Calls Tryd.prog 14 #[.int .i64 x, .int .i64 (n : Nat)] w fun e w' => (∃ k : Nat, k < n ∧ e = .returned (.int .i64 (k : Nat))) ∧ w' = w := by
  have h1 : decide ((n : Int) < 1) = false := decide_eq_false (by omega)
  have h1b : ¬ (n : Int) < 1 := by omega
  have hz : ¬ (n : Int) = 0 := by omega
  have hz2 : ((n : Int) == 0) = false := by simp; omega
  have hr1 : x.tmod n < n := Int.tmod_lt_of_pos x (by omega)
  have hr2 : -(n : Int) < x.tmod n := tmod_low x n h0
  obtain ⟨m, hm⟩ : ∃ m, m = x.tmod n := ⟨_, rfl⟩
  have hw : wrap64 (x.tmod n) = x.tmod n := by unfold wrap64; omega
  have hw2 : IntKind.i64.wrap (x.tmod n) = x.tmod n := by rw [IntKind.wrap_i64]; omega
  by_cases hneg : x.tmod n < 0
  · have hd : decide (x.tmod n < 0) = true := decide_eq_true hneg
    have hw3 : wrap64 (x.tmod n + n) = x.tmod n + n := by unfold wrap64; omega
    have hw4 : IntKind.i64.wrap (x.tmod n + n) = x.tmod n + n := by rw [IntKind.wrap_i64]; omega
    go_enter Tryd.func14, Tryd.ntmps14
    go_wp2_with fail
    go_ret
    exact ⟨⟨(x.tmod n + n).toNat, by omega, by rw [Int.toNat_of_nonneg (by omega)]; rfl⟩, rfl⟩
  · have hd : decide (x.tmod n < 0) = false := decide_eq_false hneg
    go_enter Tryd.func14, Tryd.ntmps14
    go_wp2_with fail
    go_ret
    exact ⟨⟨(x.tmod n).toNat, by omega, by rw [Int.toNat_of_nonneg (by omega)]; rfl⟩, rfl⟩
set_option maxHeartbeats 2000000 in
theorem small_in (d : Nat) (w : World) (cs : List Value) (t : Nd) (h : NIn w d cs t) (hs : nsz t ≤ 2199023255488) (hx : nxz t ≤ 140737488355328) : Calls Tryd.prog 10 #[.agg cs.toArray] w fun e w' => (∃ b, e = .returned (.bool b) ∧ (b = true → cntN t ≤ 3000)) ∧ Upd [] w w' := by
  have h5 := h.five
  have HK : Hid (∀ W, Upd [] w W → Calls Tryd.prog 16 #[.agg cs.toArray, .int .i64 3000] W fun e w' => CntX 3000 t e ∧ Upd [] W w') := fun W hW => NofX_all d W cs t 3000 (NIn.mono hW _ _ _ h) hs hx (by omega) (by omega)
  have tN : Tb (w.alloc (.cells cs.toArray 29)) w.heap.size cs.toArray := Tb.new _ _ _ rfl
  have U1 : Hid (Upd [] w (w.alloc (.cells cs.toArray 29))) := (Upd.refl [] w).alloc _
  clear h
  go_enter Tryd.func10, Tryd.ntmps10
  go_wp2_with (first | (refine load_T _ rfl _ rfl _ _ rfl tN h5 ?_) | fail)
  refine Calls.mono (HK.out _ U1.out) ?_
  rintro e w2 ⟨⟨z, rfl, hz1, hz2, hz3⟩, hu⟩
  have U2 : Hid (Upd [] w w2) := U1.out.trans hu
  have hb : decide (z ≤ 3000) = true → cntN t ≤ 3000 := fun hd => by
    have h1 := of_decide_eq_true hd
    have := hz3 h1
    omega
  clear hu tN HK
  go_wp2_with fail
  go_ret
  exact ⟨⟨_, rfl, hb⟩, U2.out⟩
end Go.Proofs.YtpgjcedonimgnaaDoor

/- Rows of whatever cells, each in a block of its own: what is stored in them, what is appended. -/
namespace Go.Proofs.YtpgjcedonimgnaaDoor
open Go.RowKit

/-- A row that may be written and grown, with its room. -/
def RowG (w : World) (sz : Nat) (v : Value) (n : Nat) : Prop :=
  (v = .slice none 0 0 ∧ n = 0) ∨ ∃ g cap, v = .slice (some ⟨g, 0, none⟩) n cap ∧ g < w.heap.size ∧ n ≤ cap ∧ cap ≤ maxLen ∧ w.there g 0 (cap * sz)
/-- The first elements of a row. -/
def Hs (w : World) (sz : Nat) (v : Value) (p : Nat) (C : Nat → List Value) : Prop :=
  ∀ g l c, v = .slice (some ⟨g, 0, none⟩) l c → ∀ i j, i < p → j < sz → w.cell? ⟨g, i * sz + j, none⟩ = (C i)[j]?

theorem there_upd {S : List Nat} {w w' : World} {g o n : Nat} (h : w.there g o n) (hg : g < w.heap.size) (hu : Upd S w w') (hn : g ∉ S) : w'.there g o n := fun j hj => by
  have hb := hu.block g hg hn
  rw [hu.cell (p := ⟨g, o + j, none⟩) hg hn, World.frozen?_of_block (w := w) (a := ⟨g, o + j, none⟩) hb]
  exact h j hj
theorem RowG.upd {S : List Nat} {w w' : World} {sz n : Nat} {v : Value} (h : RowG w sz v n) (hu : Upd S w w') (hn : ∀ g, v.ownBlock = some g → g ∉ S) : RowG w' sz v n := by
  rcases h with h | ⟨g, cap, rfl, h1, h2, h3, h4⟩
  · exact Or.inl h
  · exact Or.inr ⟨g, cap, rfl, Nat.lt_of_lt_of_le h1 hu.size, h2, h3, there_upd h4 h1 hu (hn g rfl)⟩
theorem RowG.lt {w : World} {sz n : Nat} {v : Value} (h : RowG w sz v n) : ∀ g, v.ownBlock = some g → g < w.heap.size := by
  intro g hg
  rcases h with ⟨rfl, _⟩ | ⟨b, cap, rfl, h1, _⟩
  · cases hg
  · simp only [Value.ownBlock, Option.some.injEq] at hg
    subst hg; exact h1
theorem RowG.form {w : World} {sz n : Nat} {v : Value} (h : RowG w sz v n) : ∃ a c, v = .slice a n c ∧ n ≤ 9223372036854775807 := by
  rcases h with ⟨rfl, rfl⟩ | ⟨g, cap, rfl, _, h2, h3, _⟩
  · exact ⟨none, 0, rfl, by omega⟩
  · exact ⟨_, cap, rfl, by unfold maxLen at h3; omega⟩
theorem Hs.upd {S : List Nat} {w w' : World} {sz p n : Nat} {v : Value} {C : Nat → List Value} (h : Hs w sz v p C) (hr : RowG w sz v n) (hu : Upd S w w') (hn : ∀ g, v.ownBlock = some g → g ∉ S) : Hs w' sz v p C := by
  intro g l c e i j hi hj
  subst e
  rw [hu.cell (p := ⟨g, i * sz + j, none⟩) (hr.lt g rfl) (hn g rfl)]
  exact h g l c rfl i j hi hj
theorem Hs.less {w : World} {sz p q : Nat} {v : Value} {C : Nat → List Value} (h : Hs w sz v p C) (hq : q ≤ p) : Hs w sz v q C := fun g l c e i j hi hj => h g l c e i j (by omega) hj
theorem Hs.zero (w : World) (sz : Nat) (v : Value) (C : Nat → List Value) : Hs w sz v 0 C := fun _ _ _ _ i _ hi => by omega
theorem Hs.other {w : World} {sz p l l' c c' g : Nat} {C : Nat → List Value} (h : Hs w sz (.slice (some ⟨g, 0, none⟩) l c) p C) : Hs w sz (.slice (some ⟨g, 0, none⟩) l' c') p C := by
  intro g2 l2 c2 e
  simp only [Value.slice.injEq, Option.some.injEq, Addr.mk.injEq, and_true] at e
  obtain ⟨rfl, _, _⟩ := e
  exact h g l c rfl

theorem setCells_upd (g : Nat) : ∀ (vs : List Value) (o : Nat) (w : World), w.grownBy (w.setCells g o vs) (some g)
  | [], _, w => ⟨rfl, rfl, rfl, Nat.le_refl _, fun _ _ _ => rfl⟩
  | v :: r, o, w => by
    have ih := setCells_upd g r (o + 1) (w.setCell ⟨g, o, none⟩ v)
    exact ⟨ih.os, ih.tape, ih.output, Nat.le_trans (by rw [World.size_setCell]; exact Nat.le_refl _) ih.size, fun k hk hne => (ih.block k (by rw [World.size_setCell]; exact hk) hne).trans (heap_setCell_other _ _ _ _ (fun e => hne (by rw [e])))⟩
theorem setCells_Upd (w : World) (g o : Nat) (vs : List Value) : Upd [g] w (w.setCells g o vs) := by
  have h := setCells_upd g vs o w
  exact ⟨h.os, h.tape, h.output, h.size, fun k hk hn => h.block k hk (fun e => hn (by simp at e; simp [e]))⟩
theorem there_set {w : World} {g o o' n : Nat} {vs : List Value} (h : w.there g o n) : (w.setCells g o' vs).there g o n := fun j hj => by
  refine ⟨World.isSome_setCells g _ _ _ _ (h j hj).1, ?_⟩
  rw [World.frozen?_setCells]; exact (h j hj).2
/-- An element is stored. -/
theorem RowG.set {w : World} {sz n g cap : Nat} (h : RowG w sz (.slice (some ⟨g, 0, none⟩) n cap) n) (o : Nat) (vs : List Value) : RowG (w.setCells g o vs) sz (.slice (some ⟨g, 0, none⟩) n cap) n := by
  rcases h with ⟨h, _⟩ | ⟨g2, cap2, e, h1, h2, h3, h4⟩
  · cases h
  · simp only [Value.slice.injEq, Option.some.injEq, Addr.mk.injEq, and_true, true_and] at e
    obtain ⟨rfl, rfl⟩ := e
    exact Or.inr ⟨g, cap, rfl, Nat.lt_of_lt_of_le h1 (setCells_Upd w g o vs).size, h2, h3, there_set h4⟩
theorem mul_room {i n sz : Nat} (h : i < n) : i * sz + sz ≤ n * sz := by
  have := Nat.mul_le_mul_right sz (show i + 1 ≤ n from h)
  rw [Nat.add_mul, Nat.one_mul] at this
  exact this
theorem RowG.room {w : World} {sz n g cap : Nat} (h : RowG w sz (.slice (some ⟨g, 0, none⟩) n cap) n) {i : Nat} (hi : i < n) : w.there g (i * sz) sz := by
  rcases h with ⟨h, _⟩ | ⟨g2, cap2, e, h1, h2, h3, h4⟩
  · cases h
  · simp only [Value.slice.injEq, Option.some.injEq, Addr.mk.injEq, and_true, true_and] at e
    obtain ⟨rfl, rfl⟩ := e
    intro j hj
    have := mul_room (sz := sz) (show i < cap by omega)
    have := h4 (i * sz + j) (by omega)
    rw [Nat.zero_add] at this
    exact this
theorem Hs.set {w : World} {sz n g cap : Nat} {C : Nat → List Value} {i : Nat} (h : Hs w sz (.slice (some ⟨g, 0, none⟩) n cap) i C) (hr : RowG w sz (.slice (some ⟨g, 0, none⟩) n cap) n) (hi : i < n) (hC : (C i).length = sz) :
    Hs (w.setCells g (i * sz) (C i)) sz (.slice (some ⟨g, 0, none⟩) n cap) (i + 1) C := by
  intro g2 l2 c2 e k j hk hj
  simp only [Value.slice.injEq, Option.some.injEq, Addr.mk.injEq, and_true] at e
  obtain ⟨rfl, _, _⟩ := e
  by_cases hki : k = i
  · subst hki
    have ht := hr.room hi
    rw [World.cell?_setCells_in g (C k) (k * sz) w (fun a ha => (ht a (by omega)).1) j (by omega)]
    exact (List.getElem?_eq_getElem (by omega)).symm
  · have := mul_room (sz := sz) (show k < i by omega)
    rw [World.cell?_setCells_out g _ _ _ _ (fun a _ => Or.inl (show k * sz + j < i * sz by omega))]
    exact h g n cap rfl k j (by omega) hj

/-- Where a row has been grown to: the old block, or a new one; what was there has stayed. -/
structure Grew (sz : Nat) (w w' : World) (v : Value) (n : Nat) (g' : Nat) : Prop where
  upd : Upd [g'] w w'
  room : ∀ g k, g < w.heap.size → w.there g 0 k → w'.there g 0 k
  at' : v.ownBlock = some g' ∨ g' = w.heap.size
  old : ∀ g l c, v = .slice (some ⟨g, 0, none⟩) l c → ∀ j, j < n * sz → w'.cell? ⟨g, j, none⟩ = w.cell? ⟨g, j, none⟩
  new : ∀ g l c, v = .slice (some ⟨g, 0, none⟩) l c → ∀ j, j < n * sz → w'.cell? ⟨g', j, none⟩ = w.cell? ⟨g, j, none⟩

theorem cellAt_new (w : World) (cs : Array Value) (t : TypeId) (j : Nat) : (w.drew.alloc (.cells cs t)).cell? ⟨w.heap.size, j, none⟩ = cs[j]? := by
  have hb : (w.drew.alloc (.cells cs t)).heap[w.heap.size]? = some (.cells cs t (0, 0)) := heap_alloc_new w.drew _
  exact cell_of_row _ _ _ _ _ _ hb
theorem there_new (w : World) (cs : Array Value) (t : TypeId) (n : Nat) (h : n ≤ cs.size) : (w.drew.alloc (.cells cs t)).there w.heap.size 0 n := fun j hj => by
  have hb : (w.drew.alloc (.cells cs t)).heap[w.heap.size]? = some (.cells cs t (0, 0)) := heap_alloc_new w.drew _
  refine ⟨?_, frozen_of_row _ _ _ _ _ hb⟩
  rw [cell_of_row _ _ _ _ _ _ hb, Nat.zero_add, Array.getElem?_eq_getElem (by omega)]
  rfl

theorem set_room (w : World) (g o : Nat) (vs : List Value) (g2 k : Nat) (hg : g2 < w.heap.size) (hk : w.there g2 0 k) : (w.setCells g o vs).there g2 0 k := by
  by_cases he : g2 = g
  · rw [he] at hk ⊢; exact there_set hk
  · exact there_upd hk hg (setCells_Upd w g _ _) (by simpa using he)
set_option maxRecDepth 10000 in
/-- Elements are appended to a row. -/
theorem run_appendG {t ty e : TypeId} {i : TypeInfo} {z : Value} {sz bytes : Nat} (ht : Tryd.prog.underlying t = some (.slice e)) (hi : Tryd.prog.info? e = some i) (hz : i.zero = some z) (hsize : i.size = sz) (hby : i.bytes = bytes) (hzs : z.cells.size = sz)
    {w : World} {v : Value} {n : Nat} (h : RowG w sz v n) (a : Addr) (m c : Nat) (news : List Value) (hl : news.length = m * sz) (hnews : ∀ j u, news[j]? = some u → w.cell? (a.add j) = some u) (h1 : ∀ u ∈ news, u.oneCell' = true)
    (hm : 0 < m) (h63 : n + m ≤ 1000000000000000) (hbytes : (n + m) * bytes ≤ 140737488355328) :
    ∃ g' cap' w', (Builtin.append_ #[t, t] ty #[v, .slice (some a) m c]).run Tryd.prog w = .ok (.slice (some ⟨g', 0, none⟩) (n + m) cap') w' ∧ RowG w' sz (.slice (some ⟨g', 0, none⟩) (n + m) cap') (n + m) ∧ Grew sz w w' v n g' ∧
      ∀ j, j < m * sz → w'.cell? ⟨g', n * sz + j, none⟩ = news[j]? := by
  subst hsize
  subst hby
  have hbb : (n + m) * i.bytes ≤ 140737488355328 := hbytes
  rcases h with ⟨rfl, rfl⟩ | ⟨g, cap, rfl, h2, h3, h4, h5⟩
  · have hr := run_append_nil (P := Tryd.prog) w t ty e i z ht hi hz a m c news hl hnews (by omega) (by omega) (by have hb := hbb; simp only [Nat.zero_add] at hb; omega)
    have hge := grownCap_ge w m 0 e
    have hcm : grownCap w m 0 e ≤ maxLen := grownCap_le_maxLen w m 0 e (by unfold maxLen; omega)
    have hcs : (news.toArray ++ Builtin.zeroCells z.cells (grownCap w m 0 e - m)).size = grownCap w m 0 e * i.size := by
      simp only [Array.size_append, List.size_toArray, size_zeroCells, hzs, hl, ← Nat.add_mul]
      congr 1; omega
    rw [Nat.zero_add]
    refine ⟨_, _, _, hr, Or.inr ⟨_, _, rfl, by simp, hge, hcm, there_new w _ _ _ (by rw [hcs]; exact Nat.le_refl _)⟩, ⟨⟨rfl, rfl, rfl, by simp, fun k hk _ => Below.heap_alloc w.drew _ k hk⟩, fun g k hg hk => there_upd (S := []) hk hg ((Upd.refl [] w).drew.alloc _) (by simp), Or.inr rfl, fun g l c e => (by cases e), fun g l c e => (by cases e)⟩, fun j hj => ?_⟩
    rw [Nat.zero_mul, Nat.zero_add, cellAt_new, Array.getElem?_append_left (by simp; omega)]
    simp
  · by_cases hroom : n + m ≤ cap
    · have hfit : n * i.size + news.length ≤ cap * i.size := by rw [hl, ← Nat.add_mul]; exact Nat.mul_le_mul_right _ hroom
      have hr := run_append_room_cells (P := Tryd.prog) w t ty e i ht hi g 0 n cap a m c news hl hnews h1 hroom
        (fun j hj => by have := (h5 (n * i.size + j) (by omega)).1; rw [Nat.zero_add] at this ⊢; exact this) (fun j hj => by have := (h5 (n * i.size + j) (by omega)).2; rw [Nat.zero_add] at this ⊢; exact this)
      rw [Nat.zero_add] at hr
      have hin : ∀ j, j < n * i.size → (w.setCells g (n * i.size) news).cell? ⟨g, j, none⟩ = w.cell? ⟨g, j, none⟩ := fun j hj => World.cell?_setCells_out g _ _ _ _ (fun a _ => Or.inl (show j < n * i.size by omega))
      refine ⟨_, _, _, hr, Or.inr ⟨g, cap, rfl, Nat.lt_of_lt_of_le h2 (setCells_Upd w g _ _).size, hroom, h4, there_set h5⟩, ⟨setCells_Upd w g _ _, fun g2 k hg hk => set_room w g _ _ g2 k hg hk, Or.inl rfl, fun g2 l2 c2 e j hj => ?_, fun g2 l2 c2 e j hj => ?_⟩, fun j hj => ?_⟩
      · simp only [Value.slice.injEq, Option.some.injEq, Addr.mk.injEq, and_true] at e
        obtain ⟨rfl, _, _⟩ := e
        exact hin j hj
      · simp only [Value.slice.injEq, Option.some.injEq, Addr.mk.injEq, and_true] at e
        obtain ⟨rfl, _, _⟩ := e
        exact hin j hj
      · refine Eq.trans ?_ (List.getElem?_eq_getElem (show j < news.length by omega)).symm
        exact World.cell?_setCells_in g news (n * i.size) w (fun k hk => by have := (h5 (n * i.size + k) (by omega)).1; rw [Nat.zero_add] at this; exact this) j (by omega)
    · have hnc : n * i.size ≤ cap * i.size := Nat.mul_le_mul_right _ h3
      obtain ⟨olds, hol, hoc⟩ : ∃ olds : List Value, olds.length = n * i.size ∧ ∀ j, j < n * i.size → w.cell? ⟨g, j, none⟩ = olds[j]? := by
        refine ⟨(List.range (n * i.size)).map (fun j => ((w.cell? ⟨g, j, none⟩).getD undef)), by simp, fun j hj => ?_⟩
        have hs := (h5 j (by omega)).1
        rw [Nat.zero_add] at hs
        obtain ⟨u, hu⟩ := Option.isSome_iff_exists.1 hs
        simp [hj, hu]
      have hr := run_append_grow (P := Tryd.prog) w t ty e i z ht hi hz ⟨g, 0, none⟩ n cap olds hol
        (fun j u hu => by
          have hj : j < n * i.size := by have := (List.getElem?_eq_some_iff.1 hu).1; omega
          rw [Addr.add_lit, Nat.zero_add, hoc j hj, hu]) a m c news hl hnews (by omega) (by omega) (growslice_fits (by omega) (by omega))
      have hge := grownCap_ge w (n + m) cap e
      have hcm : grownCap w (n + m) cap e ≤ maxLen := grownCap_le_maxLen w (n + m) cap e (by unfold maxLen; omega)
      have hcs : (olds.toArray ++ news.toArray ++ Builtin.zeroCells z.cells (grownCap w (n + m) cap e - (n + m))).size = grownCap w (n + m) cap e * i.size := by
        simp only [Array.size_append, List.size_toArray, size_zeroCells, hzs, hl, hol, ← Nat.add_mul]
        congr 1; omega
      have hnm : n * i.size + m * i.size = (n + m) * i.size := (Nat.add_mul _ _ _).symm
      refine ⟨_, _, _, hr, Or.inr ⟨_, _, rfl, by simp, hge, hcm, there_new w _ _ _ (by rw [hcs]; exact Nat.le_refl _)⟩, ⟨⟨rfl, rfl, rfl, by simp, fun k hk _ => Below.heap_alloc w.drew _ k hk⟩, fun g k hg hk => there_upd (S := []) hk hg ((Upd.refl [] w).drew.alloc _) (by simp), Or.inr rfl, fun g2 l2 c2 e j hj => ?_, fun g2 l2 c2 e j hj => ?_⟩, fun j hj => ?_⟩
      · simp only [Value.slice.injEq, Option.some.injEq, Addr.mk.injEq, and_true] at e
        obtain ⟨rfl, _, _⟩ := e
        exact World.cell?_of_block (w := w) (a := ⟨g, j, none⟩) (Below.heap_alloc w.drew _ g h2)
      · simp only [Value.slice.injEq, Option.some.injEq, Addr.mk.injEq, and_true] at e
        obtain ⟨rfl, _, _⟩ := e
        rw [cellAt_new, Array.append_assoc, Array.getElem?_append_left (by simp; omega), hoc j hj]
        simp
      · rw [cellAt_new, Array.append_assoc, Array.getElem?_append_right (by simp; omega), Array.getElem?_append_left (by simp; omega)]
        simp only [List.size_toArray, hol, Nat.add_sub_cancel_left, List.getElem?_toArray]

theorem Grew.has {sz : Nat} {w w' : World} {v : Value} {n p l' c' : Nat} {g' : Nat} {C : Nat → List Value} (h : Grew sz w w' v n g') (hh : Hs w sz v p C) (hp : p ≤ n) (hr : RowG w sz v n) : Hs w' sz (.slice (some ⟨g', 0, none⟩) l' c') p C := by
  intro g2 l2 c2 e i j hi hj
  simp only [Value.slice.injEq, Option.some.injEq, Addr.mk.injEq, and_true] at e
  obtain ⟨rfl, _, _⟩ := e
  have hij : i * sz + j < n * sz := by have := mul_room (sz := sz) (show i < n by omega); omega
  rcases hr with ⟨rfl, rfl⟩ | ⟨g, cap, rfl, _⟩
  · omega
  · rw [h.new g n cap rfl _ hij]
    exact hh g n cap rfl i j hi hj
theorem Grew.kept {sz : Nat} {w w' : World} {v : Value} {n p : Nat} {g' : Nat} {C : Nat → List Value} (h : Grew sz w w' v n g') (hh : Hs w sz v p C) (hp : p ≤ n) : Hs w' sz v p C := by
  intro g l c e i j hi hj
  have hij : i * sz + j < n * sz := by have := mul_room (sz := sz) (show i < n by omega); omega
  rw [h.old g l c e _ hij]
  exact hh g l c e i j hi hj
theorem Grew.has1 {sz : Nat} {w w' : World} {v : Value} {n l' c' : Nat} {g' : Nat} {C : Nat → List Value} (h : Grew sz w w' v n g') (hh : Hs w sz v n C) (hr : RowG w sz v n) (hn : ∀ j, j < sz → w'.cell? ⟨g', n * sz + j, none⟩ = (C n)[j]?) : Hs w' sz (.slice (some ⟨g', 0, none⟩) l' c') (n + 1) C := by
  intro g2 l2 c2 e i j hi hj
  simp only [Value.slice.injEq, Option.some.injEq, Addr.mk.injEq, and_true] at e
  obtain ⟨rfl, _, _⟩ := e
  by_cases hin : i = n
  · rw [hin]; exact hn j hj
  · exact h.has (l' := l') (c' := c') hh (Nat.le_refl _) hr g' l' c' rfl i j (by omega) hj
/-- Whatever row there was may still be written. -/
theorem Grew.row {sz : Nat} {w w' : World} {v u : Value} {n m sz2 : Nat} {g' : Nat} (h : Grew sz w w' v n g') (hr : RowG w sz2 u m) : RowG w' sz2 u m := by
  rcases hr with hr | ⟨g, cap, rfl, h1, h2, h3, h4⟩
  · exact Or.inl hr
  · exact Or.inr ⟨g, cap, rfl, Nat.lt_of_lt_of_le h1 h.upd.size, h2, h3, h.room g _ h1 h4⟩

end Go.Proofs.YtpgjcedonimgnaaDoor

/- Rows of nodes put together. -/
namespace Go.Proofs.YtpgjcedonimgnaaDoor
open Go.RowKit

/-- A row of the call's own, of nodes that lay there before. -/
structure OwnK (d : Nat) (w0 w : World) (v : Value) (K : List Nd) : Prop where
  row : RowG w 5 v K.length
  own : ∀ g, v.ownBlock = some g → w0.heap.size ≤ g
  has : ∃ C : Nat → List Value, Hs w 5 v K.length C ∧ ∀ i (hi : i < K.length), (C i).length = 5 ∧ NIn w0 d (C i) K[i]
theorem OwnK.rowN {d : Nat} {w0 w : World} {a : Option Addr} {n c : Nat} {K : List Nd} (h : OwnK d w0 w (.slice a n c) K) (hu : Upd [] w0 w) : RowN (NIn w d) w a K ∧ n = K.length ∧ K.length ≤ c ∧ c ≤ 9223372036854775807 := by
  obtain ⟨C, hC, hK⟩ := h.has
  rcases h.row with ⟨e, h0⟩ | ⟨g, cap, e, hg, hc, hm, _⟩
  · cases e
    exact ⟨Or.inl (List.eq_nil_of_length_eq_zero h0), h0.symm, by omega, by omega⟩
  · cases e
    refine ⟨Or.inr ⟨g, 0, rfl, hg, fun i hi => ⟨C i, (hK i hi).1, fun j hj => ?_, NIn.mono hu _ _ _ (hK i hi).2⟩⟩, rfl, hc, Nat.le_trans hm (by decide)⟩
    rw [Nat.zero_add]
    exact hC g _ _ rfl i j hi hj
theorem OwnK.upd {d : Nat} {w0 w w' : World} {v : Value} {K : List Nd} {S : List Nat} (h : OwnK d w0 w v K) (hu : Upd S w w') (hn : ∀ g, v.ownBlock = some g → g ∉ S) : OwnK d w0 w' v K := by
  obtain ⟨C, hC, hK⟩ := h.has
  exact ⟨h.row.upd hu hn, h.own, C, hC.upd h.row hu hn, hK⟩
theorem nodes_parts : ∃ i z, Tryd.prog.underlying 27 = some (.slice 29) ∧ Tryd.prog.info? 29 = some i ∧ i.zero = some z ∧ i.size = 5 ∧ i.bytes = 64 ∧ z.cells.size = 5 := by
  have h1 : Tryd.prog.underlying 27 = some (.slice 29) := by kernel_rfl
  have h2 : ((Tryd.prog.info? 29).bind fun i => i.zero.map fun z => (i.size, i.bytes, z.cells.size)) = some (5, 64, 5) := by kernel_rfl
  cases hi : Tryd.prog.info? 29 with
  | none => rw [hi] at h2; cases h2
  | some i =>
    rw [hi] at h2
    simp only [Option.bind_some] at h2
    cases hz : i.zero with
    | none => rw [hz] at h2; cases h2
    | some z =>
      rw [hz] at h2
      simp only [Option.map_some, Option.some.injEq, Prod.mk.injEq] at h2
      exact ⟨i, z, h1, rfl, hz, h2.1, h2.2.1, h2.2.2⟩
/-- A row's cells, one behind the other. -/
def cellsOf (w : World) (b o m : Nat) : List Value := (List.range (m * 5)).map fun j => (w.cell? ⟨b, o + j, none⟩).getD undef
theorem cellsOf_get {w : World} {b o m j : Nat} (hj : j < m * 5) : (cellsOf w b o m)[j]? = some ((w.cell? ⟨b, o + j, none⟩).getD undef) := by
  unfold cellsOf
  rw [List.getElem?_map, List.getElem?_range hj]
  rfl
theorem add_at (b o j : Nat) : (⟨b, o, none⟩ : Addr).add j = ⟨b, o + j, none⟩ := by
  by_cases h : j = 0
  · subst h; simp [Addr.add]
  · simp [Addr.add, h]
set_option maxHeartbeats 1000000 in
theorem app_own (d : Nat) (w0 w : World) (v : Value) (K1 K2 : List Nd) (a2 : Option Addr) (c2 : Nat) (ty : TypeId) (h : OwnK d w0 w v K1) (hu : Upd [] w0 w) (hR : RowN (NIn w0 d) w a2 K2) (h0 : 0 < K2.length) (hb : K1.length + K2.length ≤ 2000000000) :
    ∃ a' n' c' w', (Builtin.append_ #[27, 27] ty #[v, .slice a2 K2.length c2]).run Tryd.prog w = .ok (.slice a' n' c') w' ∧ OwnK d w0 w' (.slice a' n' c') (K1 ++ K2) ∧ Upd [] w0 w' := by
  obtain ⟨i, z, p1, p2, p3, p4, p5, p6⟩ := nodes_parts
  rcases hR with e | ⟨b, o, rfl, hlt, hrow⟩
  · rw [e] at h0; simp at h0
  have hat : ∀ q j, q < K2.length → j < 5 → ∃ u, w.cell? ⟨b, o + (q * 5 + j), none⟩ = some u ∧ u.oneCell' = true := fun q j hq hj => by
    obtain ⟨cs, hl, hc, hin⟩ := hrow q hq
    have := hc j hj
    rw [List.getElem?_eq_getElem (by omega)] at this
    refine ⟨_, this, ?_⟩
    have ho := Array.all_eq_true'.1 hin.one cs[j] (by simp)
    exact ho
  have hat' : ∀ j, j < K2.length * 5 → ∃ u, w.cell? ⟨b, o + j, none⟩ = some u ∧ u.oneCell' = true := fun j hj => by
    have := hat (j / 5) (j % 5) (by omega) (by omega)
    rw [show j / 5 * 5 + j % 5 = j by omega] at this
    exact this
  obtain ⟨g', cap', w', hrun, hrg, hgr, hnew⟩ := run_appendG (ty := ty) p1 p2 p3 p4 p5 p6 h.row ⟨b, o, none⟩ K2.length c2 (cellsOf w b o K2.length) (by simp [cellsOf]) (fun j u hj => by
      have hlt2 : j < K2.length * 5 := by
        have := (List.getElem?_eq_some_iff.1 hj).1
        simpa [cellsOf] using this
      rw [cellsOf_get hlt2] at hj
      obtain ⟨u', e1, _⟩ := hat' j hlt2
      rw [e1] at hj
      cases hj
      rw [add_at]
      exact e1) (fun u hm => by
      obtain ⟨j, hj, rfl⟩ := List.mem_map.1 hm
      obtain ⟨u', e1, e2⟩ := hat' j (List.mem_range.1 hj)
      rw [e1]
      exact e2) h0 (by omega) (by omega)
  obtain ⟨C, hC, hK⟩ := h.has
  have hown : w0.heap.size ≤ g' := by
    rcases hgr.at' with e | e
    · exact h.own g' e
    · rw [e]; exact hu.size
  refine ⟨some ⟨g', 0, none⟩, K1.length + K2.length, cap', w', hrun, ⟨by rw [List.length_append]; exact hrg, fun g e => by cases e; exact hown, ?_⟩, hu.then hgr.upd (by simp; omega)⟩
  refine ⟨fun q => if q < K1.length then C q else (List.range 5).map fun j => (w.cell? ⟨b, o + ((q - K1.length) * 5 + j), none⟩).getD undef, ?_, ?_⟩
  · intro g l c e q j hq hj
    cases e
    rw [List.length_append] at hq
    by_cases hl : q < K1.length
    · simp only [hl, if_true]
      exact (hgr.has hC (Nat.le_refl _) h.row) g' (K1.length + K2.length) cap' rfl q j hl hj
    · simp only [hl, if_false]
      have hx := hnew ((q - K1.length) * 5 + j) (by omega)
      rw [show K1.length * 5 + ((q - K1.length) * 5 + j) = q * 5 + j by omega] at hx
      rw [hx, cellsOf_get (by omega), List.getElem?_map, List.getElem?_range hj]
      rfl
  · intro q hq
    by_cases hl : q < K1.length
    · simp only [hl, if_true]
      rw [List.getElem_append_left hl]
      exact hK q hl
    · simp only [hl, if_false]
      rw [List.length_append] at hq
      rw [List.getElem_append_right (by omega)]
      obtain ⟨cs, hl5, hc, hin⟩ := hrow (q - K1.length) (by omega)
      have e : ((List.range 5).map fun j => (w.cell? ⟨b, o + ((q - K1.length) * 5 + j), none⟩).getD undef) = cs := by
        apply List.ext_getElem (by simp [hl5])
        intro j h1 h2
        simp only [List.getElem_map, List.getElem_range]
        rw [hc j (by omega), List.getElem?_eq_getElem h2]
        rfl
      rw [e]
      exact ⟨hl5, hin⟩

end Go.Proofs.YtpgjcedonimgnaaDoor

/- Nothing is put behind a row of nodes. -/
namespace Go.Proofs.YtpgjcedonimgnaaDoor
open Go.RowKit

set_option maxHeartbeats 1000000 in
theorem app_none (v : Value) (w : World) (n : Nat) (a2 : Option Addr) (c2 : Nat) (ty : TypeId) (h : RowG w 5 v n) : (Builtin.append_ #[27, 27] ty #[v, .slice a2 0 c2]).run Tryd.prog w = .ok v w := by
  obtain ⟨i, z, p1, p2, p3, p4, p5, p6⟩ := nodes_parts
  rcases h with ⟨rfl, rfl⟩ | ⟨g, cap, rfl, hg, hc, hm, _⟩
  · unfold Builtin.append_
    simp [run_underlying p1, go_sem, Result.andThen]
    cases a2 <;> rfl
  · unfold Builtin.append_
    simp [run_underlying p1, go_sem, Result.andThen, hc]
    cases a2 <;> rfl
end Go.Proofs.YtpgjcedonimgnaaDoor
