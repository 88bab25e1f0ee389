/- KeptTerm of the kit, by its contract. -/
import Derived.Test.YtabknipgbmdipaaGreatDoorJAY
import Derived.Test.YtabknipgbmdipaaGreatDoorSizB
import Derived.Test.YtabknipgbmdipaaGreatDoorFzH
import Derived.Test.YtabknipgbmdipaaGreatDoorJAH
import Derived.Test.YtabknipgbmdipaaGreatDoorJAB
import Derived.Test.YtabknipgbmdipaaGreatDoorJAX
import Derived.Test.YtabknipgbmdipaaGreatDoorJAD
import Derived.Test.YtabknipgbmdipaaGreatDoorJAT

namespace Go.Proofs.YtabknipgbmdipaaGreatDoor
open Go.RowKit

set_option maxHeartbeats 4000000 in
set_option maxRecDepth 100000 in
theorem KeptTerm_step (d : Nat) (ih : KeptSaid d) : KeptSaid (d + 1) := by
  intro w cs cs' t P h h' hs
  have hS := SameTerm_in (d + 1)
  have hplain := KIn.plain (P := P) (w := w) (d + 1) cs t h
  cases t with
  | mk k num neg L s I T =>
    have HSm : Hid (∀ W, Upd [] w W → Calls Tryz.prog 18 #[.agg cs.toArray, .agg cs'.toArray] W fun e w' => e = .returned (.bool true) ∧ Upd [] W w') := fun W hu => hS W cs cs' _ (In.mono hu _ _ _ hplain) (In.mono hu _ _ _ h') (Nat.le_trans hs (by omega))
    obtain ⟨g, gi, gt, c, ci, ct, rfl, hP, hA, hD, hc, hc2, hI, hT⟩ := h
    obtain ⟨b, bi, bt, cb, cbi, cbt, rfl, hA', hD', hI', hT'⟩ := h'
    simp only [tsz] at hs
    have HLm : Hid (∀ W, Upd [] w W → _) := fun W hu => KeptLimbs_any g c b cb L W (by omega) hc hc2 (hA.stay hu (by simp)) (hA'.mono hu) hD
    have keepK : ∀ W, Upd [] w W → ∀ cs t, KIn P w d cs t → KIn P W d cs t := fun W hu => KIn.keep hu (fun x _ => by simp) (fun x hx => hx) d
    have HIt : Hid (∀ W, Upd [] w W → _) := fun W hu => KeptTerms_in d ih W P gi ci bi cbi I (hI.keep hu (fun x _ => by simp) (fun x hx => hx) (keepK W hu)) (hI'.imp hu (In.mono hu d)) (by omega)
    have HTt : Hid (∀ W, Upd [] w W → _) := fun W hu => KeptTerms_in d ih W P gt ct bt cbt T (hT.keep hu (fun x _ => by simp) (fun x hx => hx) (keepK W hu)) (hT'.imp hu (In.mono hu d)) (by omega)
    clear hA hA' hD hD' hI hI' hT hT' hs ih hS hplain keepK
    go_enter Tryz.func13, Tryz.ntmps13
    have u0 := ((Upd.refl [] w).alloc (.cells #[.int .u8 k, .bool neg, .slice (some ⟨g, 0, none⟩) L.length c, .string s, .int .i64 num, .slice (some ⟨gi, 0, none⟩) I.length ci, .slice (some ⟨gt, 0, none⟩) T.length ct] 26)).alloc (.cells #[.int .u8 k, .bool neg, .slice b L.length cb, .string s, .int .i64 num, .slice bi I.length cbi, .slice bt T.length cbt] 26)
    have tx := (Tb.new w #[.int .u8 k, .bool neg, .slice (some ⟨g, 0, none⟩) L.length c, .string s, .int .i64 num, .slice (some ⟨gi, 0, none⟩) I.length ci, .slice (some ⟨gt, 0, none⟩) T.length ct] _ rfl).old (.cells #[.int .u8 k, .bool neg, .slice b L.length cb, .string s, .int .i64 num, .slice bi I.length cbi, .slice bt T.length cbt] 26)
    have ty := Tb.new (w.alloc (.cells #[.int .u8 k, .bool neg, .slice (some ⟨g, 0, none⟩) L.length c, .string s, .int .i64 num, .slice (some ⟨gi, 0, none⟩) I.length ci, .slice (some ⟨gt, 0, none⟩) T.length ct] 26)) #[.int .u8 k, .bool neg, .slice b L.length cb, .string s, .int .i64 num, .slice bi I.length cbi, .slice bt T.length cbt] (w.heap.size + 1) (by simp)
    go_wp2_with (first | (refine load_G _ _ rfl _ _ rfl tx rfl rfl ?_) | (refine load_G _ _ rfl _ _ rfl ty rfl rfl ?_))
    refine (HSm.out _ u0).mono ?_
    rintro e w1 ⟨rfl, hU1⟩
    have tx1 := tx.mono hU1 (by simp)
    have ty1 := ty.mono hU1 (by simp)
    have u1 := u0.trans hU1
    have x2 := tx1.cell 2
    have y2 := ty1.cell 2
    clear u0 tx ty hU1
    go_wp2_with fail
    refine (HLm.out _ u1).mono ?_
    rintro e w2 ⟨rfl, hU2⟩
    have tx2 := tx1.mono hU2 (by simp)
    have ty2 := ty1.mono hU2 (by simp)
    have u2 := u1.trans hU2
    have x5 := tx2.cell 5
    have y5 := ty2.cell 5
    clear tx1 ty1 hU2 x2 y2
    go_wp2_with fail
    refine (HIt.out _ u2).mono ?_
    rintro e w3 ⟨rfl, hU3⟩
    have tx3 := tx2.mono hU3 (by simp)
    have ty3 := ty2.mono hU3 (by simp)
    have u3 := u2.trans hU3
    have x6 := tx3.cell 6
    have y6 := ty3.cell 6
    clear tx2 ty2 hU3 x5 y5
    go_wp2_with fail
    refine (HTt.out _ u3).mono ?_
    rintro e w4 ⟨rfl, hU4⟩
    go_wp2
    go_ret
    exact ⟨rfl, u3.trans hU4⟩

/-- KeptTerm, of a term and what was lent of it: true. -/
theorem KeptTerm_in : ∀ d, KeptSaid d
  | 0 => fun _ _ _ _ _ h => h.elim
  | d + 1 => KeptTerm_step d (KeptTerm_in d)

end Go.Proofs.YtabknipgbmdipaaGreatDoor

/- Rows of whatever cells, each in a block of its own: what is stored in them, what is appended. -/
namespace Go.Proofs.YtabknipgbmdipaaGreatDoor
open Go.RowKit

/-- A row that may be written and grown, with its room. -/
def RowG (w : World) (sz : Nat) (v : Value) (n : Nat) : Prop :=
  (v = .slice none 0 0 ∧ n = 0) ∨ ∃ g cap, v = .slice (some ⟨g, 0, none⟩) n cap ∧ g < w.heap.size ∧ n ≤ cap ∧ cap ≤ maxLen ∧ w.there g 0 (cap * sz)
/-- The first elements of a row. -/
def Hs (w : World) (sz : Nat) (v : Value) (p : Nat) (C : Nat → List Value) : Prop :=
  ∀ g l c, v = .slice (some ⟨g, 0, none⟩) l c → ∀ i j, i < p → j < sz → w.cell? ⟨g, i * sz + j, none⟩ = (C i)[j]?

theorem there_upd {S : List Nat} {w w' : World} {g o n : Nat} (h : w.there g o n) (hg : g < w.heap.size) (hu : Upd S w w') (hn : g ∉ S) : w'.there g o n := fun j hj => by
  have hb := hu.block g hg hn
  rw [hu.cell (p := ⟨g, o + j, none⟩) hg hn, World.frozen?_of_block (w := w) (a := ⟨g, o + j, none⟩) hb]
  exact h j hj
theorem RowG.upd {S : List Nat} {w w' : World} {sz n : Nat} {v : Value} (h : RowG w sz v n) (hu : Upd S w w') (hn : ∀ g, v.ownBlock = some g → g ∉ S) : RowG w' sz v n := by
  rcases h with h | ⟨g, cap, rfl, h1, h2, h3, h4⟩
  · exact Or.inl h
  · exact Or.inr ⟨g, cap, rfl, Nat.lt_of_lt_of_le h1 hu.size, h2, h3, there_upd h4 h1 hu (hn g rfl)⟩
theorem RowG.lt {w : World} {sz n : Nat} {v : Value} (h : RowG w sz v n) : ∀ g, v.ownBlock = some g → g < w.heap.size := by
  intro g hg
  rcases h with ⟨rfl, _⟩ | ⟨b, cap, rfl, h1, _⟩
  · cases hg
  · simp only [Value.ownBlock, Option.some.injEq] at hg
    subst hg; exact h1
theorem RowG.form {w : World} {sz n : Nat} {v : Value} (h : RowG w sz v n) : ∃ a c, v = .slice a n c ∧ n ≤ 9223372036854775807 := by
  rcases h with ⟨rfl, rfl⟩ | ⟨g, cap, rfl, _, h2, h3, _⟩
  · exact ⟨none, 0, rfl, by omega⟩
  · exact ⟨_, cap, rfl, by unfold maxLen at h3; omega⟩
theorem Hs.upd {S : List Nat} {w w' : World} {sz p n : Nat} {v : Value} {C : Nat → List Value} (h : Hs w sz v p C) (hr : RowG w sz v n) (hu : Upd S w w') (hn : ∀ g, v.ownBlock = some g → g ∉ S) : Hs w' sz v p C := by
  intro g l c e i j hi hj
  subst e
  rw [hu.cell (p := ⟨g, i * sz + j, none⟩) (hr.lt g rfl) (hn g rfl)]
  exact h g l c rfl i j hi hj
theorem Hs.less {w : World} {sz p q : Nat} {v : Value} {C : Nat → List Value} (h : Hs w sz v p C) (hq : q ≤ p) : Hs w sz v q C := fun g l c e i j hi hj => h g l c e i j (by omega) hj
theorem Hs.zero (w : World) (sz : Nat) (v : Value) (C : Nat → List Value) : Hs w sz v 0 C := fun _ _ _ _ i _ hi => by omega
theorem Hs.other {w : World} {sz p l l' c c' g : Nat} {C : Nat → List Value} (h : Hs w sz (.slice (some ⟨g, 0, none⟩) l c) p C) : Hs w sz (.slice (some ⟨g, 0, none⟩) l' c') p C := by
  intro g2 l2 c2 e
  simp only [Value.slice.injEq, Option.some.injEq, Addr.mk.injEq, and_true] at e
  obtain ⟨rfl, _, _⟩ := e
  exact h g l c rfl

theorem setCells_Upd (w : World) (g o : Nat) (vs : List Value) : Upd [g] w (w.setCells g o vs) := by
  have h := setCells_upd g vs o w
  exact ⟨h.os, h.tape, h.output, h.size, fun k hk hn => h.block k hk (fun e => hn (by simp at e; simp [e]))⟩
theorem there_set {w : World} {g o o' n : Nat} {vs : List Value} (h : w.there g o n) : (w.setCells g o' vs).there g o n := fun j hj => by
  refine ⟨World.isSome_setCells g _ _ _ _ (h j hj).1, ?_⟩
  rw [World.frozen?_setCells]; exact (h j hj).2
/-- An element is stored. -/
theorem RowG.set {w : World} {sz n g cap : Nat} (h : RowG w sz (.slice (some ⟨g, 0, none⟩) n cap) n) (o : Nat) (vs : List Value) : RowG (w.setCells g o vs) sz (.slice (some ⟨g, 0, none⟩) n cap) n := by
  rcases h with ⟨h, _⟩ | ⟨g2, cap2, e, h1, h2, h3, h4⟩
  · cases h
  · simp only [Value.slice.injEq, Option.some.injEq, Addr.mk.injEq, and_true, true_and] at e
    obtain ⟨rfl, rfl⟩ := e
    exact Or.inr ⟨g, cap, rfl, Nat.lt_of_lt_of_le h1 (setCells_Upd w g o vs).size, h2, h3, there_set h4⟩
theorem mul_room {i n sz : Nat} (h : i < n) : i * sz + sz ≤ n * sz := by
  have := Nat.mul_le_mul_right sz (show i + 1 ≤ n from h)
  rw [Nat.add_mul, Nat.one_mul] at this
  exact this
theorem RowG.room {w : World} {sz n g cap : Nat} (h : RowG w sz (.slice (some ⟨g, 0, none⟩) n cap) n) {i : Nat} (hi : i < n) : w.there g (i * sz) sz := by
  rcases h with ⟨h, _⟩ | ⟨g2, cap2, e, h1, h2, h3, h4⟩
  · cases h
  · simp only [Value.slice.injEq, Option.some.injEq, Addr.mk.injEq, and_true, true_and] at e
    obtain ⟨rfl, rfl⟩ := e
    intro j hj
    have := mul_room (sz := sz) (show i < cap by omega)
    have := h4 (i * sz + j) (by omega)
    rw [Nat.zero_add] at this
    exact this
theorem Hs.set {w : World} {sz n g cap : Nat} {C : Nat → List Value} {i : Nat} (h : Hs w sz (.slice (some ⟨g, 0, none⟩) n cap) i C) (hr : RowG w sz (.slice (some ⟨g, 0, none⟩) n cap) n) (hi : i < n) (hC : (C i).length = sz) :
    Hs (w.setCells g (i * sz) (C i)) sz (.slice (some ⟨g, 0, none⟩) n cap) (i + 1) C := by
  intro g2 l2 c2 e k j hk hj
  simp only [Value.slice.injEq, Option.some.injEq, Addr.mk.injEq, and_true] at e
  obtain ⟨rfl, _, _⟩ := e
  by_cases hki : k = i
  · subst hki
    have ht := hr.room hi
    rw [World.cell?_setCells_in g (C k) (k * sz) w (fun a ha => (ht a (by omega)).1) j (by omega)]
    exact (List.getElem?_eq_getElem (by omega)).symm
  · have := mul_room (sz := sz) (show k < i by omega)
    rw [World.cell?_setCells_out g _ _ _ _ (fun a _ => Or.inl (show k * sz + j < i * sz by omega))]
    exact h g n cap rfl k j (by omega) hj

/-- Where a row has been grown to: the old block, or a new one; what was there has stayed. -/
structure Grew (sz : Nat) (w w' : World) (v : Value) (n : Nat) (g' : Nat) : Prop where
  upd : Upd [g'] w w'
  room : ∀ g k, g < w.heap.size → w.there g 0 k → w'.there g 0 k
  at' : v.ownBlock = some g' ∨ g' = w.heap.size
  old : ∀ g l c, v = .slice (some ⟨g, 0, none⟩) l c → ∀ j, j < n * sz → w'.cell? ⟨g, j, none⟩ = w.cell? ⟨g, j, none⟩
  new : ∀ g l c, v = .slice (some ⟨g, 0, none⟩) l c → ∀ j, j < n * sz → w'.cell? ⟨g', j, none⟩ = w.cell? ⟨g, j, none⟩

theorem cellAt_new (w : World) (cs : Array Value) (t : TypeId) (j : Nat) : (w.drew.alloc (.cells cs t)).cell? ⟨w.heap.size, j, none⟩ = cs[j]? := by
  have hb : (w.drew.alloc (.cells cs t)).heap[w.heap.size]? = some (.cells cs t (0, 0)) := heap_alloc_new w.drew _
  exact cell_of_row _ _ _ _ _ _ hb
theorem there_new (w : World) (cs : Array Value) (t : TypeId) (n : Nat) (h : n ≤ cs.size) : (w.drew.alloc (.cells cs t)).there w.heap.size 0 n := fun j hj => by
  have hb : (w.drew.alloc (.cells cs t)).heap[w.heap.size]? = some (.cells cs t (0, 0)) := heap_alloc_new w.drew _
  refine ⟨?_, frozen_of_row _ _ _ _ _ hb⟩
  rw [cell_of_row _ _ _ _ _ _ hb, Nat.zero_add, Array.getElem?_eq_getElem (by omega)]
  rfl

theorem set_room (w : World) (g o : Nat) (vs : List Value) (g2 k : Nat) (hg : g2 < w.heap.size) (hk : w.there g2 0 k) : (w.setCells g o vs).there g2 0 k := by
  by_cases he : g2 = g
  · rw [he] at hk ⊢; exact there_set hk
  · exact there_upd hk hg (setCells_Upd w g _ _) (by simpa using he)
set_option maxRecDepth 10000 in
/-- Elements are appended to a row. -/
theorem run_appendG {t ty e : TypeId} {i : TypeInfo} {z : Value} {sz bytes : Nat} (ht : Tryz.prog.underlying t = some (.slice e)) (hi : Tryz.prog.info? e = some i) (hz : i.zero = some z) (hsize : i.size = sz) (hby : i.bytes = bytes) (hzs : z.cells.size = sz)
    {w : World} {v : Value} {n : Nat} (h : RowG w sz v n) (a : Addr) (m c : Nat) (news : List Value) (hl : news.length = m * sz) (hnews : ∀ j u, news[j]? = some u → w.cell? (a.add j) = some u) (h1 : ∀ u ∈ news, u.oneCell' = true)
    (hm : 0 < m) (h63 : n + m ≤ 1000000000000000) (hbytes : (n + m) * bytes ≤ 140737488355328) :
    ∃ g' cap' w', (Builtin.append_ #[t, t] ty #[v, .slice (some a) m c]).run Tryz.prog w = .ok (.slice (some ⟨g', 0, none⟩) (n + m) cap') w' ∧ RowG w' sz (.slice (some ⟨g', 0, none⟩) (n + m) cap') (n + m) ∧ Grew sz w w' v n g' ∧
      ∀ j, j < m * sz → w'.cell? ⟨g', n * sz + j, none⟩ = news[j]? := by
  subst hsize
  subst hby
  have hbb : (n + m) * i.bytes ≤ 140737488355328 := hbytes
  rcases h with ⟨rfl, rfl⟩ | ⟨g, cap, rfl, h2, h3, h4, h5⟩
  · have hr := run_append_nil (P := Tryz.prog) w t ty e i z ht hi hz a m c news hl hnews (by omega) (by omega) (by have hb := hbb; simp only [Nat.zero_add] at hb; omega)
    have hge := grownCap_ge w m 0 e
    have hcm : grownCap w m 0 e ≤ maxLen := grownCap_le_maxLen w m 0 e (by unfold maxLen; omega)
    have hcs : (news.toArray ++ Builtin.zeroCells z.cells (grownCap w m 0 e - m)).size = grownCap w m 0 e * i.size := by
      simp only [Array.size_append, List.size_toArray, size_zeroCells, hzs, hl, ← Nat.add_mul]
      congr 1; omega
    rw [Nat.zero_add]
    refine ⟨_, _, _, hr, Or.inr ⟨_, _, rfl, by simp, hge, hcm, there_new w _ _ _ (by rw [hcs]; exact Nat.le_refl _)⟩, ⟨⟨rfl, rfl, rfl, by simp, fun k hk _ => Below.heap_alloc w.drew _ k hk⟩, fun g k hg hk => there_upd (S := []) hk hg ((Upd.refl [] w).drew.alloc _) (by simp), Or.inr rfl, fun g l c e => (by cases e), fun g l c e => (by cases e)⟩, fun j hj => ?_⟩
    rw [Nat.zero_mul, Nat.zero_add, cellAt_new, Array.getElem?_append_left (by simp; omega)]
    simp
  · by_cases hroom : n + m ≤ cap
    · have hfit : n * i.size + news.length ≤ cap * i.size := by rw [hl, ← Nat.add_mul]; exact Nat.mul_le_mul_right _ hroom
      have hr := run_append_room_cells (P := Tryz.prog) w t ty e i ht hi g 0 n cap a m c news hl hnews h1 hroom
        (fun j hj => by have := (h5 (n * i.size + j) (by omega)).1; rw [Nat.zero_add] at this ⊢; exact this) (fun j hj => by have := (h5 (n * i.size + j) (by omega)).2; rw [Nat.zero_add] at this ⊢; exact this)
      rw [Nat.zero_add] at hr
      have hin : ∀ j, j < n * i.size → (w.setCells g (n * i.size) news).cell? ⟨g, j, none⟩ = w.cell? ⟨g, j, none⟩ := fun j hj => World.cell?_setCells_out g _ _ _ _ (fun a _ => Or.inl (show j < n * i.size by omega))
      refine ⟨_, _, _, hr, Or.inr ⟨g, cap, rfl, Nat.lt_of_lt_of_le h2 (setCells_Upd w g _ _).size, hroom, h4, there_set h5⟩, ⟨setCells_Upd w g _ _, fun g2 k hg hk => set_room w g _ _ g2 k hg hk, Or.inl rfl, fun g2 l2 c2 e j hj => ?_, fun g2 l2 c2 e j hj => ?_⟩, fun j hj => ?_⟩
      · simp only [Value.slice.injEq, Option.some.injEq, Addr.mk.injEq, and_true] at e
        obtain ⟨rfl, _, _⟩ := e
        exact hin j hj
      · simp only [Value.slice.injEq, Option.some.injEq, Addr.mk.injEq, and_true] at e
        obtain ⟨rfl, _, _⟩ := e
        exact hin j hj
      · refine Eq.trans ?_ (List.getElem?_eq_getElem (show j < news.length by omega)).symm
        exact World.cell?_setCells_in g news (n * i.size) w (fun k hk => by have := (h5 (n * i.size + k) (by omega)).1; rw [Nat.zero_add] at this; exact this) j (by omega)
    · have hnc : n * i.size ≤ cap * i.size := Nat.mul_le_mul_right _ h3
      obtain ⟨olds, hol, hoc⟩ : ∃ olds : List Value, olds.length = n * i.size ∧ ∀ j, j < n * i.size → w.cell? ⟨g, j, none⟩ = olds[j]? := by
        refine ⟨(List.range (n * i.size)).map (fun j => ((w.cell? ⟨g, j, none⟩).getD undef)), by simp, fun j hj => ?_⟩
        have hs := (h5 j (by omega)).1
        rw [Nat.zero_add] at hs
        obtain ⟨u, hu⟩ := Option.isSome_iff_exists.1 hs
        simp [hj, hu]
      have hr := run_append_grow (P := Tryz.prog) w t ty e i z ht hi hz ⟨g, 0, none⟩ n cap olds hol
        (fun j u hu => by
          have hj : j < n * i.size := by have := (List.getElem?_eq_some_iff.1 hu).1; omega
          rw [Addr.add_lit, Nat.zero_add, hoc j hj, hu]) a m c news hl hnews (by omega) (by omega) (growslice_fits (by omega) (by omega))
      have hge := grownCap_ge w (n + m) cap e
      have hcm : grownCap w (n + m) cap e ≤ maxLen := grownCap_le_maxLen w (n + m) cap e (by unfold maxLen; omega)
      have hcs : (olds.toArray ++ news.toArray ++ Builtin.zeroCells z.cells (grownCap w (n + m) cap e - (n + m))).size = grownCap w (n + m) cap e * i.size := by
        simp only [Array.size_append, List.size_toArray, size_zeroCells, hzs, hl, hol, ← Nat.add_mul]
        congr 1; omega
      have hnm : n * i.size + m * i.size = (n + m) * i.size := (Nat.add_mul _ _ _).symm
      refine ⟨_, _, _, hr, Or.inr ⟨_, _, rfl, by simp, hge, hcm, there_new w _ _ _ (by rw [hcs]; exact Nat.le_refl _)⟩, ⟨⟨rfl, rfl, rfl, by simp, fun k hk _ => Below.heap_alloc w.drew _ k hk⟩, fun g k hg hk => there_upd (S := []) hk hg ((Upd.refl [] w).drew.alloc _) (by simp), Or.inr rfl, fun g2 l2 c2 e j hj => ?_, fun g2 l2 c2 e j hj => ?_⟩, fun j hj => ?_⟩
      · simp only [Value.slice.injEq, Option.some.injEq, Addr.mk.injEq, and_true] at e
        obtain ⟨rfl, _, _⟩ := e
        exact World.cell?_of_block (w := w) (a := ⟨g, j, none⟩) (Below.heap_alloc w.drew _ g h2)
      · simp only [Value.slice.injEq, Option.some.injEq, Addr.mk.injEq, and_true] at e
        obtain ⟨rfl, _, _⟩ := e
        rw [cellAt_new, Array.append_assoc, Array.getElem?_append_left (by simp; omega), hoc j hj]
        simp
      · rw [cellAt_new, Array.append_assoc, Array.getElem?_append_right (by simp; omega), Array.getElem?_append_left (by simp; omega)]
        simp only [List.size_toArray, hol, Nat.add_sub_cancel_left, List.getElem?_toArray]

theorem Grew.has {sz : Nat} {w w' : World} {v : Value} {n p l' c' : Nat} {g' : Nat} {C : Nat → List Value} (h : Grew sz w w' v n g') (hh : Hs w sz v p C) (hp : p ≤ n) (hr : RowG w sz v n) : Hs w' sz (.slice (some ⟨g', 0, none⟩) l' c') p C := by
  intro g2 l2 c2 e i j hi hj
  simp only [Value.slice.injEq, Option.some.injEq, Addr.mk.injEq, and_true] at e
  obtain ⟨rfl, _, _⟩ := e
  have hij : i * sz + j < n * sz := by have := mul_room (sz := sz) (show i < n by omega); omega
  rcases hr with ⟨rfl, rfl⟩ | ⟨g, cap, rfl, _⟩
  · omega
  · rw [h.new g n cap rfl _ hij]
    exact hh g n cap rfl i j hi hj
theorem Grew.kept {sz : Nat} {w w' : World} {v : Value} {n p : Nat} {g' : Nat} {C : Nat → List Value} (h : Grew sz w w' v n g') (hh : Hs w sz v p C) (hp : p ≤ n) : Hs w' sz v p C := by
  intro g l c e i j hi hj
  have hij : i * sz + j < n * sz := by have := mul_room (sz := sz) (show i < n by omega); omega
  rw [h.old g l c e _ hij]
  exact hh g l c e i j hi hj
theorem Grew.has1 {sz : Nat} {w w' : World} {v : Value} {n l' c' : Nat} {g' : Nat} {C : Nat → List Value} (h : Grew sz w w' v n g') (hh : Hs w sz v n C) (hr : RowG w sz v n) (hn : ∀ j, j < sz → w'.cell? ⟨g', n * sz + j, none⟩ = (C n)[j]?) : Hs w' sz (.slice (some ⟨g', 0, none⟩) l' c') (n + 1) C := by
  intro g2 l2 c2 e i j hi hj
  simp only [Value.slice.injEq, Option.some.injEq, Addr.mk.injEq, and_true] at e
  obtain ⟨rfl, _, _⟩ := e
  by_cases hin : i = n
  · rw [hin]; exact hn j hj
  · exact h.has (l' := l') (c' := c') hh (Nat.le_refl _) hr g' l' c' rfl i j (by omega) hj
/-- Whatever row there was may still be written. -/
theorem Grew.row {sz : Nat} {w w' : World} {v u : Value} {n m sz2 : Nat} {g' : Nat} (h : Grew sz w w' v n g') (hr : RowG w sz2 u m) : RowG w' sz2 u m := by
  rcases hr with hr | ⟨g, cap, rfl, h1, h2, h3, h4⟩
  · exact Or.inl hr
  · exact Or.inr ⟨g, cap, rfl, Nat.lt_of_lt_of_le h1 h.upd.size, h2, h3, h.room g _ h1 h4⟩

end Go.Proofs.YtabknipgbmdipaaGreatDoor

/- Lists that lie apart: what holds of them while they are marked and grown. -/
namespace Go.Proofs.YtabknipgbmdipaaGreatDoor
open Go.RowKit

/-- Rows that are listed in block L, apart from one another. -/
structure Rs (w : World) (sz L m B : Nat) (v : Nat → Value) (n : Nat → Nat) : Prop where
  hB : B ≤ w.heap.size
  hL : L < B
  blk : ∀ j, j < m → w.cell? ⟨L, j, none⟩ = some (v j)
  row : ∀ j, j < m → RowG w sz (v j) (n j)
  own : ∀ j g, j < m → (v j).ownBlock = some g → g < B ∧ g ≠ L
  apart : ∀ i j g, i < m → j < m → i ≠ j → (v i).ownBlock = some g → (v j).ownBlock ≠ some g
theorem Rs.upd {S : List Nat} {w w' : World} {sz L m B : Nat} {v : Nat → Value} {n : Nat → Nat} (h : Rs w sz L m B v n) (hu : Upd S w w') (hS : ∀ x, x ∈ S → B ≤ x) : Rs w' sz L m B v n := by
  have hLS : L ∉ S := fun hm => by have := hS L hm; have := h.hL; omega
  refine ⟨Nat.le_trans h.hB hu.size, h.hL, fun j hj => ?_, fun j hj => (h.row j hj).upd hu (fun g hg hm => ?_), h.own, h.apart⟩
  · rw [hu.cell (p := ⟨L, j, none⟩) (Nat.lt_of_lt_of_le h.hL h.hB) hLS]; exact h.blk j hj
  · have := hS g hm; have := (h.own j g hj hg).1; omega
theorem Rs.raise {w : World} {sz L m B B' : Nat} {v : Nat → Value} {n : Nat → Nat} (h : Rs w sz L m B v n) (h1 : B ≤ B') (h2 : B' ≤ w.heap.size) : Rs w sz L m B' v n :=
  ⟨h2, Nat.lt_of_lt_of_le h.hL h1, h.blk, h.row, fun j g hj hg => ⟨Nat.lt_of_lt_of_le (h.own j g hj hg).1 h1, (h.own j g hj hg).2⟩, h.apart⟩
theorem Rs.form {w : World} {sz L m B : Nat} {v : Nat → Value} {n : Nat → Nat} (h : Rs w sz L m B v n) {k : Nat} (hk : k < m) {i : Nat} (hi : i < n k) : ∃ g cap, v k = .slice (some ⟨g, 0, none⟩) (n k) cap ∧ g < B ∧ g ≠ L := by
  rcases h.row k hk with ⟨_, h0⟩ | ⟨g, cap, hv, _⟩
  · omega
  · have := h.own k g hk (by rw [hv]; rfl)
    exact ⟨g, cap, hv, this.1, this.2⟩
/-- An element of a row is stored. -/
theorem Rs.set {w : World} {sz L m B : Nat} {v : Nat → Value} {n : Nat → Nat} (h : Rs w sz L m B v n) {k : Nat} (hk : k < m) {g cap : Nat} (hv : v k = .slice (some ⟨g, 0, none⟩) (n k) cap) (o : Nat) (vs : List Value) : Rs (w.setCells g o vs) sz L m B v n := by
  have hu := setCells_Upd w g o vs
  have hg := h.own k g hk (by rw [hv]; rfl)
  refine ⟨Nat.le_trans h.hB hu.size, h.hL, fun j hj => ?_, fun j hj => ?_, h.own, h.apart⟩
  · rw [hu.cell (p := ⟨L, j, none⟩) (Nat.lt_of_lt_of_le h.hL h.hB) (by simp; exact fun e => hg.2 e.symm)]; exact h.blk j hj
  · by_cases hjk : j = k
    · subst hjk
      have hr := h.row j hj
      rw [hv] at hr ⊢
      exact hr.set o vs
    · exact (h.row j hj).upd hu (fun g2 hg2 hm => by
        simp at hm
        subst hm
        exact h.apart j k g2 hj hk hjk hg2 (by rw [hv]; rfl))
theorem Rs.hasOther {w : World} {sz L m B p : Nat} {v : Nat → Value} {n : Nat → Nat} {C : Nat → List Value} (h : Rs w sz L m B v n) {k j : Nat} (hk : k < m) (hj : j < m) (hjk : j ≠ k) {g cap : Nat} (hv : v k = .slice (some ⟨g, 0, none⟩) (n k) cap) (o : Nat) (vs : List Value) (hh : Hs w sz (v j) p C) : Hs (w.setCells g o vs) sz (v j) p C :=
  hh.upd (h.row j hj) (setCells_Upd w g o vs) (fun g2 hg2 hm => by
    simp at hm
    subst hm
    exact h.apart j k g2 hj hk hjk hg2 (by rw [hv]; rfl))

/-- .. and what they have grown to, in block G. -/
structure Ps (w : World) (sz L G m k B : Nat) (v u : Nat → Value) (n q : Nat → Nat) (C : Nat → Nat → List Value) : Prop where
  rs : Rs w sz L m B v n
  has : ∀ j, j < m → Hs w sz (v j) (n j) (C j)
  hG : G < B ∧ G ≠ L
  gown : ∀ j, j < m → (v j).ownBlock ≠ some G
  room : w.there G 0 m
  gs : ∀ j, j < k → w.cell? ⟨G, j, none⟩ = some (u j) ∧ Hs w sz (u j) (q j) (C j)
  ugs : ∀ j, j < k → ∃ g c, u j = .slice (some ⟨g, 0, none⟩) (n j + 64) c ∧ g < B ∧ g ≠ L ∧ g ≠ G ∧ ∀ i, i < m → i ≠ j → (v i).ownBlock ≠ some g

theorem Hs.uform {S : List Nat} {w w' : World} {sz p g l c : Nat} {C : Nat → List Value} (h : Hs w sz (.slice (some ⟨g, 0, none⟩) l c) p C) (hg : g < w.heap.size) (hu : Upd S w w') (hn : g ∉ S) : Hs w' sz (.slice (some ⟨g, 0, none⟩) l c) p C := by
  intro g2 l2 c2 e i j hi hj
  simp only [Value.slice.injEq, Option.some.injEq, Addr.mk.injEq, and_true] at e
  obtain ⟨rfl, _, _⟩ := e
  rw [hu.cell (p := ⟨g, i * sz + j, none⟩) hg hn]
  exact h g l c rfl i j hi hj
/-- Something else has turned. -/
theorem Ps.far {S : List Nat} {w w' : World} {sz L G m k B : Nat} {v u : Nat → Value} {n q : Nat → Nat} {C : Nat → Nat → List Value} (h : Ps w sz L G m k B v u n q C) (hu : Upd S w w') (hS : ∀ x, x ∈ S → B ≤ x) : Ps w' sz L G m k B v u n q C := by
  have hGS : G ∉ S := fun hm => by have := hS G hm; have := h.hG.1; omega
  have hGl : G < w.heap.size := Nat.lt_of_lt_of_le h.hG.1 h.rs.hB
  refine ⟨h.rs.upd hu hS, fun j hj => (h.has j hj).upd (h.rs.row j hj) hu (fun g hg hm => ?_), h.hG, h.gown, there_upd h.room hGl hu hGS, fun j hj => ⟨?_, ?_⟩, h.ugs⟩
  · have := hS g hm; have := (h.rs.own j g hj hg).1; omega
  · rw [hu.cell (p := ⟨G, j, none⟩) hGl hGS]; exact (h.gs j hj).1
  · obtain ⟨g, c, e, h1, _⟩ := h.ugs j hj
    have hh := (h.gs j hj).2
    rw [e] at hh ⊢
    exact hh.uform (Nat.lt_of_lt_of_le h1 h.rs.hB) hu (fun hm => by have := hS g hm; omega)
/-- Row k, or what it has grown to, has grown. -/
theorem Ps.grow {w w' : World} {sz L G m k B nx g' : Nat} {x : Value} {v u : Nat → Value} {n q : Nat → Nat} {C : Nat → Nat → List Value} (h : Ps w sz L G m k B v u n q C) (hk : k < m) (hg : Grew sz w w' x nx g') (hx : ∀ g, x.ownBlock = some g → (v k).ownBlock = some g ∨ B ≤ g) (hn : n k ≤ nx)
    (hx2 : ∀ g, (v k).ownBlock = some g → x.ownBlock = some g → ∃ l c, x = .slice (some ⟨g, 0, none⟩) l c) :
    Ps w' sz L G m k B v u n q C ∧ ((v k).ownBlock = some g' ∨ B ≤ g') := by
  have hgk : (v k).ownBlock = some g' ∨ B ≤ g' := by
    rcases hg.at' with h1 | h1
    · exact hx g' h1
    · exact Or.inr (by rw [h1]; exact h.rs.hB)
  have hgL : g' ≠ L := fun e => by
    rcases hgk with h1 | h1
    · exact (h.rs.own k g' hk h1).2 e
    · have := h.rs.hL; omega
  have hgG : g' ≠ G := fun e => by
    rcases hgk with h1 | h1
    · exact h.gown k hk (by rw [h1, e])
    · have := h.hG.1; omega
  have hoth : ∀ j, j < m → j ≠ k → ∀ g, (v j).ownBlock = some g → g ≠ g' := fun j hj hjk g hgj e => by
    subst e
    rcases hgk with h1 | h1
    · exact h.rs.apart j k g hj hk hjk hgj h1
    · have := (h.rs.own j g hj hgj).1; omega
  have hu := hg.upd
  have hLl : L < w.heap.size := Nat.lt_of_lt_of_le h.rs.hL h.rs.hB
  have hGl : G < w.heap.size := Nat.lt_of_lt_of_le h.hG.1 h.rs.hB
  refine ⟨⟨⟨Nat.le_trans h.rs.hB hu.size, h.rs.hL, fun j hj => ?_, fun j hj => hg.row (h.rs.row j hj), h.rs.own, h.rs.apart⟩, fun j hj => ?_, h.hG, h.gown, there_upd h.room hGl hu (by simpa using hgG.symm), fun j hj => ⟨?_, ?_⟩, h.ugs⟩, hgk⟩
  · rw [hu.cell (p := ⟨L, j, none⟩) hLl (by simpa using hgL.symm)]; exact h.rs.blk j hj
  · by_cases hjk : j = k
    · subst hjk
      have hh := h.has j hj
      by_cases hown : (v j).ownBlock = some g'
      · rcases hg.at' with h1 | h1
        · obtain ⟨l, c, ex⟩ := hx2 g' hown h1
          intro g l2 c2 e a b ha hb
          have hgg : g = g' := by rw [e] at hown; simpa [Value.ownBlock] using hown
          subst hgg
          rw [hg.old g l c ex (a * sz + b) (by have := mul_room (sz := sz) (show a < nx by omega); omega)]
          exact hh g l2 c2 e a b ha hb
        · have := (h.rs.own j g' hj hown).1
          have := h.rs.hB
          omega
      · exact hh.upd (h.rs.row j hj) hu (fun g hgj hm => by simp at hm; subst hm; exact hown hgj)
    · exact (h.has j hj).upd (h.rs.row j hj) hu (fun g hgj hm => by simp at hm; exact hoth j hj hjk g hgj hm)
  · rw [hu.cell (p := ⟨G, j, none⟩) hGl (by simpa using hgG.symm)]; exact (h.gs j hj).1
  · obtain ⟨g, c, e, h1, h2, h3, h4⟩ := h.ugs j hj
    have hh := (h.gs j hj).2
    rw [e] at hh ⊢
    refine hh.uform (Nat.lt_of_lt_of_le h1 h.rs.hB) hu ?_
    simp only [List.mem_singleton]
    intro hgg
    subst hgg
    rcases hgk with h5 | h5
    · by_cases hjk : j = k
      · omega
      · exact h4 k hk (fun e => hjk e.symm) h5
    · omega
/-- What it has grown to is put into G. -/
theorem Ps.next {w : World} {sz L G m k B : Nat} {v u : Nat → Value} {n q : Nat → Nat} {C : Nat → Nat → List Value} (h : Ps w sz L G m k B v u n q C) (hk : k < m) {g c : Nat} (hgl : g < w.heap.size) (hgk : (v k).ownBlock = some g ∨ B ≤ g) (hh : Hs w sz (.slice (some ⟨g, 0, none⟩) (n k + 64) c) (q k) (C k)) :
    Ps (w.setCell ⟨G, k, none⟩ (.slice (some ⟨g, 0, none⟩) (n k + 64) c)) sz L G m (k + 1) w.heap.size v (fun j => if j = k then .slice (some ⟨g, 0, none⟩) (n k + 64) c else u j) n q C := by
  have hGl : G < w.heap.size := Nat.lt_of_lt_of_le h.hG.1 h.rs.hB
  have hLl : L < w.heap.size := Nat.lt_of_lt_of_le h.rs.hL h.rs.hB
  have hu : Upd [G] w (w.setCell ⟨G, k, none⟩ (.slice (some ⟨g, 0, none⟩) (n k + 64) c)) := (Upd.refl [G] w).setCell (Or.inr (by simp)) _
  have hgL : g ≠ L := fun e => by
    rcases hgk with h1 | h1
    · exact (h.rs.own k g hk h1).2 e
    · have := h.rs.hL; omega
  have hgG : g ≠ G := fun e => by
    rcases hgk with h1 | h1
    · exact h.gown k hk (by rw [h1, e])
    · have := h.hG.1; omega
  have hsz : (w.setCell ⟨G, k, none⟩ (.slice (some ⟨g, 0, none⟩) (n k + 64) c)).heap.size = w.heap.size := World.size_setCell _ _ _
  have hrow : ∀ j, j < m → ∀ x, (v j).ownBlock = some x → x ∉ [G] := fun j hj x hx hm => by simp at hm; subst hm; exact h.gown j hj hx
  refine ⟨⟨by rw [hsz]; exact Nat.le_refl _, hLl, fun j hj => ?_, fun j hj => (h.rs.row j hj).upd hu (hrow j hj), fun j x hj hx => ⟨Nat.lt_of_lt_of_le (h.rs.own j x hj hx).1 h.rs.hB, (h.rs.own j x hj hx).2⟩, h.rs.apart⟩,
    fun j hj => (h.has j hj).upd (h.rs.row j hj) hu (hrow j hj), ⟨hGl, h.hG.2⟩, h.gown, ?_, fun j hj => ?_, fun j hj => ?_⟩
  · rw [hu.cell (p := ⟨L, j, none⟩) hLl (by simp; exact h.hG.2.symm)]; exact h.rs.blk j hj
  · have : w.setCell ⟨G, k, none⟩ (.slice (some ⟨g, 0, none⟩) (n k + 64) c) = w.setCells G k [.slice (some ⟨g, 0, none⟩) (n k + 64) c] := rfl
    rw [this]
    exact there_set h.room
  · by_cases hjk : j = k
    · subst hjk
      simp only [if_true]
      refine ⟨?_, hh.uform hgl hu (by simpa using hgG)⟩
      have ht := h.room j hk
      rw [Nat.zero_add] at ht
      exact World.cell?_setCells_in G [.slice (some ⟨g, 0, none⟩) (n j + 64) c] j w (fun a ha => by simp at ha; subst ha; exact ht.1) 0 (by simp)
    · simp only [hjk, if_false]
      have hj' : j < k := by omega
      refine ⟨?_, ?_⟩
      · have : w.setCell ⟨G, k, none⟩ (.slice (some ⟨g, 0, none⟩) (n k + 64) c) = w.setCells G k [.slice (some ⟨g, 0, none⟩) (n k + 64) c] := rfl
        rw [this, World.cell?_setCells_out G _ _ _ _ (fun a _ => Or.inl (show j < k by omega))]
        exact (h.gs j hj').1
      · obtain ⟨g2, c2, e, h1, _, h3, _⟩ := h.ugs j hj'
        have hh2 := (h.gs j hj').2
        rw [e] at hh2 ⊢
        exact hh2.uform (Nat.lt_of_lt_of_le h1 h.rs.hB) hu (by simpa using h3)
  · by_cases hjk : j = k
    · subst hjk
      simp only [if_true]
      refine ⟨g, c, rfl, hgl, hgL, hgG, fun i hi hij e => ?_⟩
      rcases hgk with h1 | h1
      · exact h.rs.apart i j g hi hk hij e h1
      · have := (h.rs.own i g hi e).1; omega
    · simp only [hjk, if_false]
      obtain ⟨g2, c2, e, h1, h2, h3, h4⟩ := h.ugs j (by omega)
      exact ⟨g2, c2, e, Nat.lt_of_lt_of_le h1 h.rs.hB, h2, h3, h4⟩
/-- .. anew: no more is said of what was put there earlier. -/
theorem Ps.anew {w : World} {sz L G m k B : Nat} {v u : Nat → Value} {n q q' : Nat → Nat} {C : Nat → Nat → List Value} (h : Ps w sz L G m k B v u n q C) : Ps w sz L G m 0 B v u n q' C :=
  ⟨h.rs, h.has, h.hG, h.gown, h.room, fun j hj => by omega, fun j hj => by omega⟩
theorem Ps.raise {w : World} {sz L G m k B : Nat} {v u : Nat → Value} {n q : Nat → Nat} {C : Nat → Nat → List Value} (h : Ps w sz L G m k B v u n q C) : Ps w sz L G m k w.heap.size v u n q C :=
  ⟨h.rs.raise h.rs.hB (Nat.le_refl _), h.has, ⟨Nat.lt_of_lt_of_le h.hG.1 h.rs.hB, h.hG.2⟩, h.gown, h.room, h.gs, fun j hj => by
    obtain ⟨g, c, e, h1, h2⟩ := h.ugs j hj
    exact ⟨g, c, e, Nat.lt_of_lt_of_le h1 h.rs.hB, h2⟩⟩

/-- Elements are appended: at the list of operations. -/
theorem wpList_appendG {w : World} {ops : Array Oper} {rest : List Oper} {o : Oper} {a : Act} {Q : Exit → Act → World → Prop} (hgd : o.guard = none) (s x : Operand) (t : TypeId) (ho : o.op = .call { callee := .builtin .append, args := #[s, x], argTypes := #[t, t] })
    {e : TypeId} {i : TypeInfo} {z : Value} {sz bytes : Nat} (ht : Tryz.prog.underlying t = some (.slice e)) (hi : Tryz.prog.info? e = some i) (hz : i.zero = some z) (hsize : i.size = sz) (hby : i.bytes = bytes) (hzs : z.cells.size = sz)
    {v : Value} {n : Nat} (hs : a.eval s = v) (hr : RowG w sz v n) (ad : Addr) (m c : Nat) (news : List Value) (hx : a.eval x = .slice (some ad) m c) (hl : news.length = m * sz) (hnews : ∀ j u, news[j]? = some u → w.cell? (ad.add j) = some u) (h1 : ∀ u ∈ news, u.oneCell' = true)
    (hm : 0 < m) (h63 : n + m ≤ 1000000000000000) (hbytes : (n + m) * bytes ≤ 140737488355328)
    (h : ∀ g' cap' w', RowG w' sz (.slice (some ⟨g', 0, none⟩) (n + m) cap') (n + m) → Grew sz w w' v n g' → (∀ j, j < m * sz → w'.cell? ⟨g', n * sz + j, none⟩ = news[j]?) → wpList Tryz.prog ops Q rest (a.put o.dst (.slice (some ⟨g', 0, none⟩) (n + m) cap')) w') : wpList Tryz.prog ops Q (o :: rest) a w := by
  refine wpList_plain hgd fun K hK => ?_
  obtain ⟨g', cap', w', hrun, h2, h3, h4⟩ := run_appendG (ty := o.type) ht hi hz hsize hby hzs hr ad m c news hl hnews h1 hm h63 hbytes
  unfold Oper.wp execOp
  simp only [ho, resolve, invoke, builtin, Sem.run_bind, Sem.run_pure, Result.andThen_ok, List.map_toArray, List.map_cons, List.map_nil, hs, hx, hrun]
  exact hK _ _ (h g' cap' w' h2 h3 h4)

end Go.Proofs.YtabknipgbmdipaaGreatDoor

/- Trees whose rows lie each in a block of its own, with the rows of which they are made, in the order in which they are gone through. -/
namespace Go.Proofs.YtabknipgbmdipaaGreatDoor
open Go.RowKit

/-- A row with room behind it. -/
def RowQ (w : World) (r sz : Nat) (v : Value) (n : Nat) : Prop := RowG w sz v n ∧ (r = 0 ∨ ∃ g cap, v = .slice (some ⟨g, 0, none⟩) n cap ∧ n + r ≤ cap)
def RowBT (r : Nat) (R : List Value → Tm → List Value → List Value → Prop) (w : World) (v : Value) (I : List Tm) (LB RB : List Value) : Prop :=
  ∃ ls rs : Nat → List Value, LB = (List.range I.length).flatMap ls ∧ RB = v :: (List.range I.length).flatMap rs ∧ RowQ w r 7 v I.length ∧
    ∀ i (hi : i < I.length), ∃ cs : List Value, cs.length = 7 ∧ (∀ g l c, v = .slice (some ⟨g, 0, none⟩) l c → ∀ j, j < 7 → w.cell? ⟨g, i * 7 + j, none⟩ = cs[j]?) ∧ R cs I[i] (ls i) (rs i)
/-- The seven cells of a term whose rows have blocks of their own: LB its rows of limbs, RB its rows of terms. -/
def BT (r : Nat) (w : World) : Nat → List Value → Tm → List Value → List Value → Prop
  | 0, _, _, _, _ => False
  | d + 1, cs, .mk k num neg L s I T, LB, RB => ∃ (vl vi vt : Value) (l1 l2 r1 r2 : List Value), cs = [.int .u8 k, .bool neg, vl, .string s, .int .i64 num, vi, vt] ∧ RowQ w r 1 vl L.length ∧ RowBT r (BT r w d) w vi I l1 r1 ∧ RowBT r (BT r w d) w vt T l2 r2 ∧ LB = vl :: (l1 ++ l2) ∧ RB = r1 ++ r2

/-- The blocks of some rows. -/
def bks (l : List Value) : List Nat := l.flatMap fun v => v.ownBlock.toList
theorem mem_bks {l : List Value} {x : Nat} : x ∈ bks l ↔ ∃ v ∈ l, v.ownBlock = some x := by
  unfold bks
  simp [List.mem_flatMap]
theorem bks_append (a b : List Value) : bks (a ++ b) = bks a ++ bks b := by unfold bks; rw [List.flatMap_append]
theorem bks_cons (v : Value) (b : List Value) : bks (v :: b) = v.ownBlock.toList ++ bks b := by unfold bks; rw [List.flatMap_cons]
theorem bks_flatMap (n : Nat) (f : Nat → List Value) : bks ((List.range n).flatMap f) = (List.range n).flatMap (fun i => bks (f i)) := by unfold bks; rw [List.flatMap_assoc]
theorem mem_bks_flat {n : Nat} {f : Nat → List Value} {x : Nat} : x ∈ bks ((List.range n).flatMap f) ↔ ∃ i, i < n ∧ x ∈ bks (f i) := by
  rw [bks_flatMap]; simp [List.mem_flatMap]
/-- All these rows lie apart. -/
structure Apt (LB RB : List Value) : Prop where
  l : (bks LB).Nodup
  r : (bks RB).Nodup
  lr : ∀ x, x ∈ bks LB → x ∉ bks RB
def KB (LB RB : List Value) : List Nat := bks LB ++ bks RB
theorem mem_KB {LB RB : List Value} {x : Nat} : x ∈ KB LB RB ↔ x ∈ bks LB ∨ x ∈ bks RB := by unfold KB; rw [List.mem_append]

theorem flat_nodup {n : Nat} {f : Nat → List Nat} (h : ((List.range n).flatMap f).Nodup) {i j x : Nat} (hi : i < n) (hj : j < n) (hij : i ≠ j) (hx : x ∈ f i) : x ∉ f j := by
  intro hx2
  have h2 := (List.pairwise_flatMap.1 h).2
  rcases Nat.lt_or_gt_of_ne hij with h3 | h3
  · exact (List.pairwise_iff_getElem.1 h2 i j (by simpa using hi) (by simpa using hj) h3) x (by simpa using hx) x (by simpa using hx2) rfl
  · exact (List.pairwise_iff_getElem.1 h2 j i (by simpa using hj) (by simpa using hi) h3) x (by simpa using hx2) x (by simpa using hx) rfl
theorem flat_nodup1 {n : Nat} {f : Nat → List Nat} (h : ((List.range n).flatMap f).Nodup) {i : Nat} (hi : i < n) : (f i).Nodup := (List.pairwise_flatMap.1 h).1 i (by simpa using hi)
theorem nodup_flat {n : Nat} {f : Nat → List Nat} (h1 : ∀ i, i < n → (f i).Nodup) (h2 : ∀ i j x, i < n → j < n → i < j → x ∈ f i → x ∉ f j) : ((List.range n).flatMap f).Nodup := by
  refine List.pairwise_flatMap.2 ⟨fun a ha => h1 a (by simpa using ha), ?_⟩
  rw [List.pairwise_iff_getElem]
  intro i j hi hj hij x hx y hy e
  subst e
  simp at hi hj hx hy
  exact h2 i j x hi hj hij hx hy

theorem Apt.row {n : Nat} {ls rs : Nat → List Value} {v : Value} (h : Apt ((List.range n).flatMap ls) (v :: (List.range n).flatMap rs)) :
    (∀ i, i < n → Apt (ls i) (rs i)) ∧ (∀ i j x, i < n → j < n → i ≠ j → x ∈ KB (ls i) (rs i) → x ∉ KB (ls j) (rs j)) ∧ ∀ i x, i < n → v.ownBlock = some x → x ∉ KB (ls i) (rs i) := by
  obtain ⟨h1, h2, h3⟩ := h
  rw [bks_flatMap] at h1
  rw [bks_cons, bks_flatMap] at h2
  obtain ⟨h4, h5, h6⟩ := List.nodup_append.1 h2
  have lr : ∀ i j x, i < n → j < n → x ∈ bks (ls i) → x ∉ bks (rs j) := fun i j x hi hj hx hx2 => by
    refine h3 x ?_ ?_
    · rw [mem_bks_flat]; exact ⟨i, hi, hx⟩
    · rw [bks_cons, List.mem_append]; exact Or.inr (by rw [mem_bks_flat]; exact ⟨j, hj, hx2⟩)
  refine ⟨fun i hi => ⟨flat_nodup1 h1 hi, flat_nodup1 h5 hi, fun x hx => lr i i x hi hi hx⟩, fun i j x hi hj hij hx hx2 => ?_, fun i x hi hv hx => ?_⟩
  · rw [mem_KB] at hx hx2
    rcases hx with hx | hx
    · rcases hx2 with hx2 | hx2
      · exact flat_nodup h1 hi hj hij hx hx2
      · exact lr i j x hi hj hx hx2
    · rcases hx2 with hx2 | hx2
      · exact lr j i x hj hi hx2 hx
      · exact flat_nodup h5 hi hj hij hx hx2
  · rw [mem_KB] at hx
    rcases hx with hx | hx
    · exact h3 x (by rw [mem_bks_flat]; exact ⟨i, hi, hx⟩) (by rw [bks_cons, hv]; simp)
    · exact h6 x (by rw [hv]; simp) x (List.mem_flatMap.2 ⟨i, by simpa using hi, hx⟩) rfl
theorem Apt.of_row {n : Nat} {ls rs : Nat → List Value} {v : Value} (h1 : ∀ i, i < n → Apt (ls i) (rs i)) (h2 : ∀ i j x, i < n → j < n → i ≠ j → x ∈ KB (ls i) (rs i) → x ∉ KB (ls j) (rs j)) (h3 : ∀ i x, i < n → v.ownBlock = some x → x ∉ KB (ls i) (rs i)) :
    Apt ((List.range n).flatMap ls) (v :: (List.range n).flatMap rs) := by
  refine ⟨?_, ?_, fun x hx hx2 => ?_⟩
  · rw [bks_flatMap]
    exact nodup_flat (fun i hi => (h1 i hi).l) (fun i j x hi hj hij hx hx2 => h2 i j x hi hj (by omega) (mem_KB.2 (Or.inl hx)) (mem_KB.2 (Or.inl hx2)))
  · rw [bks_cons, bks_flatMap]
    refine List.nodup_append.2 ⟨?_, nodup_flat (fun i hi => (h1 i hi).r) (fun i j x hi hj hij hx hx2 => h2 i j x hi hj (by omega) (mem_KB.2 (Or.inr hx)) (mem_KB.2 (Or.inr hx2))), fun a ha b hb e => ?_⟩
    · cases v.ownBlock <;> simp
    · subst e
      obtain ⟨i, hi, hx⟩ := List.mem_flatMap.1 hb
      exact h3 i a (by simpa using hi) (by simpa using ha) (mem_KB.2 (Or.inr hx))
  · rw [mem_bks_flat] at hx
    obtain ⟨i, hi, hx⟩ := hx
    rw [bks_cons, List.mem_append] at hx2
    rcases hx2 with hx2 | hx2
    · exact h3 i x hi (by simpa using hx2) (mem_KB.2 (Or.inl hx))
    · rw [mem_bks_flat] at hx2
      obtain ⟨j, hj, hx2⟩ := hx2
      by_cases hij : i = j
      · subst hij
        exact (h1 i hi).lr x hx hx2
      · exact h2 i j x hi hj hij (mem_KB.2 (Or.inl hx)) (mem_KB.2 (Or.inr hx2))
theorem Apt.two {vl : Value} {l1 l2 r1 r2 : List Value} (h : Apt (vl :: (l1 ++ l2)) (r1 ++ r2)) :
    Apt l1 r1 ∧ Apt l2 r2 ∧ (∀ x, x ∈ KB l1 r1 → x ∉ KB l2 r2) ∧ ∀ x, vl.ownBlock = some x → x ∉ KB l1 r1 ∧ x ∉ KB l2 r2 := by
  obtain ⟨h1, h2, h3⟩ := h
  rw [bks_cons, bks_append] at h1
  rw [bks_append] at h2
  obtain ⟨h4, h5, h6⟩ := List.nodup_append.1 h1
  obtain ⟨h7, h8, h9⟩ := List.nodup_append.1 h5
  obtain ⟨h10, h11, h12⟩ := List.nodup_append.1 h2
  have lr : ∀ x, x ∈ bks l1 ∨ x ∈ bks l2 → x ∉ bks r1 ∧ x ∉ bks r2 := fun x hx => by
    have := h3 x (by rw [bks_cons, bks_append]; rcases hx with h | h <;> simp [h])
    rw [bks_append, List.mem_append] at this
    exact ⟨fun h => this (Or.inl h), fun h => this (Or.inr h)⟩
  refine ⟨⟨h7, h10, fun x hx => (lr x (Or.inl hx)).1⟩, ⟨h8, h11, fun x hx => (lr x (Or.inr hx)).2⟩, fun x hx hx2 => ?_, fun x hv => ?_⟩
  · rw [mem_KB] at hx hx2
    rcases hx with hx | hx <;> rcases hx2 with hx2 | hx2
    · exact h9 x hx x hx2 rfl
    · exact (lr x (Or.inl hx)).2 hx2
    · exact (lr x (Or.inr hx2)).1 hx
    · exact h12 x hx x hx2 rfl
  · have hl := h3 x (by rw [bks_cons, hv]; simp)
    rw [bks_append, List.mem_append] at hl
    refine ⟨fun hx => ?_, fun hx => ?_⟩
    · rw [mem_KB] at hx
      rcases hx with hx | hx
      · exact h6 x (by rw [hv]; simp) x (List.mem_append.2 (Or.inl hx)) rfl
      · exact hl (Or.inl hx)
    · rw [mem_KB] at hx
      rcases hx with hx | hx
      · exact h6 x (by rw [hv]; simp) x (List.mem_append.2 (Or.inr hx)) rfl
      · exact hl (Or.inr hx)
theorem Apt.of_two {vl : Value} {l1 l2 r1 r2 : List Value} (h1 : Apt l1 r1) (h2 : Apt l2 r2) (h3 : ∀ x, x ∈ KB l1 r1 → x ∉ KB l2 r2) (h4 : ∀ x, vl.ownBlock = some x → x ∉ KB l1 r1 ∧ x ∉ KB l2 r2) : Apt (vl :: (l1 ++ l2)) (r1 ++ r2) := by
  have ht : ∀ a, a ∈ vl.ownBlock.toList → vl.ownBlock = some a := fun a ha => by simpa using ha
  refine ⟨?_, ?_, fun x hx hx2 => ?_⟩
  · rw [bks_cons, bks_append]
    refine List.nodup_append.2 ⟨by cases vl.ownBlock <;> simp, List.nodup_append.2 ⟨h1.l, h2.l, fun a ha b hb e => h3 a (mem_KB.2 (Or.inl ha)) (mem_KB.2 (Or.inl (e ▸ hb)))⟩, fun a ha b hb e => ?_⟩
    subst e
    rcases List.mem_append.1 hb with hb | hb
    · exact (h4 a (ht a ha)).1 (mem_KB.2 (Or.inl hb))
    · exact (h4 a (ht a ha)).2 (mem_KB.2 (Or.inl hb))
  · rw [bks_append]
    exact List.nodup_append.2 ⟨h1.r, h2.r, fun a ha b hb e => h3 a (mem_KB.2 (Or.inr ha)) (mem_KB.2 (Or.inr (e ▸ hb)))⟩
  · rw [bks_cons, bks_append, List.mem_append, List.mem_append] at hx
    rw [bks_append, List.mem_append] at hx2
    rcases hx with hx | hx | hx <;> rcases hx2 with hx2 | hx2
    · exact (h4 x (ht x hx)).1 (mem_KB.2 (Or.inr hx2))
    · exact (h4 x (ht x hx)).2 (mem_KB.2 (Or.inr hx2))
    · exact h1.lr x hx hx2
    · exact h3 x (mem_KB.2 (Or.inl hx)) (mem_KB.2 (Or.inr hx2))
    · exact h3 x (mem_KB.2 (Or.inr hx2)) (mem_KB.2 (Or.inl hx))
    · exact h2.lr x hx hx2

theorem RowQ.upd {S : List Nat} {w w' : World} {r sz n : Nat} {v : Value} (h : RowQ w r sz v n) (hu : Upd S w w') (hn : ∀ g, v.ownBlock = some g → g ∉ S) : RowQ w' r sz v n := ⟨h.1.upd hu hn, h.2⟩
theorem RowBT.upd {r : Nat} {R R' : List Value → Tm → List Value → List Value → Prop} {S : List Nat} {w w' : World} {v : Value} {I : List Tm} {LB RB : List Value} (h : RowBT r R w v I LB RB) (hu : Upd S w w') (hn : ∀ x, x ∈ KB LB RB → x ∉ S)
    (hR : ∀ cs t l q, (∀ x, x ∈ KB l q → x ∉ S) → R cs t l q → R' cs t l q) : RowBT r R' w' v I LB RB := by
  obtain ⟨ls, rs, rfl, rfl, h3, h4⟩ := h
  have hv : ∀ g, v.ownBlock = some g → g ∉ S := fun g hg => hn g (mem_KB.2 (Or.inr (by rw [bks_cons, hg]; simp)))
  refine ⟨ls, rs, rfl, rfl, h3.upd hu hv, fun i hi => ?_⟩
  obtain ⟨cs, k1, k2, k3⟩ := h4 i hi
  refine ⟨cs, k1, fun g l c e j hj => ?_, hR _ _ _ _ (fun x hx => hn x ?_) k3⟩
  · have hg : v.ownBlock = some g := by rw [e]; rfl
    rw [hu.cell (p := ⟨g, i * 7 + j, none⟩) (h3.1.lt g hg) (hv g hg)]
    exact k2 g l c e j hj
  · rw [mem_KB] at hx ⊢
    rcases hx with hx | hx
    · exact Or.inl (mem_bks_flat.2 ⟨i, hi, hx⟩)
    · exact Or.inr (by rw [bks_cons, List.mem_append]; exact Or.inr (mem_bks_flat.2 ⟨i, hi, hx⟩))
theorem KB_two {vl : Value} {l1 l2 r1 r2 : List Value} {x : Nat} : x ∈ KB (vl :: (l1 ++ l2)) (r1 ++ r2) ↔ vl.ownBlock = some x ∨ x ∈ KB l1 r1 ∨ x ∈ KB l2 r2 := by
  simp only [mem_KB, bks_cons, bks_append, List.mem_append, Option.mem_toList]
  constructor
  · rintro ((h | h | h) | h | h)
    · exact Or.inl h
    · exact Or.inr (Or.inl (Or.inl h))
    · exact Or.inr (Or.inr (Or.inl h))
    · exact Or.inr (Or.inl (Or.inr h))
    · exact Or.inr (Or.inr (Or.inr h))
  · rintro (h | (h | h) | (h | h))
    · exact Or.inl (Or.inl h)
    · exact Or.inl (Or.inr (Or.inl h))
    · exact Or.inr (Or.inl h)
    · exact Or.inl (Or.inr (Or.inr h))
    · exact Or.inr (Or.inr h)
theorem KB_row {n : Nat} {ls rs : Nat → List Value} {v : Value} {x : Nat} : x ∈ KB ((List.range n).flatMap ls) (v :: (List.range n).flatMap rs) ↔ v.ownBlock = some x ∨ ∃ i, i < n ∧ x ∈ KB (ls i) (rs i) := by
  simp only [mem_KB, bks_cons, List.mem_append, Option.mem_toList, mem_bks_flat]
  constructor
  · rintro (⟨i, hi, h⟩ | h | ⟨i, hi, h⟩)
    · exact Or.inr ⟨i, hi, Or.inl h⟩
    · exact Or.inl h
    · exact Or.inr ⟨i, hi, Or.inr h⟩
  · rintro (h | ⟨i, hi, h | h⟩)
    · exact Or.inr (Or.inl h)
    · exact Or.inl ⟨i, hi, h⟩
    · exact Or.inr (Or.inr ⟨i, hi, h⟩)
theorem BT.upd {r : Nat} {S : List Nat} {w w' : World} (hu : Upd S w w') : ∀ (d : Nat) (cs : List Value) (t : Tm) (LB RB : List Value), (∀ x, x ∈ KB LB RB → x ∉ S) → BT r w d cs t LB RB → BT r w' d cs t LB RB := by
  intro d
  induction d with
  | zero => intro cs t LB RB _ h; exact h.elim
  | succ d ih =>
    intro cs t LB RB hn h
    cases t with
    | mk k num neg L s I T =>
      obtain ⟨vl, vi, vt, l1, l2, r1, r2, rfl, h1, h2, h3, rfl, rfl⟩ := h
      refine ⟨vl, vi, vt, l1, l2, r1, r2, rfl, h1.upd hu (fun g hg => hn g (KB_two.2 (Or.inl hg))), h2.upd hu (fun x hx => hn x (KB_two.2 (Or.inr (Or.inl hx)))) (fun cs t l q hx hR => ih cs t l q hx hR), h3.upd hu (fun x hx => hn x (KB_two.2 (Or.inr (Or.inr hx)))) (fun cs t l q hx hR => ih cs t l q hx hR), rfl, rfl⟩
theorem RowBT.lt {r d : Nat} {w : World} (ih : ∀ cs t LB RB, BT r w d cs t LB RB → ∀ x, x ∈ KB LB RB → x < w.heap.size) {v : Value} {I : List Tm} {LB RB : List Value} (h : RowBT r (BT r w d) w v I LB RB) : ∀ x, x ∈ KB LB RB → x < w.heap.size := by
  obtain ⟨ls, rs, rfl, rfl, h3, h4⟩ := h
  intro x hx
  rcases KB_row.1 hx with hx | ⟨i, hi, hx⟩
  · exact h3.1.lt x hx
  · obtain ⟨cs, _, _, k3⟩ := h4 i hi
    exact ih _ _ _ _ k3 x hx
theorem BT.lt {r : Nat} {w : World} : ∀ (d : Nat) (cs : List Value) (t : Tm) (LB RB : List Value), BT r w d cs t LB RB → ∀ x, x ∈ KB LB RB → x < w.heap.size := by
  intro d
  induction d with
  | zero => intro cs t LB RB h; exact h.elim
  | succ d ih =>
    intro cs t LB RB h x hx
    cases t with
    | mk k num neg L s I T =>
      obtain ⟨vl, vi, vt, l1, l2, r1, r2, rfl, h1, h2, h3, rfl, rfl⟩ := h
      rcases KB_two.1 hx with hx | hx | hx
      · exact h1.1.lt x hx
      · exact h2.lt ih x hx
      · exact h3.lt ih x hx
theorem BT.seven {r : Nat} {w : World} {d : Nat} {cs : List Value} {t : Tm} {LB RB : List Value} (h : BT r w d cs t LB RB) : cs.length = 7 := by
  cases d with
  | zero => exact h.elim
  | succ d =>
    cases t with
    | mk k num neg L s I T =>
      obtain ⟨vl, vi, vt, l1, l2, r1, r2, rfl, _⟩ := h
      rfl

end Go.Proofs.YtabknipgbmdipaaGreatDoor

/- OverLimbs, OverTerms, OverTerm of the kit, by their contracts. -/
namespace Go.Proofs.YtabknipgbmdipaaGreatDoor
open Go.RowKit

/-- A mark's number. -/
def mkN (k i : Int) : Int := wrap64 (wrap64 (1000003 * wrap64 (k + 7)) + i)
set_option maxHeartbeats 400000 in
theorem markG_any (k i : Int) (w : World) : Calls Tryz.prog 69 #[.int .i64 k, .int .i64 i] w fun e w' => e = .returned (.int .i64 (mkN k i)) ∧ w' = w := by
  have HM : Hid (mkN k i = wrap64 (wrap64 (1000003 * wrap64 (k + 7)) + i)) := rfl
  go_enter Tryz.func69, Tryz.ntmps69
  go_wp2
  go_ret
  rw [HM.out]
  exact ⟨rfl, rfl⟩
/-- A mark of a term. -/
def mkTm (k i : Nat) : List Value := [.int .u8 0, .bool false, .slice none 0 0, .string ⟨#[]⟩, .int .i64 (mkN k i), .slice none 0 0, .slice none 0 0]
set_option maxHeartbeats 1000000 in
set_option maxRecDepth 100000 in
theorem markTermG_any (k i : Int) (w : World) : Calls Tryz.prog 70 #[.int .i64 k, .int .i64 i] w fun e w' => e = .returned (.agg #[.int .u8 0, .bool false, .slice none 0 0, .string ⟨#[]⟩, .int .i64 (mkN k i), .slice none 0 0, .slice none 0 0]) ∧ Upd [] w w' := by
  obtain ⟨M, hM⟩ : ∃ M, M = mkN k i := ⟨_, rfl⟩
  have HM : Hid (∀ W, Calls Tryz.prog 69 #[.int .i64 k, .int .i64 i] W fun e w' => e = .returned (.int .i64 M) ∧ w' = W) := fun W => by rw [hM]; exact markG_any k i W
  rw [← hM]
  clear hM
  have u0 := (Upd.refl [] w).alloc (.cells #[.int .u8 0, .bool false, .slice none 0 0, .string ⟨#[]⟩, .int .i64 0, .slice none 0 0, .slice none 0 0] 26)
  have t0 := Tb.new w #[.int .u8 0, .bool false, .slice none 0 0, .string ⟨#[]⟩, .int .i64 0, .slice none 0 0, .slice none 0 0] _ rfl
  go_enter Tryz.func70, Tryz.ntmps70
  go_wp2_with fail
  refine (HM.out _).mono ?_
  rintro e w1 ⟨rfl, hw1⟩
  rw [hw1]
  clear hw1
  go_wp2_with (refine store_V _ rfl _ _ rfl _ _ _ _ _ _ _ _ _ _ _ _ _ _ _ rfl rfl t0 rfl ?_; intro w3 hT3 hU3)
  exact ret_T Tryz.results70 rfl _ _ rfl hT3 rfl ⟨rfl, u0.then hU3 (by simp)⟩

theorem there7 {w : World} {g o : Nat} (h : w.there g o 7) : ((∃ c, w.cell? ⟨g, o, none⟩ = some c) ∧ (∃ c, w.cell? ⟨g, o + 1, none⟩ = some c) ∧ (∃ c, w.cell? ⟨g, o + 2, none⟩ = some c) ∧ (∃ c, w.cell? ⟨g, o + 3, none⟩ = some c) ∧ (∃ c, w.cell? ⟨g, o + 4, none⟩ = some c) ∧ (∃ c, w.cell? ⟨g, o + 5, none⟩ = some c) ∧ ∃ c, w.cell? ⟨g, o + 6, none⟩ = some c) ∧
    w.frozen? ⟨g, o, none⟩ = false ∧ w.frozen? ⟨g, o + 1, none⟩ = false ∧ w.frozen? ⟨g, o + 2, none⟩ = false ∧ w.frozen? ⟨g, o + 3, none⟩ = false ∧ w.frozen? ⟨g, o + 4, none⟩ = false ∧ w.frozen? ⟨g, o + 5, none⟩ = false ∧ w.frozen? ⟨g, o + 6, none⟩ = false := by
  have k : ∀ i, i < 7 → ∃ c, w.cell? ⟨g, o + i, none⟩ = some c := fun i hi => Option.isSome_iff_exists.1 (h i hi).1
  have f : ∀ i, i < 7 → w.frozen? ⟨g, o + i, none⟩ = false := fun i hi => (h i hi).2
  exact ⟨⟨k 0 (by omega), k 1 (by omega), k 2 (by omega), k 3 (by omega), k 4 (by omega), k 5 (by omega), k 6 (by omega)⟩, f 0 (by omega), f 1 (by omega), f 2 (by omega), f 3 (by omega), f 4 (by omega), f 5 (by omega), f 6 (by omega)⟩
theorem setCells7 (w : World) (g o : Nat) (u0 u1 u2 u3 u4 u5 u6 : Value) : ((((((w.setCell ⟨g, o, none⟩ u0).setCell ⟨g, o + 1, none⟩ u1).setCell ⟨g, o + 2, none⟩ u2).setCell ⟨g, o + 3, none⟩ u3).setCell ⟨g, o + 4, none⟩ u4).setCell ⟨g, o + 5, none⟩ u5).setCell ⟨g, o + 6, none⟩ u6 = w.setCells g o [u0, u1, u2, u3, u4, u5, u6] := rfl
theorem room_get {w : World} {g k n : Nat} (h : w.there g 0 n) (hk : k < n) : (∃ c, w.cell? ⟨g, k, none⟩ = some c) ∧ w.frozen? ⟨g, k, none⟩ = false := by
  have := h k hk
  rw [Nat.zero_add] at this
  exact ⟨Option.isSome_iff_exists.1 this.1, this.2⟩
theorem setCell_one (w : World) (g o : Nat) (u : Value) : w.setCell ⟨g, o, none⟩ u = w.setCells g o [u] := rfl

set_option maxHeartbeats 4000000 in
set_option maxRecDepth 100000 in
theorem OverLimbs_any (g n cap : Nat) (w : World) (_hg : g < w.heap.size) (hc : n + 12 ≤ cap) (hc2 : cap ≤ 9223372036854775807) (ht : w.there g 0 cap) :
    Calls Tryz.prog 53 #[.slice (some ⟨g, 0, none⟩) n cap] w fun e w' => e = .returned (.tuple #[]) ∧ Upd [g] w w' := by
  have HT : Hid (w.there g 0 cap) := ht
  clear ht
  go_enter Tryz.func53, Tryz.ntmps53
  go_wp2
  go_loopw [3] (fun i wr => ∃ k : Nat, k ≤ n + 12 ∧ i = .int .i64 k ∧ Upd [g] w wr ∧ wr.there g 0 cap) (fun i _ => n + 12 - (intOf i).toNat)
  case atStart => exact ⟨0, Nat.zero_le _, rfl, Upd.refl _ _, HT.out⟩
  case round =>
    obtain ⟨k, hk, rfl, hU, hth⟩ := hrel
    by_cases hk2 : k < n + 12
    · have i3 : (k : Int) < (n : Int) + 12 := by omega
      obtain ⟨⟨c0, hc0⟩, hf0⟩ := room_get hth (show k < cap by omega)
      have HTh : Hid (wr.there g 0 cap) := hth
      obtain ⟨M, hM⟩ : ∃ M, M = mkN 2 k := ⟨_, rfl⟩
      have HM : Hid (∀ W, Calls Tryz.prog 69 #[.int .i64 2, .int .i64 k] W fun e w' => e = .returned (.int .i64 M) ∧ w' = W) := fun W => by rw [hM]; exact markG_any 2 k W
      clear hM hth
      go_wp2_with fail
      refine (HM.out _).mono ?_
      rintro e w1 ⟨rfl, hw1⟩
      rw [hw1]
      clear hw1
      go_wp2
      go_roundw
      case rel => exact ⟨k + 1, by omega, by go_num, hU.setCell (Or.inr (by simp)) _, by rw [setCell_one]; exact there_set HTh.out⟩
      case measure => simp [intOf]; omega
    · have dd : decide ((k : Int) < (n : Int) + 12) = false := by simp; omega
      go_wp2
      go_end0
      exact ⟨rfl, hU⟩

/-- What OverTerm is to answer, of depth d. -/
def OverSaid (d : Nat) : Prop := ∀ (w : World) (cs : List Value) (t : Tm) (LB RB : List Value), BT 12 w d cs t LB RB → Apt LB RB → Calls Tryz.prog 14 #[.agg cs.toArray] w fun e w' => e = .returned (.tuple #[]) ∧ Upd (KB LB RB) w w'
theorem Upd.wide {S T : List Nat} {w w' : World} (h : Upd S w w') (hS : ∀ x, x ∈ S → x ∈ T) : Upd T w w' := ⟨h.os, h.tape, h.output, h.size, fun k hk hn => h.block k hk (fun hm => hn (hS k hm))⟩
theorem BT.shape {r : Nat} {w : World} {d : Nat} {cs : List Value} {t : Tm} {LB RB : List Value} (h : BT r w d cs t LB RB) : ∃ (k num : Int) (neg : Bool) (s : ByteArray) (v1 v2 v3 : Value), cs = [.int .u8 k, .bool neg, v1, .string s, .int .i64 num, v2, v3] := by
  cases d with
  | zero => exact h.elim
  | succ d =>
    cases t with
    | mk k num neg L s I T =>
      obtain ⟨vl, vi, vt, l1, l2, r1, r2, rfl, _⟩ := h
      exact ⟨k, num, neg, s, vl, vi, vt, rfl⟩

set_option maxHeartbeats 600000 in
set_option maxRecDepth 100000 in
theorem OverTerms_in (d : Nat) (ih : OverSaid d) (w : World) (v : Value) (I : List Tm) (LB RB : List Value) (h : RowBT 12 (BT 12 w d) w v I LB RB) (ha : Apt LB RB) :
    Calls Tryz.prog 54 #[v] w fun e w' => e = .returned (.tuple #[]) ∧ Upd (KB LB RB) w w' := by
  obtain ⟨ls, rs, rfl, rfl, ⟨hG, hr⟩, hkid⟩ := h
  obtain ⟨a1, a2, a3⟩ := ha.row
  rcases hr with h0 | ⟨g, cap, rfl, hcap⟩
  · omega
  have hS : ∀ x, x ∈ g :: (List.range I.length).flatMap (fun i => KB (ls i) (rs i)) → x ∈ KB ((List.range I.length).flatMap ls) (.slice (some ⟨g, 0, none⟩) I.length cap :: (List.range I.length).flatMap rs) := fun x hx => by
    rw [KB_row]
    rcases List.mem_cons.1 hx with rfl | hx
    · exact Or.inl rfl
    · obtain ⟨i, hi, hx⟩ := List.mem_flatMap.1 hx
      exact Or.inr ⟨i, by simpa using hi, hx⟩
  have hgl := hG.lt g rfl
  rcases hG with ⟨e, _⟩ | ⟨g2, cap2, e, _, _, hmax, hth⟩
  · cases e
  simp only [Value.slice.injEq, Option.some.injEq, Addr.mk.injEq, and_true, true_and] at e
  obtain ⟨rfl, rfl⟩ := e
  have hmax2 : cap ≤ 9223372036854775807 := by unfold maxLen at hmax; omega
  have HK : Hid (∀ i (hi : i < I.length), ∃ cs : List Value, cs.length = 7 ∧ (∀ g' l c, Value.slice (some ⟨g, 0, none⟩) I.length cap = .slice (some ⟨g', 0, none⟩) l c → ∀ j, j < 7 → w.cell? ⟨g', i * 7 + j, none⟩ = cs[j]?) ∧ BT 12 w d cs I[i] (ls i) (rs i)) := hkid
  have HA1 : Hid (∀ i, i < I.length → Apt (ls i) (rs i)) := a1
  have HA2 : Hid (∀ i j x, i < I.length → j < I.length → i ≠ j → x ∈ KB (ls i) (rs i) → x ∉ KB (ls j) (rs j)) := a2
  have HA3 : Hid (∀ i x, i < I.length → (Value.slice (some ⟨g, 0, none⟩) I.length cap).ownBlock = some x → x ∉ KB (ls i) (rs i)) := a3
  have HTh : Hid (w.there g 0 (cap * 7)) := hth
  have HS : Hid (∀ x, x ∈ g :: (List.range I.length).flatMap (fun i => KB (ls i) (rs i)) → x ∈ KB ((List.range I.length).flatMap ls) (.slice (some ⟨g, 0, none⟩) I.length cap :: (List.range I.length).flatMap rs)) := hS
  have IH : Hid (OverSaid d) := ih
  clear hkid a1 a2 a3 hth ha hS ih hmax
  go_enter Tryz.func54, Tryz.ntmps54
  go_wp2_with fail
  go_loopw [2] (fun i wr => ∃ k : Nat, k ≤ I.length ∧ i = .int .i64 k ∧ Upd ((List.range k).flatMap (fun i => KB (ls i) (rs i))) w wr) (fun i _ => I.length - (intOf i).toNat)
  case atStart => exact ⟨0, Nat.zero_le _, rfl, Upd.refl _ _⟩
  case round =>
    obtain ⟨k, hk, rfl, hU⟩ := hrel
    by_cases hk2 : k < I.length
    · have i1 : (k : Int) < (I.length : Int) := by omega
      obtain ⟨cs, hl7, hcell, hbt⟩ := HK.out k hk2
      have hgn : g ∉ (List.range k).flatMap (fun i => KB (ls i) (rs i)) := fun hm => by
        obtain ⟨i, hi, hx⟩ := List.mem_flatMap.1 hm
        exact HA3.out i g (by have := List.mem_range.1 hi; omega) rfl hx
      have hbt2 : BT 12 wr d cs I[k] (ls k) (rs k) := BT.upd hU _ _ _ _ _ (fun x hx hm => by
        obtain ⟨i, hi, hx2⟩ := List.mem_flatMap.1 hm
        have := List.mem_range.1 hi
        exact HA2.out k i x hk2 (by omega) (by omega) hx hx2) hbt
      obtain ⟨k1, num1, neg1, s1, v1, v2, v3, rfl⟩ := hbt2.shape
      have mc : ∀ j, j < 7 → wr.cell? ⟨g, k * 7 + j, none⟩ = ([.int .u8 k1, .bool neg1, v1, .string s1, .int .i64 num1, v2, v3] : List Value)[j]? := fun j hj => (hU.cell (p := ⟨g, k * 7 + j, none⟩) hgl hgn).trans (hcell g I.length cap rfl j hj)
      have x0 : wr.cell? ⟨g, k * 7, none⟩ = some (.int .u8 k1) := mc 0 (by omega)
      have x1 : wr.cell? ⟨g, k * 7 + 1, none⟩ = some (.bool neg1) := mc 1 (by omega)
      have x2 : wr.cell? ⟨g, k * 7 + 2, none⟩ = some v1 := mc 2 (by omega)
      have x3 : wr.cell? ⟨g, k * 7 + 3, none⟩ = some (.string s1) := mc 3 (by omega)
      have x4 : wr.cell? ⟨g, k * 7 + 4, none⟩ = some (.int .i64 num1) := mc 4 (by omega)
      have x5 : wr.cell? ⟨g, k * 7 + 5, none⟩ = some v2 := mc 5 (by omega)
      have x6 : wr.cell? ⟨g, k * 7 + 6, none⟩ = some v3 := mc 6 (by omega)
      have HC : Hid _ := IH.out wr _ _ _ _ hbt2 (HA1.out k hk2)
      have HU : Hid (Upd ((List.range k).flatMap (fun i => KB (ls i) (rs i))) w wr) := hU
      clear hbt hbt2 hcell hl7 mc hgn hU
      go_wp2_with fail
      refine Calls.mono HC.out ?_
      rintro e w1 ⟨rfl, hU1⟩
      have hU2 : Upd ((List.range (k + 1)).flatMap (fun i => KB (ls i) (rs i))) w w1 := (HU.out.wide (fun x hx => by rw [List.range_succ, List.flatMap_append]; exact List.mem_append.2 (Or.inl hx))).trans (hU1.wide (fun x hx => by rw [List.range_succ, List.flatMap_append]; exact List.mem_append.2 (Or.inr (by simpa using hx))))
      have HU2 : Hid (Upd ((List.range (k + 1)).flatMap (fun i => KB (ls i) (rs i))) w w1) := hU2
      clear hU1 hU2 x0 x1 x2 x3 x4 x5 x6
      go_wp2
      go_roundw
      case rel => exact ⟨k + 1, by omega, by go_num, HU2.out⟩
      case measure => simp [intOf]; omega
    · have dd : decide ((k : Int) < (I.length : Int)) = false := by simp; omega
      have hkk : k = I.length := by omega
      rw [hkk] at hU
      have hgn : g ∉ (List.range I.length).flatMap (fun i => KB (ls i) (rs i)) := fun hm => by
        obtain ⟨i, hi, hx⟩ := List.mem_flatMap.1 hm
        exact HA3.out i g (by have := List.mem_range.1 hi; omega) rfl hx
      have HTr : Hid (wr.there g 0 (cap * 7)) := there_upd HTh.out hgl hU hgn
      have HU : Hid (Upd (g :: (List.range I.length).flatMap (fun i => KB (ls i) (rs i))) w wr) := hU.wide (fun x hx => List.mem_cons_of_mem _ hx)
      clear hU hkk hgn
      go_wp2
      go_loopw [4] (fun i wq => ∃ k : Nat, k ≤ I.length + 12 ∧ i = .int .i64 k ∧ Upd (g :: (List.range I.length).flatMap (fun i => KB (ls i) (rs i))) w wq ∧ wq.there g 0 (cap * 7)) (fun i _ => I.length + 12 - (intOf i).toNat)
      case atStart => exact ⟨0, Nat.zero_le _, rfl, HU.out, HTr.out⟩
      case round =>
        obtain ⟨j, hj, rfl, hUj, hthj⟩ := hrel
        clear HU HTr
        by_cases hj2 : j < I.length + 12
        · have i3 : (j : Int) < (I.length : Int) + 12 := by omega
          have HTj : Hid (wr.there g 0 (cap * 7)) := hthj
          have HUj : Hid (Upd (g :: (List.range I.length).flatMap (fun i => KB (ls i) (rs i))) w wr) := hUj
          have hjc : j < cap := by omega
          obtain ⟨M, hM⟩ : ∃ M, M = mkN 2 j := ⟨_, rfl⟩
          have HM : Hid (∀ W, Calls Tryz.prog 70 #[.int .i64 2, .int .i64 j] W fun e w' => e = .returned (.agg #[.int .u8 0, .bool false, .slice none 0 0, .string ⟨#[]⟩, .int .i64 M, .slice none 0 0, .slice none 0 0]) ∧ Upd [] W w') := fun W => by rw [hM]; exact markTermG_any 2 j W
          clear hUj hthj hM
          go_wp2_with fail
          refine (HM.out _).mono ?_
          rintro e w3 ⟨rfl, hU3⟩
          have hT3 : w3.there g 0 (cap * 7) := there_upd HTj.out (Nat.lt_of_lt_of_le hgl HUj.out.size) hU3 (by simp)
          have hT4 : w3.there g (j * 7) 7 := fun q hq => by
            have hmr := mul_room (sz := 7) hjc
            have := hT3 (j * 7 + q) (by omega)
            rw [Nat.zero_add] at this
            exact this
          have HT3 : Hid (w3.there g 0 (cap * 7)) := hT3
          have HT4 : Hid (w3.there g (j * 7) 7) := hT4
          clear hT3 hT4
          obtain ⟨⟨d0, d1, d2, d3, d4, d5, d6⟩, f0, f1, f2, f3, f4, f5, f6⟩ := there7 HT4.out
          obtain ⟨c0, d0⟩ := d0
          obtain ⟨c1, d1⟩ := d1
          obtain ⟨c2, d2⟩ := d2
          obtain ⟨c3, d3⟩ := d3
          obtain ⟨c4, d4⟩ := d4
          obtain ⟨c5, d5⟩ := d5
          obtain ⟨c6, d6⟩ := d6
          go_wp2
          go_roundw
          case rel =>
            rw [setCells7]
            exact ⟨j + 1, by omega, by go_num, (HUj.out.trans (hU3.wide (by simp))).trans ((setCells_Upd w3 g (j * 7) _).wide (by simp)), there_set HT3.out⟩
          case measure => simp [intOf]; omega
        · have dd2 : decide ((j : Int) < (I.length : Int) + 12) = false := by simp; omega
          have HUj : Hid (Upd (g :: (List.range I.length).flatMap (fun i => KB (ls i) (rs i))) w wr) := hUj
          clear hUj hthj
          go_wp2
          go_end0
          exact ⟨rfl, HUj.out.wide HS.out⟩

theorem RowQ.limbs {w : World} {v : Value} {n : Nat} (h : RowQ w 12 1 v n) : ∃ g cap, v = .slice (some ⟨g, 0, none⟩) n cap ∧ g < w.heap.size ∧ n + 12 ≤ cap ∧ cap ≤ 9223372036854775807 ∧ w.there g 0 cap := by
  obtain ⟨h1, h2 | ⟨g, cap, rfl, hc⟩⟩ := h
  · omega
  · rcases h1 with ⟨e, _⟩ | ⟨g2, cap2, e, hl, _, hm, ht⟩
    · cases e
    simp only [Value.slice.injEq, Option.some.injEq, Addr.mk.injEq, and_true, true_and] at e
    obtain ⟨rfl, rfl⟩ := e
    rw [Nat.mul_one] at ht
    exact ⟨g, cap, rfl, hl, hc, by unfold maxLen at hm; omega, ht⟩

set_option maxHeartbeats 4000000 in
set_option maxRecDepth 100000 in
theorem OverTerm_step (d : Nat) (ih : OverSaid d) : OverSaid (d + 1) := by
  intro w cs t LB RB h ha
  cases t with
  | mk k num neg L s I T =>
    have hlt0 := BT.lt _ _ _ _ _ h
    obtain ⟨vl, vi, vt, l1, l2, r1, r2, rfl, h1, h2, h3, rfl, rfl⟩ := h
    obtain ⟨a1, a2, a3, a4⟩ := ha.two
    obtain ⟨g, cap, rfl, hgl, hc1, hc2, hth⟩ := h1.limbs
    have tX := Tb.new w #[.int .u8 k, .bool neg, .slice (some ⟨g, 0, none⟩) L.length cap, .string s, .int .i64 num, vi, vt] _ rfl
    have u0 := (Upd.refl [] w).alloc (.cells #[.int .u8 k, .bool neg, .slice (some ⟨g, 0, none⟩) L.length cap, .string s, .int .i64 num, vi, vt] 26)
    have HL : Hid _ := OverLimbs_any g L.length cap _ (Nat.lt_of_lt_of_le hgl u0.size) hc1 hc2 (there_upd hth hgl u0 (by simp))
    have hkb : ∀ x, x ∈ KB (.slice (some ⟨g, 0, none⟩) L.length cap :: (l1 ++ l2)) (r1 ++ r2) → x ≠ w.heap.size := fun x hx e => by have := hlt0 x hx; omega
    have hgn := a4 g rfl
    have HI : Hid (∀ W, Upd [g] w W → Calls Tryz.prog 54 #[vi] W fun e w' => e = .returned (.tuple #[]) ∧ Upd (KB l1 r1) W w') := fun W hu => OverTerms_in d ih W vi I l1 r1 (h2.upd hu (fun x hx hm => by simp at hm; subst hm; exact hgn.1 hx) (fun cs t l q hx hR => BT.upd hu _ _ _ _ _ hx hR)) a1
    have HT : Hid (∀ W, Upd (g :: KB l1 r1) w W → Calls Tryz.prog 54 #[vt] W fun e w' => e = .returned (.tuple #[]) ∧ Upd (KB l2 r2) W w') := fun W hu => OverTerms_in d ih W vt T l2 r2 (h3.upd hu (fun x hx hm => by
      rcases List.mem_cons.1 hm with rfl | hm
      · exact hgn.2 hx
      · exact a3 x hm hx) (fun cs t l q hx hR => BT.upd hu _ _ _ _ _ hx hR)) a2
    have HG : Hid (g ≠ w.heap.size ∧ (∀ x, x ∈ KB l1 r1 → x ≠ w.heap.size)) := ⟨hkb g (KB_two.2 (Or.inl rfl)), fun x hx => hkb x (KB_two.2 (Or.inr (Or.inl hx)))⟩
    have HU0 : Hid (Upd [] w _) := u0
    clear h1 h2 h3 ha a1 a2 a3 a4 hth hlt0 hkb ih u0
    go_enter Tryz.func14, Tryz.ntmps14
    have x2 : (w.alloc (.cells #[.int .u8 k, .bool neg, .slice (some ⟨g, 0, none⟩) L.length cap, .string s, .int .i64 num, vi, vt] 26)).cell? ⟨w.heap.size, 2, none⟩ = some (.slice (some ⟨g, 0, none⟩) L.length cap) := tX.cell 2
    go_wp2_with fail
    refine Calls.mono HL.out ?_
    rintro e w1 ⟨rfl, hU1⟩
    have tX1 := tX.mono hU1 (by simp; exact fun e => HG.out.1 e.symm)
    have x5 : w1.cell? ⟨w.heap.size, 5, none⟩ = some vi := tX1.cell 5
    have HU1 : Hid (Upd [g] w w1) := (HU0.out.wide (by simp)).trans hU1
    clear hU1
    go_wp2_with fail
    refine Calls.mono (HI.out _ HU1.out) ?_
    rintro e w2 ⟨rfl, hU2⟩
    have tX2 := tX1.mono hU2 (fun hm => HG.out.2 _ hm rfl)
    have x6 : w2.cell? ⟨w.heap.size, 6, none⟩ = some vt := tX2.cell 6
    have HU2 : Hid (Upd (g :: KB l1 r1) w w2) := (HU1.out.wide (by simp)).trans (hU2.wide (fun x hx => List.mem_cons_of_mem _ hx))
    clear hU2
    go_wp2_with fail
    refine Calls.mono (HT.out _ HU2.out) ?_
    rintro e w3 ⟨rfl, hU3⟩
    have HU3 : Hid (Upd (KB (.slice (some ⟨g, 0, none⟩) L.length cap :: (l1 ++ l2)) (r1 ++ r2)) w w3) := (HU2.out.wide (fun x hx => by
      rw [KB_two]
      rcases List.mem_cons.1 hx with rfl | hx
      · exact Or.inl rfl
      · exact Or.inr (Or.inl hx))).trans (hU3.wide (fun x hx => KB_two.2 (Or.inr (Or.inr hx))))
    clear hU3
    go_wp2
    go_end0
    exact ⟨rfl, HU3.out⟩
theorem OverTerm_in : ∀ d, OverSaid d
  | 0 => fun _ _ _ _ _ h => h.elim
  | d + 1 => OverTerm_step d (OverTerm_in d)

end Go.Proofs.YtabknipgbmdipaaGreatDoor

/- What flat.. leaves as it was; a region of a function's text; marks. -/
namespace Go.Proofs.YtabknipgbmdipaaGreatDoor
open Go.RowKit

/-- A region of a function's text. -/
def regCode (k : Nat) : Code → Option Code
  | .region id ops d => if id = k then some (.region id ops d) else none
  | .seq a b => match regCode k a with
    | some c => some c
    | none => regCode k b
  | .cond _ a b => match regCode k a with
    | some c => some c
    | none => regCode k b
  | .block _ c => regCode k c
  | .loop c => regCode k c
  | .scope c => regCode k c
  | _ => none
/-- What is below base, and is no row's own, has stayed. -/
structure Low (base : Nat) (z : Nat → Prop) (w w' : World) : Prop where
  os : w'.os = w.os
  tape : w'.tape = w.tape
  output : w'.output = w.output
  size : w.heap.size ≤ w'.heap.size
  blk : ∀ k, k < base → ¬ z k → w'.heap[k]? = w.heap[k]?
theorem Low.refl (base : Nat) (z : Nat → Prop) (w : World) : Low base z w w := ⟨rfl, rfl, rfl, Nat.le_refl _, fun _ _ _ => rfl⟩
theorem Low.trans {base : Nat} {z : Nat → Prop} {a b c : World} (h : Low base z a b) (k : Low base z b c) : Low base z a c := ⟨k.os.trans h.os, k.tape.trans h.tape, k.output.trans h.output, Nat.le_trans h.size k.size, fun x hx hz => (k.blk x hx hz).trans (h.blk x hx hz)⟩
theorem Low.of_upd {S : List Nat} {base : Nat} {z : Nat → Prop} {B : Nat} {w w' : World} (hB : base ≤ B) (h : Upd S w w') (hb : B ≤ w.heap.size) (hS : ∀ x, x ∈ S → B ≤ x ∨ z x) : Low base z w w' :=
  ⟨h.os, h.tape, h.output, h.size, fun k hk hz => h.block k (by omega) (fun hm => by
    rcases hS k hm with h1 | h1
    · omega
    · exact hz h1)⟩
theorem there_alloc (w : World) (cs : Array Value) (t : TypeId) (k : Nat) (h : k ≤ cs.size) : (w.alloc (.cells cs t)).there w.heap.size 0 k := fun j hj => by
  have hb : (w.alloc (.cells cs t)).heap[w.heap.size]? = some (.cells cs t (0, 0)) := heap_alloc_new w _
  refine ⟨?_, frozen_of_row _ _ _ _ _ hb⟩
  rw [cell_of_row _ _ _ _ _ _ hb, Nat.zero_add, Array.getElem?_eq_getElem (by omega)]
  rfl
theorem room_at {w : World} {sz L m B : Nat} {v : Nat → Value} {n : Nat → Nat} (h : Rs w sz L m B v n) {k : Nat} (hk : k < m) {g cap : Nat} (hv : v k = .slice (some ⟨g, 0, none⟩) (n k) cap) {i : Nat} (hi : i < n k) : w.there g (i * sz) sz := by
  have hrr := h.row k hk
  rw [hv] at hrr
  exact hrr.room hi
theorem ownG_form {w : World} {sz n : Nat} {x : Option Addr} {c g : Nat} (h : RowG w sz (.slice x n c) n) (hg : (Value.slice x n c).ownBlock = some g) : ∃ l c', (Value.slice x n c) = .slice (some ⟨g, 0, none⟩) l c' := by
  rcases h with ⟨e, _⟩ | ⟨g2, c2, e, _⟩
  · rw [e] at hg; cases hg
  · rw [e] at hg ⊢
    simp only [Value.ownBlock, Option.some.injEq] at hg
    subst hg
    exact ⟨_, _, rfl⟩
/-- Two marks of one number are the same. -/
theorem same_mark (M : Int) (w : World) : Calls Tryz.prog 18 #[.agg #[.int .u8 0, .bool false, .slice none 0 0, .string ⟨#[]⟩, .int .i64 M, .slice none 0 0, .slice none 0 0], .agg #[.int .u8 0, .bool false, .slice none 0 0, .string ⟨#[]⟩, .int .i64 M, .slice none 0 0, .slice none 0 0]] w fun e w' => e = .returned (.bool true) ∧ Upd [] w w' := by
  have hin : In w 1 [.int .u8 0, .bool false, .slice none 0 0, .string ⟨#[]⟩, .int .i64 M, .slice none 0 0, .slice none 0 0] (.mk 0 M false [] ⟨#[]⟩ [] []) := ⟨none, none, none, 0, 0, 0, rfl, Or.inl rfl, Dig.nil, Or.inl rfl, Or.inl rfl⟩
  have h := SamG_all 1 w _ _ _ _ hin hin (by simp [tsz, tszs]) (by simp [tsz, tszs])
  rw [(samT_eq _ _).2 rfl] at h
  exact h

end Go.Proofs.YtabknipgbmdipaaGreatDoor
