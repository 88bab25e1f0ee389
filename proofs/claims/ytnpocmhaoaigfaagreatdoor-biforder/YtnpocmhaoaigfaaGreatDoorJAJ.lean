/- Lists that lie apart: what holds of them while they are marked and grown. -/
import Derived.Test.YtnpocmhaoaigfaaGreatDoorJAI
import Derived.Test.YtnpocmhaoaigfaaGreatDoorJAD
import Derived.Test.YtnpocmhaoaigfaaGreatDoorJAB
import Derived.Test.YtnpocmhaoaigfaaGreatDoorJAF

namespace Go.Proofs.YtnpocmhaoaigfaaGreatDoor
open Go.RowKit

/-- Rows that are listed in block L, apart from one another. -/
structure Rs (w : World) (sz L m B : Nat) (v : Nat → Value) (n : Nat → Nat) : Prop where
  hB : B ≤ w.heap.size
  hL : L < B
  blk : ∀ j, j < m → w.cell? ⟨L, j, none⟩ = some (v j)
  row : ∀ j, j < m → RowG w sz (v j) (n j)
  own : ∀ j g, j < m → (v j).ownBlock = some g → g < B ∧ g ≠ L
  apart : ∀ i j g, i < m → j < m → i ≠ j → (v i).ownBlock = some g → (v j).ownBlock ≠ some g
theorem Rs.upd {S : List Nat} {w w' : World} {sz L m B : Nat} {v : Nat → Value} {n : Nat → Nat} (h : Rs w sz L m B v n) (hu : Upd S w w') (hS : ∀ x, x ∈ S → B ≤ x) : Rs w' sz L m B v n := by
  have hLS : L ∉ S := fun hm => by have := hS L hm; have := h.hL; omega
  refine ⟨Nat.le_trans h.hB hu.size, h.hL, fun j hj => ?_, fun j hj => (h.row j hj).upd hu (fun g hg hm => ?_), h.own, h.apart⟩
  · rw [hu.cell (p := ⟨L, j, none⟩) (Nat.lt_of_lt_of_le h.hL h.hB) hLS]; exact h.blk j hj
  · have := hS g hm; have := (h.own j g hj hg).1; omega
theorem Rs.raise {w : World} {sz L m B B' : Nat} {v : Nat → Value} {n : Nat → Nat} (h : Rs w sz L m B v n) (h1 : B ≤ B') (h2 : B' ≤ w.heap.size) : Rs w sz L m B' v n :=
  ⟨h2, Nat.lt_of_lt_of_le h.hL h1, h.blk, h.row, fun j g hj hg => ⟨Nat.lt_of_lt_of_le (h.own j g hj hg).1 h1, (h.own j g hj hg).2⟩, h.apart⟩
theorem Rs.form {w : World} {sz L m B : Nat} {v : Nat → Value} {n : Nat → Nat} (h : Rs w sz L m B v n) {k : Nat} (hk : k < m) {i : Nat} (hi : i < n k) : ∃ g cap, v k = .slice (some ⟨g, 0, none⟩) (n k) cap ∧ g < B ∧ g ≠ L := by
  rcases h.row k hk with ⟨_, h0⟩ | ⟨g, cap, hv, _⟩
  · omega
  · have := h.own k g hk (by rw [hv]; rfl)
    exact ⟨g, cap, hv, this.1, this.2⟩
/-- An element of a row is stored. -/
theorem Rs.set {w : World} {sz L m B : Nat} {v : Nat → Value} {n : Nat → Nat} (h : Rs w sz L m B v n) {k : Nat} (hk : k < m) {g cap : Nat} (hv : v k = .slice (some ⟨g, 0, none⟩) (n k) cap) (o : Nat) (vs : List Value) : Rs (w.setCells g o vs) sz L m B v n := by
  have hu := setCells_Upd w g o vs
  have hg := h.own k g hk (by rw [hv]; rfl)
  refine ⟨Nat.le_trans h.hB hu.size, h.hL, fun j hj => ?_, fun j hj => ?_, h.own, h.apart⟩
  · rw [hu.cell (p := ⟨L, j, none⟩) (Nat.lt_of_lt_of_le h.hL h.hB) (by simp; exact fun e => hg.2 e.symm)]; exact h.blk j hj
  · by_cases hjk : j = k
    · subst hjk
      have hr := h.row j hj
      rw [hv] at hr ⊢
      exact hr.set o vs
    · exact (h.row j hj).upd hu (fun g2 hg2 hm => by
        simp at hm
        subst hm
        exact h.apart j k g2 hj hk hjk hg2 (by rw [hv]; rfl))
theorem Rs.hasOther {w : World} {sz L m B p : Nat} {v : Nat → Value} {n : Nat → Nat} {C : Nat → List Value} (h : Rs w sz L m B v n) {k j : Nat} (hk : k < m) (hj : j < m) (hjk : j ≠ k) {g cap : Nat} (hv : v k = .slice (some ⟨g, 0, none⟩) (n k) cap) (o : Nat) (vs : List Value) (hh : Hs w sz (v j) p C) : Hs (w.setCells g o vs) sz (v j) p C :=
  hh.upd (h.row j hj) (setCells_Upd w g o vs) (fun g2 hg2 hm => by
    simp at hm
    subst hm
    exact h.apart j k g2 hj hk hjk hg2 (by rw [hv]; rfl))

/-- .. and what they have grown to, in block G. -/
structure Ps (w : World) (sz L G m k B : Nat) (v u : Nat → Value) (n q : Nat → Nat) (C : Nat → Nat → List Value) : Prop where
  rs : Rs w sz L m B v n
  has : ∀ j, j < m → Hs w sz (v j) (n j) (C j)
  hG : G < B ∧ G ≠ L
  gown : ∀ j, j < m → (v j).ownBlock ≠ some G
  room : w.there G 0 m
  gs : ∀ j, j < k → w.cell? ⟨G, j, none⟩ = some (u j) ∧ Hs w sz (u j) (q j) (C j)
  ugs : ∀ j, j < k → ∃ g c, u j = .slice (some ⟨g, 0, none⟩) (n j + 64) c ∧ g < B ∧ g ≠ L ∧ g ≠ G ∧ ∀ i, i < m → i ≠ j → (v i).ownBlock ≠ some g

theorem Hs.uform {S : List Nat} {w w' : World} {sz p g l c : Nat} {C : Nat → List Value} (h : Hs w sz (.slice (some ⟨g, 0, none⟩) l c) p C) (hg : g < w.heap.size) (hu : Upd S w w') (hn : g ∉ S) : Hs w' sz (.slice (some ⟨g, 0, none⟩) l c) p C := by
  intro g2 l2 c2 e i j hi hj
  simp only [Value.slice.injEq, Option.some.injEq, Addr.mk.injEq, and_true] at e
  obtain ⟨rfl, _, _⟩ := e
  rw [hu.cell (p := ⟨g, i * sz + j, none⟩) hg hn]
  exact h g l c rfl i j hi hj
/-- Something else has turned. -/
theorem Ps.far {S : List Nat} {w w' : World} {sz L G m k B : Nat} {v u : Nat → Value} {n q : Nat → Nat} {C : Nat → Nat → List Value} (h : Ps w sz L G m k B v u n q C) (hu : Upd S w w') (hS : ∀ x, x ∈ S → B ≤ x) : Ps w' sz L G m k B v u n q C := by
  have hGS : G ∉ S := fun hm => by have := hS G hm; have := h.hG.1; omega
  have hGl : G < w.heap.size := Nat.lt_of_lt_of_le h.hG.1 h.rs.hB
  refine ⟨h.rs.upd hu hS, fun j hj => (h.has j hj).upd (h.rs.row j hj) hu (fun g hg hm => ?_), h.hG, h.gown, there_upd h.room hGl hu hGS, fun j hj => ⟨?_, ?_⟩, h.ugs⟩
  · have := hS g hm; have := (h.rs.own j g hj hg).1; omega
  · rw [hu.cell (p := ⟨G, j, none⟩) hGl hGS]; exact (h.gs j hj).1
  · obtain ⟨g, c, e, h1, _⟩ := h.ugs j hj
    have hh := (h.gs j hj).2
    rw [e] at hh ⊢
    exact hh.uform (Nat.lt_of_lt_of_le h1 h.rs.hB) hu (fun hm => by have := hS g hm; omega)
/-- Row k, or what it has grown to, has grown. -/
theorem Ps.grow {w w' : World} {sz L G m k B nx g' : Nat} {x : Value} {v u : Nat → Value} {n q : Nat → Nat} {C : Nat → Nat → List Value} (h : Ps w sz L G m k B v u n q C) (hk : k < m) (hg : Grew sz w w' x nx g') (hx : ∀ g, x.ownBlock = some g → (v k).ownBlock = some g ∨ B ≤ g) (hn : n k ≤ nx)
    (hx2 : ∀ g, (v k).ownBlock = some g → x.ownBlock = some g → ∃ l c, x = .slice (some ⟨g, 0, none⟩) l c) :
    Ps w' sz L G m k B v u n q C ∧ ((v k).ownBlock = some g' ∨ B ≤ g') := by
  have hgk : (v k).ownBlock = some g' ∨ B ≤ g' := by
    rcases hg.at' with h1 | h1
    · exact hx g' h1
    · exact Or.inr (by rw [h1]; exact h.rs.hB)
  have hgL : g' ≠ L := fun e => by
    rcases hgk with h1 | h1
    · exact (h.rs.own k g' hk h1).2 e
    · have := h.rs.hL; omega
  have hgG : g' ≠ G := fun e => by
    rcases hgk with h1 | h1
    · exact h.gown k hk (by rw [h1, e])
    · have := h.hG.1; omega
  have hoth : ∀ j, j < m → j ≠ k → ∀ g, (v j).ownBlock = some g → g ≠ g' := fun j hj hjk g hgj e => by
    subst e
    rcases hgk with h1 | h1
    · exact h.rs.apart j k g hj hk hjk hgj h1
    · have := (h.rs.own j g hj hgj).1; omega
  have hu := hg.upd
  have hLl : L < w.heap.size := Nat.lt_of_lt_of_le h.rs.hL h.rs.hB
  have hGl : G < w.heap.size := Nat.lt_of_lt_of_le h.hG.1 h.rs.hB
  refine ⟨⟨⟨Nat.le_trans h.rs.hB hu.size, h.rs.hL, fun j hj => ?_, fun j hj => hg.row (h.rs.row j hj), h.rs.own, h.rs.apart⟩, fun j hj => ?_, h.hG, h.gown, there_upd h.room hGl hu (by simpa using hgG.symm), fun j hj => ⟨?_, ?_⟩, h.ugs⟩, hgk⟩
  · rw [hu.cell (p := ⟨L, j, none⟩) hLl (by simpa using hgL.symm)]; exact h.rs.blk j hj
  · by_cases hjk : j = k
    · subst hjk
      have hh := h.has j hj
      by_cases hown : (v j).ownBlock = some g'
      · rcases hg.at' with h1 | h1
        · obtain ⟨l, c, ex⟩ := hx2 g' hown h1
          intro g l2 c2 e a b ha hb
          have hgg : g = g' := by rw [e] at hown; simpa [Value.ownBlock] using hown
          subst hgg
          rw [hg.old g l c ex (a * sz + b) (by have := mul_room (sz := sz) (show a < nx by omega); omega)]
          exact hh g l2 c2 e a b ha hb
        · have := (h.rs.own j g' hj hown).1
          have := h.rs.hB
          omega
      · exact hh.upd (h.rs.row j hj) hu (fun g hgj hm => by simp at hm; subst hm; exact hown hgj)
    · exact (h.has j hj).upd (h.rs.row j hj) hu (fun g hgj hm => by simp at hm; exact hoth j hj hjk g hgj hm)
  · rw [hu.cell (p := ⟨G, j, none⟩) hGl (by simpa using hgG.symm)]; exact (h.gs j hj).1
  · obtain ⟨g, c, e, h1, h2, h3, h4⟩ := h.ugs j hj
    have hh := (h.gs j hj).2
    rw [e] at hh ⊢
    refine hh.uform (Nat.lt_of_lt_of_le h1 h.rs.hB) hu ?_
    simp only [List.mem_singleton]
    intro hgg
    subst hgg
    rcases hgk with h5 | h5
    · by_cases hjk : j = k
      · omega
      · exact h4 k hk (fun e => hjk e.symm) h5
    · omega
/-- What it has grown to is put into G. -/
theorem Ps.next {w : World} {sz L G m k B : Nat} {v u : Nat → Value} {n q : Nat → Nat} {C : Nat → Nat → List Value} (h : Ps w sz L G m k B v u n q C) (hk : k < m) {g c : Nat} (hgl : g < w.heap.size) (hgk : (v k).ownBlock = some g ∨ B ≤ g) (hh : Hs w sz (.slice (some ⟨g, 0, none⟩) (n k + 64) c) (q k) (C k)) :
    Ps (w.setCell ⟨G, k, none⟩ (.slice (some ⟨g, 0, none⟩) (n k + 64) c)) sz L G m (k + 1) w.heap.size v (fun j => if j = k then .slice (some ⟨g, 0, none⟩) (n k + 64) c else u j) n q C := by
  have hGl : G < w.heap.size := Nat.lt_of_lt_of_le h.hG.1 h.rs.hB
  have hLl : L < w.heap.size := Nat.lt_of_lt_of_le h.rs.hL h.rs.hB
  have hu : Upd [G] w (w.setCell ⟨G, k, none⟩ (.slice (some ⟨g, 0, none⟩) (n k + 64) c)) := (Upd.refl [G] w).setCell (Or.inr (by simp)) _
  have hgL : g ≠ L := fun e => by
    rcases hgk with h1 | h1
    · exact (h.rs.own k g hk h1).2 e
    · have := h.rs.hL; omega
  have hgG : g ≠ G := fun e => by
    rcases hgk with h1 | h1
    · exact h.gown k hk (by rw [h1, e])
    · have := h.hG.1; omega
  have hsz : (w.setCell ⟨G, k, none⟩ (.slice (some ⟨g, 0, none⟩) (n k + 64) c)).heap.size = w.heap.size := World.size_setCell _ _ _
  have hrow : ∀ j, j < m → ∀ x, (v j).ownBlock = some x → x ∉ [G] := fun j hj x hx hm => by simp at hm; subst hm; exact h.gown j hj hx
  refine ⟨⟨by rw [hsz]; exact Nat.le_refl _, hLl, fun j hj => ?_, fun j hj => (h.rs.row j hj).upd hu (hrow j hj), fun j x hj hx => ⟨Nat.lt_of_lt_of_le (h.rs.own j x hj hx).1 h.rs.hB, (h.rs.own j x hj hx).2⟩, h.rs.apart⟩,
    fun j hj => (h.has j hj).upd (h.rs.row j hj) hu (hrow j hj), ⟨hGl, h.hG.2⟩, h.gown, ?_, fun j hj => ?_, fun j hj => ?_⟩
  · rw [hu.cell (p := ⟨L, j, none⟩) hLl (by simp; exact h.hG.2.symm)]; exact h.rs.blk j hj
  · have : w.setCell ⟨G, k, none⟩ (.slice (some ⟨g, 0, none⟩) (n k + 64) c) = w.setCells G k [.slice (some ⟨g, 0, none⟩) (n k + 64) c] := rfl
    rw [this]
    exact there_set h.room
  · by_cases hjk : j = k
    · subst hjk
      simp only [if_true]
      refine ⟨?_, hh.uform hgl hu (by simpa using hgG)⟩
      have ht := h.room j hk
      rw [Nat.zero_add] at ht
      exact World.cell?_setCells_in G [.slice (some ⟨g, 0, none⟩) (n j + 64) c] j w (fun a ha => by simp at ha; subst ha; exact ht.1) 0 (by simp)
    · simp only [hjk, if_false]
      have hj' : j < k := by omega
      refine ⟨?_, ?_⟩
      · have : w.setCell ⟨G, k, none⟩ (.slice (some ⟨g, 0, none⟩) (n k + 64) c) = w.setCells G k [.slice (some ⟨g, 0, none⟩) (n k + 64) c] := rfl
        rw [this, World.cell?_setCells_out G _ _ _ _ (fun a _ => Or.inl (show j < k by omega))]
        exact (h.gs j hj').1
      · obtain ⟨g2, c2, e, h1, _, h3, _⟩ := h.ugs j hj'
        have hh2 := (h.gs j hj').2
        rw [e] at hh2 ⊢
        exact hh2.uform (Nat.lt_of_lt_of_le h1 h.rs.hB) hu (by simpa using h3)
  · by_cases hjk : j = k
    · subst hjk
      simp only [if_true]
      refine ⟨g, c, rfl, hgl, hgL, hgG, fun i hi hij e => ?_⟩
      rcases hgk with h1 | h1
      · exact h.rs.apart i j g hi hk hij e h1
      · have := (h.rs.own i g hi e).1; omega
    · simp only [hjk, if_false]
      obtain ⟨g2, c2, e, h1, h2, h3, h4⟩ := h.ugs j (by omega)
      exact ⟨g2, c2, e, Nat.lt_of_lt_of_le h1 h.rs.hB, h2, h3, h4⟩
/-- .. anew: no more is said of what was put there earlier. -/
theorem Ps.anew {w : World} {sz L G m k B : Nat} {v u : Nat → Value} {n q q' : Nat → Nat} {C : Nat → Nat → List Value} (h : Ps w sz L G m k B v u n q C) : Ps w sz L G m 0 B v u n q' C :=
  ⟨h.rs, h.has, h.hG, h.gown, h.room, fun j hj => by omega, fun j hj => by omega⟩
theorem Ps.raise {w : World} {sz L G m k B : Nat} {v u : Nat → Value} {n q : Nat → Nat} {C : Nat → Nat → List Value} (h : Ps w sz L G m k B v u n q C) : Ps w sz L G m k w.heap.size v u n q C :=
  ⟨h.rs.raise h.rs.hB (Nat.le_refl _), h.has, ⟨Nat.lt_of_lt_of_le h.hG.1 h.rs.hB, h.hG.2⟩, h.gown, h.room, h.gs, fun j hj => by
    obtain ⟨g, c, e, h1, h2⟩ := h.ugs j hj
    exact ⟨g, c, e, Nat.lt_of_lt_of_le h1 h.rs.hB, h2⟩⟩

/-- A store of a whole element at a step of a region that draws its order. -/
theorem step_store_mid {ops : Array Oper} {o : Oper} {a : Act} {w : World} {K : Act → World → Prop} {Q : Exit → Act → World → Prop} {E : Prop} (hgd : o.guard = none) (ty : TypeId) (x y : Operand) (ho : o.op = .store ty x y)
    (b off : Nat) (cells : Array Value) (hx : a.eval x = .pointer (some ⟨b, off, none⟩)) (hy : a.eval y = .agg cells)
    (ht : w.there b off cells.size) (hi : (Tryz.prog.info? ty).map (·.size) = some cells.size) (h1 : cells.all (·.oneCell') = true)
    (h : K (a.put o.dst undef) (w.setCells b off cells.toList)) :
    if Region.wanted o (yielded ops a.tmps) = true then Oper.wp Tryz.prog o a w K Q else E := by
  have hw : Region.wanted o (yielded ops a.tmps) = true := by simp [Region.wanted, hgd]
  rw [if_pos hw]
  exact wp_store_mid ty x y ho b off cells hx hy ht hi h1 h

/-- Elements are appended: at the list of operations. -/
theorem wpList_appendG {w : World} {ops : Array Oper} {rest : List Oper} {o : Oper} {a : Act} {Q : Exit → Act → World → Prop} (hgd : o.guard = none) (s x : Operand) (t : TypeId) (ho : o.op = .call { callee := .builtin .append, args := #[s, x], argTypes := #[t, t] })
    {e : TypeId} {i : TypeInfo} {z : Value} {sz bytes : Nat} (ht : Tryz.prog.underlying t = some (.slice e)) (hi : Tryz.prog.info? e = some i) (hz : i.zero = some z) (hsize : i.size = sz) (hby : i.bytes = bytes) (hzs : z.cells.size = sz)
    {v : Value} {n : Nat} (hs : a.eval s = v) (hr : RowG w sz v n) (ad : Addr) (m c : Nat) (news : List Value) (hx : a.eval x = .slice (some ad) m c) (hl : news.length = m * sz) (hnews : ∀ j u, news[j]? = some u → w.cell? (ad.add j) = some u) (h1 : ∀ u ∈ news, u.oneCell' = true)
    (hm : 0 < m) (h63 : n + m ≤ 1000000000000000) (hbytes : (n + m) * bytes ≤ 140737488355328)
    (h : ∀ g' cap' w', RowG w' sz (.slice (some ⟨g', 0, none⟩) (n + m) cap') (n + m) → Grew sz w w' v n g' → (∀ j, j < m * sz → w'.cell? ⟨g', n * sz + j, none⟩ = news[j]?) → wpList Tryz.prog ops Q rest (a.put o.dst (.slice (some ⟨g', 0, none⟩) (n + m) cap')) w') : wpList Tryz.prog ops Q (o :: rest) a w := by
  refine wpList_plain hgd fun K hK => ?_
  obtain ⟨g', cap', w', hrun, h2, h3, h4⟩ := run_appendG (ty := o.type) ht hi hz hsize hby hzs hr ad m c news hl hnews h1 hm h63 hbytes
  unfold Oper.wp execOp
  simp only [ho, resolve, invoke, builtin, Sem.run_bind, Sem.run_pure, Result.andThen_ok, List.map_toArray, List.map_cons, List.map_nil, hs, hx, hrun]
  exact hK _ _ (h g' cap' w' h2 h3 h4)

end Go.Proofs.YtnpocmhaoaigfaaGreatDoor

/- Trees whose rows lie each in a block of its own, with the rows of which they are made, in the order in which they are gone through. -/
namespace Go.Proofs.YtnpocmhaoaigfaaGreatDoor
open Go.RowKit

/-- A row with room behind it. -/
def RowQ (w : World) (r sz : Nat) (v : Value) (n : Nat) : Prop := RowG w sz v n ∧ (r = 0 ∨ ∃ g cap, v = .slice (some ⟨g, 0, none⟩) n cap ∧ n + r ≤ cap)
def RowBT (r : Nat) (R : List Value → Tm → List Value → List Value → Prop) (w : World) (v : Value) (I : List Tm) (LB RB : List Value) : Prop :=
  ∃ ls rs : Nat → List Value, LB = (List.range I.length).flatMap ls ∧ RB = v :: (List.range I.length).flatMap rs ∧ RowQ w r 7 v I.length ∧
    ∀ i (hi : i < I.length), ∃ cs : List Value, cs.length = 7 ∧ (∀ g l c, v = .slice (some ⟨g, 0, none⟩) l c → ∀ j, j < 7 → w.cell? ⟨g, i * 7 + j, none⟩ = cs[j]?) ∧ R cs I[i] (ls i) (rs i)
/-- The seven cells of a term whose rows have blocks of their own: LB its rows of limbs, RB its rows of terms. -/
def BT (r : Nat) (w : World) : Nat → List Value → Tm → List Value → List Value → Prop
  | 0, _, _, _, _ => False
  | d + 1, cs, .mk k num neg L s I T, LB, RB => ∃ (vl vi vt : Value) (l1 l2 r1 r2 : List Value), cs = [.int .u8 k, .bool neg, vl, .string s, .int .i64 num, vi, vt] ∧ RowQ w r 1 vl L.length ∧ RowBT r (BT r w d) w vi I l1 r1 ∧ RowBT r (BT r w d) w vt T l2 r2 ∧ LB = vl :: (l1 ++ l2) ∧ RB = r1 ++ r2

/-- The blocks of some rows. -/
def bks (l : List Value) : List Nat := l.flatMap fun v => v.ownBlock.toList
theorem mem_bks {l : List Value} {x : Nat} : x ∈ bks l ↔ ∃ v ∈ l, v.ownBlock = some x := by
  unfold bks
  simp [List.mem_flatMap]
theorem bks_append (a b : List Value) : bks (a ++ b) = bks a ++ bks b := by unfold bks; rw [List.flatMap_append]
theorem bks_cons (v : Value) (b : List Value) : bks (v :: b) = v.ownBlock.toList ++ bks b := by unfold bks; rw [List.flatMap_cons]
theorem bks_flatMap (n : Nat) (f : Nat → List Value) : bks ((List.range n).flatMap f) = (List.range n).flatMap (fun i => bks (f i)) := by unfold bks; rw [List.flatMap_assoc]
theorem mem_bks_flat {n : Nat} {f : Nat → List Value} {x : Nat} : x ∈ bks ((List.range n).flatMap f) ↔ ∃ i, i < n ∧ x ∈ bks (f i) := by
  rw [bks_flatMap]; simp [List.mem_flatMap]
/-- All these rows lie apart. -/
structure Apt (LB RB : List Value) : Prop where
  l : (bks LB).Nodup
  r : (bks RB).Nodup
  lr : ∀ x, x ∈ bks LB → x ∉ bks RB
def KB (LB RB : List Value) : List Nat := bks LB ++ bks RB
theorem mem_KB {LB RB : List Value} {x : Nat} : x ∈ KB LB RB ↔ x ∈ bks LB ∨ x ∈ bks RB := by unfold KB; rw [List.mem_append]

theorem flat_nodup {n : Nat} {f : Nat → List Nat} (h : ((List.range n).flatMap f).Nodup) {i j x : Nat} (hi : i < n) (hj : j < n) (hij : i ≠ j) (hx : x ∈ f i) : x ∉ f j := by
  intro hx2
  have h2 := (List.pairwise_flatMap.1 h).2
  rcases Nat.lt_or_gt_of_ne hij with h3 | h3
  · exact (List.pairwise_iff_getElem.1 h2 i j (by simpa using hi) (by simpa using hj) h3) x (by simpa using hx) x (by simpa using hx2) rfl
  · exact (List.pairwise_iff_getElem.1 h2 j i (by simpa using hj) (by simpa using hi) h3) x (by simpa using hx2) x (by simpa using hx) rfl
theorem flat_nodup1 {n : Nat} {f : Nat → List Nat} (h : ((List.range n).flatMap f).Nodup) {i : Nat} (hi : i < n) : (f i).Nodup := (List.pairwise_flatMap.1 h).1 i (by simpa using hi)
theorem nodup_flat {n : Nat} {f : Nat → List Nat} (h1 : ∀ i, i < n → (f i).Nodup) (h2 : ∀ i j x, i < n → j < n → i < j → x ∈ f i → x ∉ f j) : ((List.range n).flatMap f).Nodup := by
  refine List.pairwise_flatMap.2 ⟨fun a ha => h1 a (by simpa using ha), ?_⟩
  rw [List.pairwise_iff_getElem]
  intro i j hi hj hij x hx y hy e
  subst e
  simp at hi hj hx hy
  exact h2 i j x hi hj hij hx hy

theorem Apt.row {n : Nat} {ls rs : Nat → List Value} {v : Value} (h : Apt ((List.range n).flatMap ls) (v :: (List.range n).flatMap rs)) :
    (∀ i, i < n → Apt (ls i) (rs i)) ∧ (∀ i j x, i < n → j < n → i ≠ j → x ∈ KB (ls i) (rs i) → x ∉ KB (ls j) (rs j)) ∧ ∀ i x, i < n → v.ownBlock = some x → x ∉ KB (ls i) (rs i) := by
  obtain ⟨h1, h2, h3⟩ := h
  rw [bks_flatMap] at h1
  rw [bks_cons, bks_flatMap] at h2
  obtain ⟨h4, h5, h6⟩ := List.nodup_append.1 h2
  have lr : ∀ i j x, i < n → j < n → x ∈ bks (ls i) → x ∉ bks (rs j) := fun i j x hi hj hx hx2 => by
    refine h3 x ?_ ?_
    · rw [mem_bks_flat]; exact ⟨i, hi, hx⟩
    · rw [bks_cons, List.mem_append]; exact Or.inr (by rw [mem_bks_flat]; exact ⟨j, hj, hx2⟩)
  refine ⟨fun i hi => ⟨flat_nodup1 h1 hi, flat_nodup1 h5 hi, fun x hx => lr i i x hi hi hx⟩, fun i j x hi hj hij hx hx2 => ?_, fun i x hi hv hx => ?_⟩
  · rw [mem_KB] at hx hx2
    rcases hx with hx | hx
    · rcases hx2 with hx2 | hx2
      · exact flat_nodup h1 hi hj hij hx hx2
      · exact lr i j x hi hj hx hx2
    · rcases hx2 with hx2 | hx2
      · exact lr j i x hj hi hx2 hx
      · exact flat_nodup h5 hi hj hij hx hx2
  · rw [mem_KB] at hx
    rcases hx with hx | hx
    · exact h3 x (by rw [mem_bks_flat]; exact ⟨i, hi, hx⟩) (by rw [bks_cons, hv]; simp)
    · exact h6 x (by rw [hv]; simp) x (List.mem_flatMap.2 ⟨i, by simpa using hi, hx⟩) rfl
theorem Apt.of_row {n : Nat} {ls rs : Nat → List Value} {v : Value} (h1 : ∀ i, i < n → Apt (ls i) (rs i)) (h2 : ∀ i j x, i < n → j < n → i ≠ j → x ∈ KB (ls i) (rs i) → x ∉ KB (ls j) (rs j)) (h3 : ∀ i x, i < n → v.ownBlock = some x → x ∉ KB (ls i) (rs i)) :
    Apt ((List.range n).flatMap ls) (v :: (List.range n).flatMap rs) := by
  refine ⟨?_, ?_, fun x hx hx2 => ?_⟩
  · rw [bks_flatMap]
    exact nodup_flat (fun i hi => (h1 i hi).l) (fun i j x hi hj hij hx hx2 => h2 i j x hi hj (by omega) (mem_KB.2 (Or.inl hx)) (mem_KB.2 (Or.inl hx2)))
  · rw [bks_cons, bks_flatMap]
    refine List.nodup_append.2 ⟨?_, nodup_flat (fun i hi => (h1 i hi).r) (fun i j x hi hj hij hx hx2 => h2 i j x hi hj (by omega) (mem_KB.2 (Or.inr hx)) (mem_KB.2 (Or.inr hx2))), fun a ha b hb e => ?_⟩
    · cases v.ownBlock <;> simp
    · subst e
      obtain ⟨i, hi, hx⟩ := List.mem_flatMap.1 hb
      exact h3 i a (by simpa using hi) (by simpa using ha) (mem_KB.2 (Or.inr hx))
  · rw [mem_bks_flat] at hx
    obtain ⟨i, hi, hx⟩ := hx
    rw [bks_cons, List.mem_append] at hx2
    rcases hx2 with hx2 | hx2
    · exact h3 i x hi (by simpa using hx2) (mem_KB.2 (Or.inl hx))
    · rw [mem_bks_flat] at hx2
      obtain ⟨j, hj, hx2⟩ := hx2
      by_cases hij : i = j
      · subst hij
        exact (h1 i hi).lr x hx hx2
      · exact h2 i j x hi hj hij (mem_KB.2 (Or.inl hx)) (mem_KB.2 (Or.inr hx2))
theorem Apt.two {vl : Value} {l1 l2 r1 r2 : List Value} (h : Apt (vl :: (l1 ++ l2)) (r1 ++ r2)) :
    Apt l1 r1 ∧ Apt l2 r2 ∧ (∀ x, x ∈ KB l1 r1 → x ∉ KB l2 r2) ∧ ∀ x, vl.ownBlock = some x → x ∉ KB l1 r1 ∧ x ∉ KB l2 r2 := by
  obtain ⟨h1, h2, h3⟩ := h
  rw [bks_cons, bks_append] at h1
  rw [bks_append] at h2
  obtain ⟨h4, h5, h6⟩ := List.nodup_append.1 h1
  obtain ⟨h7, h8, h9⟩ := List.nodup_append.1 h5
  obtain ⟨h10, h11, h12⟩ := List.nodup_append.1 h2
  have lr : ∀ x, x ∈ bks l1 ∨ x ∈ bks l2 → x ∉ bks r1 ∧ x ∉ bks r2 := fun x hx => by
    have := h3 x (by rw [bks_cons, bks_append]; rcases hx with h | h <;> simp [h])
    rw [bks_append, List.mem_append] at this
    exact ⟨fun h => this (Or.inl h), fun h => this (Or.inr h)⟩
  refine ⟨⟨h7, h10, fun x hx => (lr x (Or.inl hx)).1⟩, ⟨h8, h11, fun x hx => (lr x (Or.inr hx)).2⟩, fun x hx hx2 => ?_, fun x hv => ?_⟩
  · rw [mem_KB] at hx hx2
    rcases hx with hx | hx <;> rcases hx2 with hx2 | hx2
    · exact h9 x hx x hx2 rfl
    · exact (lr x (Or.inl hx)).2 hx2
    · exact (lr x (Or.inr hx2)).1 hx
    · exact h12 x hx x hx2 rfl
  · have hl := h3 x (by rw [bks_cons, hv]; simp)
    rw [bks_append, List.mem_append] at hl
    refine ⟨fun hx => ?_, fun hx => ?_⟩
    · rw [mem_KB] at hx
      rcases hx with hx | hx
      · exact h6 x (by rw [hv]; simp) x (List.mem_append.2 (Or.inl hx)) rfl
      · exact hl (Or.inl hx)
    · rw [mem_KB] at hx
      rcases hx with hx | hx
      · exact h6 x (by rw [hv]; simp) x (List.mem_append.2 (Or.inr hx)) rfl
      · exact hl (Or.inr hx)
theorem Apt.of_two {vl : Value} {l1 l2 r1 r2 : List Value} (h1 : Apt l1 r1) (h2 : Apt l2 r2) (h3 : ∀ x, x ∈ KB l1 r1 → x ∉ KB l2 r2) (h4 : ∀ x, vl.ownBlock = some x → x ∉ KB l1 r1 ∧ x ∉ KB l2 r2) : Apt (vl :: (l1 ++ l2)) (r1 ++ r2) := by
  have ht : ∀ a, a ∈ vl.ownBlock.toList → vl.ownBlock = some a := fun a ha => by simpa using ha
  refine ⟨?_, ?_, fun x hx hx2 => ?_⟩
  · rw [bks_cons, bks_append]
    refine List.nodup_append.2 ⟨by cases vl.ownBlock <;> simp, List.nodup_append.2 ⟨h1.l, h2.l, fun a ha b hb e => h3 a (mem_KB.2 (Or.inl ha)) (mem_KB.2 (Or.inl (e ▸ hb)))⟩, fun a ha b hb e => ?_⟩
    subst e
    rcases List.mem_append.1 hb with hb | hb
    · exact (h4 a (ht a ha)).1 (mem_KB.2 (Or.inl hb))
    · exact (h4 a (ht a ha)).2 (mem_KB.2 (Or.inl hb))
  · rw [bks_append]
    exact List.nodup_append.2 ⟨h1.r, h2.r, fun a ha b hb e => h3 a (mem_KB.2 (Or.inr ha)) (mem_KB.2 (Or.inr (e ▸ hb)))⟩
  · rw [bks_cons, bks_append, List.mem_append, List.mem_append] at hx
    rw [bks_append, List.mem_append] at hx2
    rcases hx with hx | hx | hx <;> rcases hx2 with hx2 | hx2
    · exact (h4 x (ht x hx)).1 (mem_KB.2 (Or.inr hx2))
    · exact (h4 x (ht x hx)).2 (mem_KB.2 (Or.inr hx2))
    · exact h1.lr x hx hx2
    · exact h3 x (mem_KB.2 (Or.inl hx)) (mem_KB.2 (Or.inr hx2))
    · exact h3 x (mem_KB.2 (Or.inr hx2)) (mem_KB.2 (Or.inl hx))
    · exact h2.lr x hx hx2

theorem RowQ.upd {S : List Nat} {w w' : World} {r sz n : Nat} {v : Value} (h : RowQ w r sz v n) (hu : Upd S w w') (hn : ∀ g, v.ownBlock = some g → g ∉ S) : RowQ w' r sz v n := ⟨h.1.upd hu hn, h.2⟩
theorem RowBT.upd {r : Nat} {R R' : List Value → Tm → List Value → List Value → Prop} {S : List Nat} {w w' : World} {v : Value} {I : List Tm} {LB RB : List Value} (h : RowBT r R w v I LB RB) (hu : Upd S w w') (hn : ∀ x, x ∈ KB LB RB → x ∉ S)
    (hR : ∀ cs t l q, (∀ x, x ∈ KB l q → x ∉ S) → R cs t l q → R' cs t l q) : RowBT r R' w' v I LB RB := by
  obtain ⟨ls, rs, rfl, rfl, h3, h4⟩ := h
  have hv : ∀ g, v.ownBlock = some g → g ∉ S := fun g hg => hn g (mem_KB.2 (Or.inr (by rw [bks_cons, hg]; simp)))
  refine ⟨ls, rs, rfl, rfl, h3.upd hu hv, fun i hi => ?_⟩
  obtain ⟨cs, k1, k2, k3⟩ := h4 i hi
  refine ⟨cs, k1, fun g l c e j hj => ?_, hR _ _ _ _ (fun x hx => hn x ?_) k3⟩
  · have hg : v.ownBlock = some g := by rw [e]; rfl
    rw [hu.cell (p := ⟨g, i * 7 + j, none⟩) (h3.1.lt g hg) (hv g hg)]
    exact k2 g l c e j hj
  · rw [mem_KB] at hx ⊢
    rcases hx with hx | hx
    · exact Or.inl (mem_bks_flat.2 ⟨i, hi, hx⟩)
    · exact Or.inr (by rw [bks_cons, List.mem_append]; exact Or.inr (mem_bks_flat.2 ⟨i, hi, hx⟩))
theorem KB_two {vl : Value} {l1 l2 r1 r2 : List Value} {x : Nat} : x ∈ KB (vl :: (l1 ++ l2)) (r1 ++ r2) ↔ vl.ownBlock = some x ∨ x ∈ KB l1 r1 ∨ x ∈ KB l2 r2 := by
  simp only [mem_KB, bks_cons, bks_append, List.mem_append, Option.mem_toList]
  constructor
  · rintro ((h | h | h) | h | h)
    · exact Or.inl h
    · exact Or.inr (Or.inl (Or.inl h))
    · exact Or.inr (Or.inr (Or.inl h))
    · exact Or.inr (Or.inl (Or.inr h))
    · exact Or.inr (Or.inr (Or.inr h))
  · rintro (h | (h | h) | (h | h))
    · exact Or.inl (Or.inl h)
    · exact Or.inl (Or.inr (Or.inl h))
    · exact Or.inr (Or.inl h)
    · exact Or.inl (Or.inr (Or.inr h))
    · exact Or.inr (Or.inr h)
theorem KB_row {n : Nat} {ls rs : Nat → List Value} {v : Value} {x : Nat} : x ∈ KB ((List.range n).flatMap ls) (v :: (List.range n).flatMap rs) ↔ v.ownBlock = some x ∨ ∃ i, i < n ∧ x ∈ KB (ls i) (rs i) := by
  simp only [mem_KB, bks_cons, List.mem_append, Option.mem_toList, mem_bks_flat]
  constructor
  · rintro (⟨i, hi, h⟩ | h | ⟨i, hi, h⟩)
    · exact Or.inr ⟨i, hi, Or.inl h⟩
    · exact Or.inl h
    · exact Or.inr ⟨i, hi, Or.inr h⟩
  · rintro (h | ⟨i, hi, h | h⟩)
    · exact Or.inr (Or.inl h)
    · exact Or.inl ⟨i, hi, h⟩
    · exact Or.inr (Or.inr ⟨i, hi, h⟩)
theorem BT.upd {r : Nat} {S : List Nat} {w w' : World} (hu : Upd S w w') : ∀ (d : Nat) (cs : List Value) (t : Tm) (LB RB : List Value), (∀ x, x ∈ KB LB RB → x ∉ S) → BT r w d cs t LB RB → BT r w' d cs t LB RB := by
  intro d
  induction d with
  | zero => intro cs t LB RB _ h; exact h.elim
  | succ d ih =>
    intro cs t LB RB hn h
    cases t with
    | mk k num neg L s I T =>
      obtain ⟨vl, vi, vt, l1, l2, r1, r2, rfl, h1, h2, h3, rfl, rfl⟩ := h
      refine ⟨vl, vi, vt, l1, l2, r1, r2, rfl, h1.upd hu (fun g hg => hn g (KB_two.2 (Or.inl hg))), h2.upd hu (fun x hx => hn x (KB_two.2 (Or.inr (Or.inl hx)))) (fun cs t l q hx hR => ih cs t l q hx hR), h3.upd hu (fun x hx => hn x (KB_two.2 (Or.inr (Or.inr hx)))) (fun cs t l q hx hR => ih cs t l q hx hR), rfl, rfl⟩
theorem RowBT.lt {r d : Nat} {w : World} (ih : ∀ cs t LB RB, BT r w d cs t LB RB → ∀ x, x ∈ KB LB RB → x < w.heap.size) {v : Value} {I : List Tm} {LB RB : List Value} (h : RowBT r (BT r w d) w v I LB RB) : ∀ x, x ∈ KB LB RB → x < w.heap.size := by
  obtain ⟨ls, rs, rfl, rfl, h3, h4⟩ := h
  intro x hx
  rcases KB_row.1 hx with hx | ⟨i, hi, hx⟩
  · exact h3.1.lt x hx
  · obtain ⟨cs, _, _, k3⟩ := h4 i hi
    exact ih _ _ _ _ k3 x hx
theorem BT.lt {r : Nat} {w : World} : ∀ (d : Nat) (cs : List Value) (t : Tm) (LB RB : List Value), BT r w d cs t LB RB → ∀ x, x ∈ KB LB RB → x < w.heap.size := by
  intro d
  induction d with
  | zero => intro cs t LB RB h; exact h.elim
  | succ d ih =>
    intro cs t LB RB h x hx
    cases t with
    | mk k num neg L s I T =>
      obtain ⟨vl, vi, vt, l1, l2, r1, r2, rfl, h1, h2, h3, rfl, rfl⟩ := h
      rcases KB_two.1 hx with hx | hx | hx
      · exact h1.1.lt x hx
      · exact h2.lt ih x hx
      · exact h3.lt ih x hx
theorem BT.seven {r : Nat} {w : World} {d : Nat} {cs : List Value} {t : Tm} {LB RB : List Value} (h : BT r w d cs t LB RB) : cs.length = 7 := by
  cases d with
  | zero => exact h.elim
  | succ d =>
    cases t with
    | mk k num neg L s I T =>
      obtain ⟨vl, vi, vt, l1, l2, r1, r2, rfl, _⟩ := h
      rfl

end Go.Proofs.YtnpocmhaoaigfaaGreatDoor

/- Rows that are cloned one by one: each is named in one place alone. -/
namespace Go.Proofs.YtnpocmhaoaigfaaGreatDoor
open Go.RowKit

/-- The places above a block. -/
inductive Anc (par : Nat → Nat × Nat) : Nat → Nat × Nat → Prop
  | here (x : Nat) (h : (par x).1 < x) : Anc par x (par x)
  | up (x : Nat) (p : Nat × Nat) (h : (par x).1 < x) (k : Anc par (par x).1 p) : Anc par x p
theorem Anc.lt {par : Nat → Nat × Nat} {x : Nat} {p : Nat × Nat} (h : Anc par x p) : p.1 < x := by
  induction h with
  | here x h => exact h
  | up x p h _ ih => omega
theorem Anc.one {par : Nat → Nat × Nat} {x : Nat} {p : Nat × Nat} (h : Anc par x p) : ∀ {q : Nat × Nat}, Anc par x q → p.1 = q.1 → p = q := by
  induction h with
  | here x h =>
    intro q hq e
    cases hq with
    | here => rfl
    | up _ _ _ k => have := k.lt; omega
  | up x p h k ih =>
    intro q hq e
    cases hq with
    | here => have := k.lt; omega
    | up _ _ _ k2 => exact ih k2 e
theorem Anc.trans {par : Nat → Nat × Nat} {x : Nat} {p q : Nat × Nat} (h : Anc par x p) : Anc par p.1 q → Anc par x q := by
  induction h with
  | here x h => exact fun k => .up x q h k
  | up x p h _ ih => exact fun k => .up x q h (ih k)
theorem Anc.of_par {par : Nat → Nat × Nat} {x : Nat} {p : Nat × Nat} (h : par x = p) (hl : p.1 < x) : Anc par x p := by
  subst h
  exact .here x hl

/-- What stands in a place where a clone has been put. -/
def Good (lo bd : Nat) (NR : Nat → Nat → Prop) (par : Nat → Nat × Nat) (wr : World) (g p : Nat) : Prop :=
  ∃ a n c, wr.cell? ⟨g, p, none⟩ = some (.slice a n c) ∧ ((a = none ∧ n = 0 ∧ c = 0) ∨ ∃ g', a = some ⟨g', 0, none⟩ ∧ (lo ≤ g' ∧ g' < bd) ∧ g < g' ∧ par g' = (g, p) ∧ n ≤ c ∧ c ≤ maxLen ∧
    ((p % 7 = 2 ∧ ∃ cur, wr.heap[g']? = some (.cells cur 61 (0, 0)) ∧ cur.size = c) ∨ (p % 7 ≠ 2 ∧ NR g' n ∧ ∃ cur, wr.heap[g']? = some (.cells cur 26 (0, 0)) ∧ cur.size = c * 7)))
/-- How far rows have been cloned: W the places that are still to be gone through. -/
structure Sq (lo bd : Nat) (NR : Nat → Nat → Prop) (par : Nat → Nat × Nat) (W : Nat → Nat → Prop) (wr : World) : Prop where
  one : ∀ g n m, NR g n → NR g m → n = m
  bdw : bd ≤ wr.heap.size
  low : ∀ g n, NR g n → lo ≤ g ∧ g < bd
  pos : ∀ g n p, NR g n → p < n * 7 → (p % 7 = 2 ∨ p % 7 = 5 ∨ p % 7 = 6) → W g p ∨ Good lo bd NR par wr g p
theorem Sq.less {lo bd : Nat} {NR : Nat → Nat → Prop} {par : Nat → Nat × Nat} {W W' : Nat → Nat → Prop} {wr : World} (h : Sq lo bd NR par W wr) (hW : ∀ g n p, NR g n → p < n * 7 → (p % 7 = 2 ∨ p % 7 = 5 ∨ p % 7 = 6) → W g p → W' g p) : Sq lo bd NR par W' wr :=
  ⟨h.one, h.bdw, h.low, fun g n p hg hp hm => (h.pos g n p hg hp hm).imp (hW g n p hg hp hm) id⟩
/-- A step that keeps rows. -/
structure KeepR (w w' : World) : Prop where
  size : w.heap.size ≤ w'.heap.size
  blk : ∀ (g : Nat) (cur : Array Value) (T : TypeId), w.heap[g]? = some (.cells cur T (0, 0)) → (T = 26 ∨ T = 61) → w'.heap[g]? = some (.cells cur T (0, 0))
theorem KeepR.upd {S : List Nat} {w w' : World} (hu : Upd S w w') (hS : ∀ x ∈ S, ∃ cur T fr, w.heap[x]? = some (.cells cur T fr) ∧ T ≠ 26 ∧ T ≠ 61) : KeepR w w' :=
  ⟨hu.size, fun g cur T hg hT => (hu.block g (lt_of_block hg) (fun hm => by
    obtain ⟨cur', T', fr, hh, h1, h2⟩ := hS g hm
    rw [hh] at hg
    simp at hg
    rcases hT with h | h
    · exact h1 (hg.2.1.trans h)
    · exact h2 (hg.2.1.trans h))).trans hg⟩
theorem KeepR.new {w w' : World} (hu : Upd [] w w') : KeepR w w' := KeepR.upd hu (by simp)
theorem Sq.keep {lo bd : Nat} {NR : Nat → Nat → Prop} {par : Nat → Nat × Nat} {W : Nat → Nat → Prop} {w w' : World} (h : Sq lo bd NR par W w) (hT : ∀ g n, NR g n → ∃ cur, w.heap[g]? = some (.cells cur 26 (0, 0))) (k : KeepR w w') : Sq lo bd NR par W w' := by
  refine ⟨h.one, Nat.le_trans h.bdw k.size, h.low, fun g n p hg hp hm => ?_⟩
  rcases h.pos g n p hg hp hm with h1 | ⟨a, m, c, hc, h2⟩
  · exact Or.inl h1
  · refine Or.inr ⟨a, m, c, ?_, ?_⟩
    · obtain ⟨cur, hcur⟩ := hT g n hg
      rw [cell_of_row w' g p _ _ _ (k.blk g cur _ hcur (Or.inl rfl)), ← cell_of_row w g p _ _ _ hcur]
      exact hc
    · rcases h2 with h2 | ⟨g', e, h3, h4, h5, h6, h7, ⟨h8, cur, h9, h10⟩ | ⟨h8, h11, cur, h9, h10⟩⟩
      · exact Or.inl h2
      · exact Or.inr ⟨g', e, h3, h4, h5, h6, h7, Or.inl ⟨h8, cur, k.blk g' cur _ h9 (Or.inr rfl), h10⟩⟩
      · exact Or.inr ⟨g', e, h3, h4, h5, h6, h7, Or.inr ⟨h8, h11, cur, k.blk g' cur _ h9 (Or.inl rfl), h10⟩⟩

/-- A clone is put into its place. -/
theorem Sq.put {lo bd bs : Nat} {NR : Nat → Nat → Prop} {par : Nat → Nat × Nat} {W W' : Nat → Nat → Prop} {w : World} {g p n T sz : Nat} {v : Value} {cur : Array Value} {xs : List Value} (h : Sq lo bd NR par W w)
    (hg : w.heap[g]? = some (.cells cur 26 (0, 0))) (hp : (w.cell? ⟨g, p, none⟩).isSome = true) (hgb : g < bs) (hlo : lo ≤ bs) (hbs : bd ≤ bs)
    (ho : w.ownsRow bs T sz v n xs) (hT : (p % 7 = 2 ∧ T = 61 ∧ sz = 1) ∨ (p % 7 ≠ 2 ∧ T = 26 ∧ sz = 7))
    (hW : ∀ x q, W x q → ¬ (x = g ∧ q = p) → W' x q) (hW2 : p % 7 ≠ 2 → 0 < n → ∀ x q, v.ownBlock = some x → W' x q) :
    ∃ NR' par', (∀ x m, NR x m → NR' x m) ∧ (∀ x m, NR' x m → NR x m ∨ (p % 7 ≠ 2 ∧ v.ownBlock = some x ∧ m = n)) ∧ (∀ x, p % 7 ≠ 2 → v.ownBlock = some x → NR' x n) ∧ Sq lo w.heap.size NR' par' W' (w.setCell ⟨g, p, none⟩ v) := by
  have hsz : (w.setCell ⟨g, p, none⟩ v).heap.size = w.heap.size := by simp
  have hcs : ∀ (x : Nat) (cu : Array Value) (T' : TypeId), w.heap[x]? = some (.cells cu T' (0, 0)) → ∃ cu', (w.setCell ⟨g, p, none⟩ v).heap[x]? = some (.cells cu' T' (0, 0)) ∧ cu'.size = cu.size := fun x cu T' hx => by
    by_cases hxg : x = g
    · subst hxg
      rw [hg] at hx
      simp at hx
      obtain ⟨rfl, rfl⟩ := hx
      exact ⟨_, heap_setCell_same w x p _ _ _ hg, by simp⟩
    · exact ⟨cu, (heap_setCell_other _ _ _ _ (fun e => hxg e)).trans hx, rfl⟩
  have hcp : (w.setCell ⟨g, p, none⟩ v).cell? ⟨g, p, none⟩ = some v := by
    obtain ⟨u, hu⟩ := Option.isSome_iff_exists.1 hp
    exact cell_same hu
  have hco : ∀ x q, ¬ (x = g ∧ q = p) → (w.setCell ⟨g, p, none⟩ v).cell? ⟨x, q, none⟩ = w.cell? ⟨x, q, none⟩ := fun x q hne => cell_other (fun e => hne (by simp only [Addr.mk.injEq] at e; exact ⟨e.1.symm, e.2.1.symm⟩))
  have h' := ho
  obtain ⟨_, ⟨rfl, rfl⟩ | ⟨gv, cap, cu, rfl, hbv, hh, hc1, hc2, hc3, _⟩⟩ := ho
  · -- nothing
    refine ⟨NR, par, fun _ _ h => h, fun _ _ h => Or.inl h, fun x _ hx => (by cases hx), h.one, by rw [hsz]; exact Nat.le_refl _, fun x m hx => ⟨(h.low x m hx).1, Nat.lt_of_lt_of_le (h.low x m hx).2 h.bdw⟩, fun x m q hx hq hm => ?_⟩
    by_cases hxp : x = g ∧ q = p
    · obtain ⟨rfl, rfl⟩ := hxp
      exact Or.inr ⟨none, 0, 0, hcp, Or.inl ⟨rfl, rfl, rfl⟩⟩
    · rcases h.pos x m q hx hq hm with h1 | ⟨a, k, c, hc, h2⟩
      · exact Or.inl (hW x q h1 hxp)
      · refine Or.inr ⟨a, k, c, (hco x q hxp).trans hc, ?_⟩
        rcases h2 with h2 | ⟨g', e, h3, h4, h5, h6, h7, ⟨h8, cur2, h9, h10⟩ | ⟨h8, h11, cur2, h9, h10⟩⟩
        · exact Or.inl h2
        · obtain ⟨cu', k1, k2⟩ := hcs _ _ _ h9
          exact Or.inr ⟨g', e, ⟨h3.1, Nat.lt_of_lt_of_le h3.2 h.bdw⟩, h4, h5, h6, h7, Or.inl ⟨h8, cu', k1, k2.trans h10⟩⟩
        · obtain ⟨cu', k1, k2⟩ := hcs _ _ _ h9
          exact Or.inr ⟨g', e, ⟨h3.1, Nat.lt_of_lt_of_le h3.2 h.bdw⟩, h4, h5, h6, h7, Or.inr ⟨h8, h11, cu', k1, k2.trans h10⟩⟩
  · have hgvlt := lt_of_block hh
    obtain ⟨cu', hk1, hk2⟩ := hcs _ _ _ hh
    refine ⟨fun x m => NR x m ∨ (p % 7 ≠ 2 ∧ x = gv ∧ m = n), fun x => if x = gv then (g, p) else par x, fun _ _ h => Or.inl h, fun x m hx => hx.imp id (fun ⟨e1, e2, e3⟩ => ⟨e1, by rw [e2]; rfl, e3⟩), fun x hx e => Or.inr ⟨hx, by simpa [Value.ownBlock] using e.symm, rfl⟩, fun x m m' hx hx' => ?_, by rw [hsz]; exact Nat.le_refl _, fun x m hx => ?_, fun x m q hx hq hm => ?_⟩
    · rcases hx with hx | ⟨_, rfl, rfl⟩ <;> rcases hx' with hx' | ⟨_, e, rfl⟩
      · exact h.one x m m' hx hx'
      · have := (h.low x m hx).2; omega
      · have := (h.low _ _ hx').2; omega
      · rfl
    · rcases hx with hx | ⟨_, rfl, rfl⟩
      · exact ⟨(h.low x m hx).1, Nat.lt_of_lt_of_le (h.low x m hx).2 h.bdw⟩
      · exact ⟨by omega, hgvlt⟩
    · by_cases hxp : x = g ∧ q = p
      · obtain ⟨rfl, rfl⟩ := hxp
        refine Or.inr ⟨some ⟨gv, 0, none⟩, n, cap, hcp, Or.inr ⟨gv, rfl, ⟨by omega, hgvlt⟩, by omega, by simp, hc1, hc2, ?_⟩⟩
        rcases hT with ⟨hT1, rfl, rfl⟩ | ⟨hT1, rfl, rfl⟩
        · exact Or.inl ⟨hT1, cu', hk1, by rw [hk2, hc3]; omega⟩
        · exact Or.inr ⟨hT1, Or.inr ⟨hT1, rfl, rfl⟩, cu', hk1, by rw [hk2, hc3]⟩
      · rcases hx with hx | ⟨hne, rfl, rfl⟩
        · rcases h.pos x m q hx hq hm with h1 | hgd
          · exact Or.inl (hW x q h1 hxp)
          · obtain ⟨a, k, c, hc, h2⟩ := hgd
            refine Or.inr ⟨a, k, c, (hco x q hxp).trans hc, ?_⟩
            rcases h2 with h2 | ⟨g', e, h3, h4, h5, h6, h7, ⟨h8, cur2, h9, h10⟩ | ⟨h8, h11, cur2, h9, h10⟩⟩
            · exact Or.inl h2
            · obtain ⟨cu2, k1, k2⟩ := hcs _ _ _ h9
              exact Or.inr ⟨g', e, ⟨h3.1, Nat.lt_of_lt_of_le h3.2 h.bdw⟩, h4, (show (if g' = gv then (g, p) else par g') = _ by rw [if_neg (show ¬ g' = gv by have := h3.2; omega)]; exact h5), h6, h7, Or.inl ⟨h8, cu2, k1, k2.trans h10⟩⟩
            · obtain ⟨cu2, k1, k2⟩ := hcs _ _ _ h9
              exact Or.inr ⟨g', e, ⟨h3.1, Nat.lt_of_lt_of_le h3.2 h.bdw⟩, h4, (show (if g' = gv then (g, p) else par g') = _ by rw [if_neg (show ¬ g' = gv by have := h3.2; omega)]; exact h5), h6, h7, Or.inr ⟨h8, Or.inl h11, cu2, k1, k2.trans h10⟩⟩
        · exact Or.inl (hW2 hne (by omega) _ _ rfl)

/-- What has been cloned lies apart. -/
theorem Sq.row {lo bd : Nat} {NR : Nat → Nat → Prop} {par : Nat → Nat × Nat} {wr : World} {P : Nat → Prop} (h : Sq lo bd NR par (fun _ _ => False) wr) : ∀ (d : Nat) (g c : Nat) (I : List Tm), (I ≠ [] → NR g I.length) → RowG wr 7 (.slice (some ⟨g, 0, none⟩) I.length c) I.length → RowB P (InB P wr d) wr (some ⟨g, 0, none⟩) I →
    ∃ LB RB, RowBT 0 (BT 0 wr d) wr (.slice (some ⟨g, 0, none⟩) I.length c) I LB RB ∧ Apt LB RB ∧ ∀ x, x ∈ KB LB RB → x = g ∨ ∃ p, Anc par x (g, p) := by
  intro d
  induction d with
  | zero =>
    intro g c I hN hG hR
    have hI : I = [] := by
      rcases hR with h0 | ⟨b, o, _, _, _, hc⟩
      · exact h0
      · cases I with
        | nil => rfl
        | cons t r => obtain ⟨_, _, _, h3⟩ := hc 0 (by simp); exact h3.elim
    subst hI
    refine ⟨[], [.slice (some ⟨g, 0, none⟩) 0 c], ⟨fun _ => [], fun _ => [], rfl, rfl, ⟨hG, Or.inl rfl⟩, fun i hi => by simp at hi⟩, ⟨by simp [bks], by simp [bks, Value.ownBlock], by simp [bks]⟩, fun x hx => ?_⟩
    simp [KB, bks, Value.ownBlock] at hx
    exact Or.inl hx
  | succ d ih =>
    intro g c I hN hG hR
    -- each kid
    have kid : ∀ i (hi : i < I.length), ∃ (cs l r : List Value), cs.length = 7 ∧ (∀ j, j < 7 → wr.cell? ⟨g, i * 7 + j, none⟩ = cs[j]?) ∧ BT 0 wr (d + 1) cs I[i] l r ∧ Apt l r ∧ ∀ x, x ∈ KB l r → ∃ p, i * 7 ≤ p ∧ p < i * 7 + 7 ∧ Anc par x (g, p) := by
      intro i hi
      have hNg := hN (fun e => by rw [e] at hi; simp at hi)
      rcases hR with h0 | ⟨b, o, e, _, _, hc⟩
      · rw [h0] at hi; simp at hi
      simp only [Option.some.injEq, Addr.mk.injEq] at e
      obtain ⟨rfl, rfl, _⟩ := e
      obtain ⟨cs, k1, k2, k3⟩ := hc i hi
      have kc : ∀ j, j < 7 → wr.cell? ⟨g, i * 7 + j, none⟩ = cs[j]? := fun j hj => by have := k2 j hj; rw [Nat.zero_add] at this; exact this
      have good : ∀ f, f = 2 ∨ f = 5 ∨ f = 6 → Good lo bd NR par wr g (i * 7 + f) := fun f hf => by
        have hm := mul_room (sz := 7) hi
        have := h.pos g I.length (i * 7 + f) hNg (by omega) (by omega)
        exact this.elim False.elim id
      generalize hte : I[i] = te at k3
      cases te with
      | mk k num neg L s I' T' =>
        obtain ⟨a, ai, at', cl, ci, ct, rfl, q1, q2, q3, q4⟩ := k3
        -- limbs
        obtain ⟨a1, n1, c1, e1, g1⟩ := good 2 (Or.inl rfl)
        rw [kc 2 (by omega)] at e1
        simp only [List.getElem?_cons_succ, List.getElem?_cons_zero, Option.some.injEq, Value.slice.injEq] at e1
        obtain ⟨rfl, rfl, rfl⟩ := e1
        have hl : RowQ wr 0 1 (.slice a L.length cl) L.length ∧ ∀ x, (Value.slice a L.length cl).ownBlock = some x → Anc par x (g, i * 7 + 2) := by
          rcases g1 with ⟨rfl, h1, rfl⟩ | ⟨g', rfl, h1, h2, h3, h4, h5, ⟨h6, cur, h7, h8⟩ | ⟨h6, _⟩⟩
          · rw [h1]; exact ⟨⟨Or.inl ⟨rfl, rfl⟩, Or.inl rfl⟩, fun x hx => by cases hx⟩
          · refine ⟨⟨Or.inr ⟨g', cl, rfl, lt_of_block h7, h4, h5, fun j hj => ?_⟩, Or.inl rfl⟩, fun x hx => ?_⟩
            · refine ⟨?_, frozen_of_row _ _ _ _ _ h7⟩
              rw [cell_of_row _ _ _ _ _ _ h7, Array.getElem?_eq_getElem (by omega)]; rfl
            · simp only [Value.ownBlock, Option.some.injEq] at hx
              subst hx
              exact Anc.of_par h3 h2
          · omega
        -- rows
        have sub : ∀ f (hf : f = 5 ∨ f = 6) (a2 : Option Addr) (c2 : Nat) (I2 : List Tm), wr.cell? ⟨g, i * 7 + f, none⟩ = some (.slice a2 I2.length c2) → RowB P (InB P wr d) wr a2 I2 → ∃ LB RB, RowBT 0 (BT 0 wr d) wr (.slice a2 I2.length c2) I2 LB RB ∧ Apt LB RB ∧ ∀ x, x ∈ KB LB RB → Anc par x (g, i * 7 + f) := by
          intro f hf a2 c2 I2 hcell hrow
          obtain ⟨a3, n3, c3, e3, g3⟩ := good f (Or.inr hf)
          rw [hcell] at e3
          simp only [Option.some.injEq, Value.slice.injEq] at e3
          obtain ⟨rfl, rfl, rfl⟩ := e3
          rcases g3 with ⟨rfl, h1, rfl⟩ | ⟨g', rfl, h1, h2, h3, h4, h5, ⟨h6, _⟩ | ⟨h6, h7, cur, h8, h9⟩⟩
          · have hI2 : I2 = [] := List.eq_nil_of_length_eq_zero h1
            subst hI2
            refine ⟨[], [.slice none 0 0], ⟨fun _ => [], fun _ => [], rfl, rfl, ⟨Or.inl ⟨rfl, rfl⟩, Or.inl rfl⟩, fun i hi => by simp at hi⟩, ⟨by simp [bks], by simp [bks, Value.ownBlock], by simp [bks]⟩, fun x hx => ?_⟩
            simp [KB, bks, Value.ownBlock] at hx
          · omega
          · have hG2 : RowG wr 7 (.slice (some ⟨g', 0, none⟩) I2.length c2) I2.length := by
              refine Or.inr ⟨g', c2, rfl, lt_of_block h8, h4, h5, fun j hj => ?_⟩
              refine ⟨?_, frozen_of_row _ _ _ _ _ h8⟩
              rw [cell_of_row _ _ _ _ _ _ h8, Array.getElem?_eq_getElem (by omega)]; rfl
            obtain ⟨LB, RB, b1, b2, b3⟩ := ih g' c2 I2 (fun _ => h7) hG2 hrow
            refine ⟨LB, RB, b1, b2, fun x hx => ?_⟩
            rcases b3 x hx with rfl | ⟨p, hp⟩
            · exact Anc.of_par h3 h2
            · exact Anc.trans hp (Anc.of_par h3 h2)
        obtain ⟨l1, r1, i1, i2, i3⟩ := sub 5 (Or.inl rfl) ai ci I' (kc 5 (by omega)) q3
        obtain ⟨l2, r2, t1, t2, t3⟩ := sub 6 (Or.inr rfl) at' ct T' (kc 6 (by omega)) q4
        refine ⟨_, .slice a L.length cl :: (l1 ++ l2), r1 ++ r2, k1, kc, ⟨.slice a L.length cl, .slice ai I'.length ci, .slice at' T'.length ct, l1, l2, r1, r2, rfl, hl.1, i1, t1, rfl, rfl⟩, ?_, fun x hx => ?_⟩
        · refine Apt.of_two i2 t2 (fun x h1 h2 => ?_) (fun x hx => ⟨fun h1 => ?_, fun h1 => ?_⟩)
          · have := (i3 x h1).one (t3 x h2) rfl; simp at this
          · have := (hl.2 x hx).one (i3 x h1) rfl; simp at this
          · have := (hl.2 x hx).one (t3 x h1) rfl; simp at this
        · rcases KB_two.1 hx with hx | hx | hx
          · exact ⟨_, by omega, by omega, hl.2 x hx⟩
          · exact ⟨_, by omega, by omega, i3 x hx⟩
          · exact ⟨_, by omega, by omega, t3 x hx⟩
    have kid2 : ∀ i, ∃ (l r : List Value), ∀ (hi : i < I.length), ∃ cs : List Value, cs.length = 7 ∧ (∀ j, j < 7 → wr.cell? ⟨g, i * 7 + j, none⟩ = cs[j]?) ∧ BT 0 wr (d + 1) cs I[i] l r ∧ Apt l r ∧ ∀ x, x ∈ KB l r → ∃ p, i * 7 ≤ p ∧ p < i * 7 + 7 ∧ Anc par x (g, p) := by
      intro i
      by_cases hi : i < I.length
      · obtain ⟨cs, l, r, h1, h2, h3, h4, h5⟩ := kid i hi
        exact ⟨l, r, fun _ => ⟨cs, h1, h2, h3, h4, h5⟩⟩
      · exact ⟨[], [], fun h => absurd h hi⟩
    obtain ⟨ls, hls⟩ := Classical.axiomOfChoice kid2
    obtain ⟨rs, hrs⟩ := Classical.axiomOfChoice hls
    refine ⟨_, _, ⟨ls, rs, rfl, rfl, ⟨hG, Or.inl rfl⟩, fun i hi => ?_⟩, ?_, fun x hx => ?_⟩
    · obtain ⟨cs, h1, h2, h3, _⟩ := hrs i hi
      refine ⟨cs, h1, fun g2 l2 c2 e => ?_, h3⟩
      simp only [Value.slice.injEq, Option.some.injEq, Addr.mk.injEq, and_true] at e
      obtain ⟨rfl, _, _⟩ := e
      exact h2
    · refine Apt.of_row (fun i hi => ?_) (fun i j x hi hj hij h1 h2 => ?_) (fun i x hi hx h1 => ?_)
      · obtain ⟨_, _, _, _, h4, _⟩ := hrs i hi; exact h4
      · obtain ⟨_, _, _, _, _, h5⟩ := hrs i hi
        obtain ⟨_, _, _, _, _, h6⟩ := hrs j hj
        obtain ⟨p, p1, p2, p3⟩ := h5 x h1
        obtain ⟨q, q1, q2, q3⟩ := h6 x h2
        have := p3.one q3 rfl
        simp only [Prod.mk.injEq, true_and] at this
        omega
      · obtain ⟨_, _, _, _, _, h5⟩ := hrs i hi
        obtain ⟨p, _, _, p3⟩ := h5 x h1
        have := p3.lt
        simp only [Value.ownBlock, Option.some.injEq] at hx
        simp only at this
        omega
    · rcases KB_row.1 hx with hx | ⟨i, hi, hx⟩
      · simp only [Value.ownBlock, Option.some.injEq] at hx
        exact Or.inl hx.symm
      · obtain ⟨_, _, _, _, _, h5⟩ := hrs i hi
        obtain ⟨p, _, _, p3⟩ := h5 x hx
        exact Or.inr ⟨p, p3⟩

end Go.Proofs.YtnpocmhaoaigfaaGreatDoor
