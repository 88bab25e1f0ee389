/- Lists that lie apart: what holds of them while they are marked and grown. -/
import Derived.Test.YtpojkmpimnnjiaaGreatBgB
namespace Go.Proofs.YtpojkmpimnnjiaaGreat
open Go.RowKit

/-- Rows that are listed in block L, apart from one another. -/
structure Rs (w : World) (sz L m B : Nat) (v : Nat → Value) (n : Nat → Nat) : Prop where
  hB : B ≤ w.heap.size
  hL : L < B
  blk : ∀ j, j < m → w.cell? ⟨L, j, none⟩ = some (v j)
  row : ∀ j, j < m → RowG w sz (v j) (n j)
  own : ∀ j g, j < m → oB (v j) = some g → g < B ∧ g ≠ L
  apart : ∀ i j g, i < m → j < m → i ≠ j → oB (v i) = some g → oB (v j) ≠ some g
theorem Rs.upd {S : List Nat} {w w' : World} {sz L m B : Nat} {v : Nat → Value} {n : Nat → Nat} (h : Rs w sz L m B v n) (hu : Upd S w w') (hS : ∀ x, x ∈ S → B ≤ x) : Rs w' sz L m B v n := by
  have hLS : L ∉ S := fun hm => by have := hS L hm; have := h.hL; omega
  refine ⟨Nat.le_trans h.hB hu.size, h.hL, fun j hj => ?_, fun j hj => (h.row j hj).upd hu (fun g hg hm => ?_), h.own, h.apart⟩
  · rw [hu.cell (p := ⟨L, j, none⟩) (Nat.lt_of_lt_of_le h.hL h.hB) hLS]; exact h.blk j hj
  · have := hS g hm; have := (h.own j g hj hg).1; omega
theorem Rs.raise {w : World} {sz L m B B' : Nat} {v : Nat → Value} {n : Nat → Nat} (h : Rs w sz L m B v n) (h1 : B ≤ B') (h2 : B' ≤ w.heap.size) : Rs w sz L m B' v n :=
  ⟨h2, Nat.lt_of_lt_of_le h.hL h1, h.blk, h.row, fun j g hj hg => ⟨Nat.lt_of_lt_of_le (h.own j g hj hg).1 h1, (h.own j g hj hg).2⟩, h.apart⟩
theorem Rs.form {w : World} {sz L m B : Nat} {v : Nat → Value} {n : Nat → Nat} (h : Rs w sz L m B v n) {k : Nat} (hk : k < m) {i : Nat} (hi : i < n k) : ∃ g cap, v k = .slice (some ⟨g, 0, none⟩) (n k) cap ∧ g < B ∧ g ≠ L ∧ 0 < cap := by
  rcases h.row k hk with ⟨_, h0⟩ | ⟨g, cap, hv, _, _, _, _, h5⟩
  · omega
  · have := h.own k g hk (by rw [hv]; exact oB_pos h5)
    exact ⟨g, cap, hv, this.1, this.2, h5⟩
/-- An element of a row is stored. -/
theorem Rs.set {w : World} {sz L m B : Nat} {v : Nat → Value} {n : Nat → Nat} (h : Rs w sz L m B v n) {k : Nat} (hk : k < m) {g cap : Nat} (hv : v k = .slice (some ⟨g, 0, none⟩) (n k) cap) (hc : 0 < cap) (o : Nat) (vs : List Value) : Rs (w.setCells g o vs) sz L m B v n := by
  have hu := setCells_Upd w g o vs
  have hg := h.own k g hk (by rw [hv]; exact oB_pos hc)
  refine ⟨Nat.le_trans h.hB hu.size, h.hL, fun j hj => ?_, fun j hj => ?_, h.own, h.apart⟩
  · rw [hu.cell (p := ⟨L, j, none⟩) (Nat.lt_of_lt_of_le h.hL h.hB) (by simp; exact fun e => hg.2 e.symm)]; exact h.blk j hj
  · by_cases hjk : j = k
    · subst hjk
      have hr := h.row j hj
      rw [hv] at hr ⊢
      exact hr.set o vs
    · exact (h.row j hj).upd hu (fun g2 hg2 hm => by
        simp at hm
        subst hm
        exact h.apart j k g2 hj hk hjk hg2 (by rw [hv]; exact oB_pos hc))
theorem Rs.hasOther {w : World} {sz L m B p : Nat} {v : Nat → Value} {n : Nat → Nat} {C : Nat → List Value} (h : Rs w sz L m B v n) {k j : Nat} (hk : k < m) (hj : j < m) (hjk : j ≠ k) (hpn : p ≤ n j) {g cap : Nat} (hv : v k = .slice (some ⟨g, 0, none⟩) (n k) cap) (hc : 0 < cap) (o : Nat) (vs : List Value) (hh : Hs w sz (v j) p C) : Hs (w.setCells g o vs) sz (v j) p C :=
  hh.upd (h.row j hj) hpn (setCells_Upd w g o vs) (fun g2 hg2 hm => by
    simp at hm
    subst hm
    exact h.apart j k g2 hj hk hjk hg2 (by rw [hv]; exact oB_pos hc))

/-- .. and what they have grown to, in block G. -/
structure Ps (w : World) (sz L G m k B : Nat) (v u : Nat → Value) (n q : Nat → Nat) (C : Nat → Nat → List Value) : Prop where
  rs : Rs w sz L m B v n
  has : ∀ j, j < m → Hs w sz (v j) (n j) (C j)
  hG : G < B ∧ G ≠ L
  gown : ∀ j, j < m → oB (v j) ≠ some G
  room : w.there G 0 m
  gs : ∀ j, j < k → w.cell? ⟨G, j, none⟩ = some (u j) ∧ Hs w sz (u j) (q j) (C j)
  ugs : ∀ j, j < k → ∃ g c, u j = .slice (some ⟨g, 0, none⟩) (n j + 64) c ∧ g < B ∧ g ≠ L ∧ g ≠ G ∧ ∀ i, i < m → i ≠ j → oB (v i) ≠ some g

theorem Hs.uform {S : List Nat} {w w' : World} {sz p g l c : Nat} {C : Nat → List Value} (h : Hs w sz (.slice (some ⟨g, 0, none⟩) l c) p C) (hg : g < w.heap.size) (hu : Upd S w w') (hn : g ∉ S) : Hs w' sz (.slice (some ⟨g, 0, none⟩) l c) p C := by
  intro g2 l2 c2 e i j hi hj
  simp only [Value.slice.injEq, Option.some.injEq, Addr.mk.injEq, and_true] at e
  obtain ⟨rfl, _, _⟩ := e
  rw [hu.cell (p := ⟨g, i * sz + j, none⟩) hg hn]
  exact h g l c rfl i j hi hj
/-- Something else has turned. -/
theorem Ps.far {S : List Nat} {w w' : World} {sz L G m k B : Nat} {v u : Nat → Value} {n q : Nat → Nat} {C : Nat → Nat → List Value} (h : Ps w sz L G m k B v u n q C) (hu : Upd S w w') (hS : ∀ x, x ∈ S → B ≤ x) : Ps w' sz L G m k B v u n q C := by
  have hGS : G ∉ S := fun hm => by have := hS G hm; have := h.hG.1; omega
  have hGl : G < w.heap.size := Nat.lt_of_lt_of_le h.hG.1 h.rs.hB
  refine ⟨h.rs.upd hu hS, fun j hj => (h.has j hj).upd (h.rs.row j hj) (Nat.le_refl _) hu (fun g hg hm => ?_), h.hG, h.gown, there_upd h.room hGl hu hGS, fun j hj => ⟨?_, ?_⟩, h.ugs⟩
  · have := hS g hm; have := (h.rs.own j g hj hg).1; omega
  · rw [hu.cell (p := ⟨G, j, none⟩) hGl hGS]; exact (h.gs j hj).1
  · obtain ⟨g, c, e, h1, _⟩ := h.ugs j hj
    have hh := (h.gs j hj).2
    rw [e] at hh ⊢
    exact hh.uform (Nat.lt_of_lt_of_le h1 h.rs.hB) hu (fun hm => by have := hS g hm; omega)
/-- Row k, or what it has grown to, has grown. -/
theorem Ps.grow {w w' : World} {sz L G m k B nx g' : Nat} {x : Value} {v u : Nat → Value} {n q : Nat → Nat} {C : Nat → Nat → List Value} (h : Ps w sz L G m k B v u n q C) (hk : k < m) (hg : Grew sz w w' x nx g') (hx : ∀ g, oB x = some g → oB (v k) = some g ∨ B ≤ g) (hn : n k ≤ nx)
    (hx2 : ∀ g, oB (v k) = some g → oB x = some g → ∃ l c, x = .slice (some ⟨g, 0, none⟩) l c) :
    Ps w' sz L G m k B v u n q C ∧ (oB (v k) = some g' ∨ B ≤ g') := by
  have hgk : oB (v k) = some g' ∨ B ≤ g' := by
    rcases hg.at' with h1 | h1
    · exact hx g' h1
    · exact Or.inr (by rw [h1]; exact h.rs.hB)
  have hgL : g' ≠ L := fun e => by
    rcases hgk with h1 | h1
    · exact (h.rs.own k g' hk h1).2 e
    · have := h.rs.hL; omega
  have hgG : g' ≠ G := fun e => by
    rcases hgk with h1 | h1
    · exact h.gown k hk (by rw [h1, e])
    · have := h.hG.1; omega
  have hoth : ∀ j, j < m → j ≠ k → ∀ g, oB (v j) = some g → g ≠ g' := fun j hj hjk g hgj e => by
    subst e
    rcases hgk with h1 | h1
    · exact h.rs.apart j k g hj hk hjk hgj h1
    · have := (h.rs.own j g hj hgj).1; omega
  have hu := hg.upd
  have hLl : L < w.heap.size := Nat.lt_of_lt_of_le h.rs.hL h.rs.hB
  have hGl : G < w.heap.size := Nat.lt_of_lt_of_le h.hG.1 h.rs.hB
  refine ⟨⟨⟨Nat.le_trans h.rs.hB hu.size, h.rs.hL, fun j hj => ?_, fun j hj => hg.row (h.rs.row j hj), h.rs.own, h.rs.apart⟩, fun j hj => ?_, h.hG, h.gown, there_upd h.room hGl hu (by simpa using hgG.symm), fun j hj => ⟨?_, ?_⟩, h.ugs⟩, hgk⟩
  · rw [hu.cell (p := ⟨L, j, none⟩) hLl (by simpa using hgL.symm)]; exact h.rs.blk j hj
  · by_cases hjk : j = k
    · subst hjk
      have hh := h.has j hj
      by_cases hown : oB (v j) = some g'
      · rcases hg.at' with h1 | h1
        · obtain ⟨l, c, ex⟩ := hx2 g' hown h1
          intro g l2 c2 e a b ha hb
          have hgg : g = g' := by
            rw [e] at hown
            by_cases hc2 : 0 < c2
            · simpa [oB_pos hc2] using hown
            · have : c2 = 0 := by omega
              subst this
              rw [oB_zero] at hown; cases hown
          subst hgg
          rw [hg.old g l c ex (a * sz + b) (by have := mul_room (sz := sz) (show a < nx by omega); omega)]
          exact hh g l2 c2 e a b ha hb
        · have := (h.rs.own j g' hj hown).1
          have := h.rs.hB
          omega
      · exact hh.upd (h.rs.row j hj) (Nat.le_refl _) hu (fun g hgj hm => by simp at hm; subst hm; exact hown hgj)
    · exact (h.has j hj).upd (h.rs.row j hj) (Nat.le_refl _) hu (fun g hgj hm => by simp at hm; exact hoth j hj hjk g hgj hm)
  · rw [hu.cell (p := ⟨G, j, none⟩) hGl (by simpa using hgG.symm)]; exact (h.gs j hj).1
  · obtain ⟨g, c, e, h1, h2, h3, h4⟩ := h.ugs j hj
    have hh := (h.gs j hj).2
    rw [e] at hh ⊢
    refine hh.uform (Nat.lt_of_lt_of_le h1 h.rs.hB) hu ?_
    simp only [List.mem_singleton]
    intro hgg
    subst hgg
    rcases hgk with h5 | h5
    · by_cases hjk : j = k
      · omega
      · exact h4 k hk (fun e => hjk e.symm) h5
    · omega
/-- What it has grown to is put into G. -/
theorem Ps.next {w : World} {sz L G m k B : Nat} {v u : Nat → Value} {n q : Nat → Nat} {C : Nat → Nat → List Value} (h : Ps w sz L G m k B v u n q C) (hk : k < m) {g c : Nat} (hgl : g < w.heap.size) (hgk : oB (v k) = some g ∨ B ≤ g) (hh : Hs w sz (.slice (some ⟨g, 0, none⟩) (n k + 64) c) (q k) (C k)) :
    Ps (w.setCell ⟨G, k, none⟩ (.slice (some ⟨g, 0, none⟩) (n k + 64) c)) sz L G m (k + 1) w.heap.size v (fun j => if j = k then .slice (some ⟨g, 0, none⟩) (n k + 64) c else u j) n q C := by
  have hGl : G < w.heap.size := Nat.lt_of_lt_of_le h.hG.1 h.rs.hB
  have hLl : L < w.heap.size := Nat.lt_of_lt_of_le h.rs.hL h.rs.hB
  have hu : Upd [G] w (w.setCell ⟨G, k, none⟩ (.slice (some ⟨g, 0, none⟩) (n k + 64) c)) := (Upd.refl [G] w).setCell (Or.inr (by simp)) _
  have hgL : g ≠ L := fun e => by
    rcases hgk with h1 | h1
    · exact (h.rs.own k g hk h1).2 e
    · have := h.rs.hL; omega
  have hgG : g ≠ G := fun e => by
    rcases hgk with h1 | h1
    · exact h.gown k hk (by rw [h1, e])
    · have := h.hG.1; omega
  have hsz : (w.setCell ⟨G, k, none⟩ (.slice (some ⟨g, 0, none⟩) (n k + 64) c)).heap.size = w.heap.size := World.size_setCell _ _ _
  have hrow : ∀ j, j < m → ∀ x, oB (v j) = some x → x ∉ [G] := fun j hj x hx hm => by simp at hm; subst hm; exact h.gown j hj hx
  refine ⟨⟨by rw [hsz]; exact Nat.le_refl _, hLl, fun j hj => ?_, fun j hj => (h.rs.row j hj).upd hu (hrow j hj), fun j x hj hx => ⟨Nat.lt_of_lt_of_le (h.rs.own j x hj hx).1 h.rs.hB, (h.rs.own j x hj hx).2⟩, h.rs.apart⟩,
    fun j hj => (h.has j hj).upd (h.rs.row j hj) (Nat.le_refl _) hu (hrow j hj), ⟨hGl, h.hG.2⟩, h.gown, ?_, fun j hj => ?_, fun j hj => ?_⟩
  · rw [hu.cell (p := ⟨L, j, none⟩) hLl (by simp; exact h.hG.2.symm)]; exact h.rs.blk j hj
  · have : w.setCell ⟨G, k, none⟩ (.slice (some ⟨g, 0, none⟩) (n k + 64) c) = w.setCells G k [.slice (some ⟨g, 0, none⟩) (n k + 64) c] := rfl
    rw [this]
    exact there_set h.room
  · by_cases hjk : j = k
    · subst hjk
      simp only [if_true]
      refine ⟨?_, hh.uform hgl hu (by simpa using hgG)⟩
      have ht := h.room j hk
      rw [Nat.zero_add] at ht
      exact World.cell?_setCells_in G [.slice (some ⟨g, 0, none⟩) (n j + 64) c] j w (fun a ha => by simp at ha; subst ha; exact ht.1) 0 (by simp)
    · simp only [hjk, if_false]
      have hj' : j < k := by omega
      refine ⟨?_, ?_⟩
      · have : w.setCell ⟨G, k, none⟩ (.slice (some ⟨g, 0, none⟩) (n k + 64) c) = w.setCells G k [.slice (some ⟨g, 0, none⟩) (n k + 64) c] := rfl
        rw [this, World.cell?_setCells_out G _ _ _ _ (fun a _ => Or.inl (show j < k by omega))]
        exact (h.gs j hj').1
      · obtain ⟨g2, c2, e, h1, _, h3, _⟩ := h.ugs j hj'
        have hh2 := (h.gs j hj').2
        rw [e] at hh2 ⊢
        exact hh2.uform (Nat.lt_of_lt_of_le h1 h.rs.hB) hu (by simpa using h3)
  · by_cases hjk : j = k
    · subst hjk
      simp only [if_true]
      refine ⟨g, c, rfl, hgl, hgL, hgG, fun i hi hij e => ?_⟩
      rcases hgk with h1 | h1
      · exact h.rs.apart i j g hi hk hij e h1
      · have := (h.rs.own i g hi e).1; omega
    · simp only [hjk, if_false]
      obtain ⟨g2, c2, e, h1, h2, h3, h4⟩ := h.ugs j (by omega)
      exact ⟨g2, c2, e, Nat.lt_of_lt_of_le h1 h.rs.hB, h2, h3, h4⟩
/-- .. anew: no more is said of what was put there earlier. -/
theorem Ps.anew {w : World} {sz L G m k B : Nat} {v u : Nat → Value} {n q q' : Nat → Nat} {C : Nat → Nat → List Value} (h : Ps w sz L G m k B v u n q C) : Ps w sz L G m 0 B v u n q' C :=
  ⟨h.rs, h.has, h.hG, h.gown, h.room, fun j hj => by omega, fun j hj => by omega⟩
theorem Ps.raise {w : World} {sz L G m k B : Nat} {v u : Nat → Value} {n q : Nat → Nat} {C : Nat → Nat → List Value} (h : Ps w sz L G m k B v u n q C) : Ps w sz L G m k w.heap.size v u n q C :=
  ⟨h.rs.raise h.rs.hB (Nat.le_refl _), h.has, ⟨Nat.lt_of_lt_of_le h.hG.1 h.rs.hB, h.hG.2⟩, h.gown, h.room, h.gs, fun j hj => by
    obtain ⟨g, c, e, h1, h2⟩ := h.ugs j hj
    exact ⟨g, c, e, Nat.lt_of_lt_of_le h1 h.rs.hB, h2⟩⟩

/-- A store of a whole element at a step of a region that draws its order. -/
theorem step_store_mid {ops : Array Oper} {o : Oper} {a : Act} {w : World} {K : Act → World → Prop} {Q : Exit → Act → World → Prop} {E : Prop} (hgd : o.guard = none) (ty : TypeId) (x y : Operand) (ho : o.op = .store ty x y)
    (b off : Nat) (cells : Array Value) (hx : a.eval x = .pointer (some ⟨b, off, none⟩)) (hy : a.eval y = .agg cells)
    (ht : w.there b off cells.size) (hi : (Tryz.prog.info? ty).map (·.size) = some cells.size) (h1 : cells.all (·.oneCell') = true)
    (h : K (a.put o.dst undef) (w.setCells b off cells.toList)) :
    if Region.wanted o (yielded ops a.tmps) = true then Oper.wp Tryz.prog o a w K Q else E := by
  have hw : Region.wanted o (yielded ops a.tmps) = true := by simp [Region.wanted, hgd]
  rw [if_pos hw]
  exact wp_store_mid ty x y ho b off cells hx hy ht hi h1 h

/-- Elements are appended: at the list of operations. -/
theorem wpList_appendG {w : World} {ops : Array Oper} {rest : List Oper} {o : Oper} {a : Act} {Q : Exit → Act → World → Prop} (hgd : o.guard = none) (s x : Operand) (t : TypeId) (ho : o.op = .call { callee := .builtin .append, args := #[s, x], argTypes := #[t, t] })
    {e : TypeId} {i : TypeInfo} {z : Value} {sz bytes : Nat} (ht : Tryz.prog.underlying t = some (.slice e)) (hi : Tryz.prog.info? e = some i) (hz : i.zero = some z) (hsize : i.size = sz) (hby : i.bytes = bytes) (hzs : z.cells.size = sz)
    {v : Value} {n : Nat} (hs : a.eval s = v) (hr : RowG w sz v n) (ad : Addr) (m c : Nat) (news : List Value) (hx : a.eval x = .slice (some ad) m c) (hl : news.length = m * sz) (hnews : ∀ j u, news[j]? = some u → w.cell? (ad.add j) = some u) (h1 : ∀ u ∈ news, u.oneCell' = true)
    (hm : 0 < m) (h63 : n + m ≤ 1000000000) (hbytes : bytes ≤ 1000)
    (h : ∀ g' cap' w', RowG w' sz (.slice (some ⟨g', 0, none⟩) (n + m) cap') (n + m) → Grew sz w w' v n g' → (∀ j, j < m * sz → w'.cell? ⟨g', n * sz + j, none⟩ = news[j]?) → wpList Tryz.prog ops Q rest (a.put o.dst (.slice (some ⟨g', 0, none⟩) (n + m) cap')) w') : wpList Tryz.prog ops Q (o :: rest) a w := by
  refine wpList_plain hgd fun K hK => ?_
  obtain ⟨g', cap', w', hrun, h2, h3, h4⟩ := run_appendG (ty := o.type) ht hi hz hsize hby hzs hr ad m c news hl hnews h1 hm (Nat.le_trans h63 (by omega)) (Nat.le_trans (Nat.mul_le_mul h63 hbytes) (by omega))
  unfold Oper.wp execOp
  simp only [ho, resolve, invoke, builtin, Sem.run_bind, Sem.run_pure, Result.andThen_ok, List.map_toArray, List.map_cons, List.map_nil, hs, hx, hrun]
  exact hK _ _ (h g' cap' w' h2 h3 h4)

end Go.Proofs.YtpojkmpimnnjiaaGreat
