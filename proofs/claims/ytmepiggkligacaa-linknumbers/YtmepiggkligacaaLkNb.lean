/- LinkNumbers: rows of steps that grow. -/
import Derived.Test.YtmepiggkligacaaLkNa
namespace Go.Proofs.Ytmepiggkligacaa
open Go.RowKit Go.Maps

theorem info_do : (Try.prog.info? 31).map (fun i => (i.zero, i.size, i.bytes)) = some (some (.agg #[.int .i64 0, .int .i64 0, .int .i64 0, .int .i64 0]), 4, 32) := by kernel_rfl
theorem und_dos : Try.prog.underlying 22 = some (.slice 31) := by kernel_rfl
/-- A row of n steps that may grow. -/
def DQ (w : World) (v : Value) (n : Nat) : Prop := RowG w 4 v n ∧ ∀ g l c, v = .slice (some ⟨g, 0, none⟩) l c → ∀ j, j < n * 4 → ∃ k, I64 k ∧ w.cell? ⟨g, j, none⟩ = some (.int .i64 k)
theorem DQ.nil (w : World) : DQ w (.slice none 0 0) 0 := ⟨Or.inl ⟨rfl, rfl⟩, fun g l c e => by cases e⟩
theorem DQ.upd {w w' : World} {v : Value} {n : Nat} {S : List Nat} (h : DQ w v n) (hu : Upd S w w') (hn : ∀ g, v.ownBlock = some g → g ∉ S) : DQ w' v n := by
  refine ⟨h.1.upd hu hn, fun g l c e j hj => ?_⟩
  obtain ⟨k, h1, h2⟩ := h.2 g l c e j hj
  subst e
  exact ⟨k, h1, (hu.cell (p := ⟨g, j, none⟩) (h.1.lt g rfl) (hn g rfl)).trans h2⟩
theorem DQ.form {w : World} {v : Value} {n : Nat} (h : DQ w v n) (hn : 0 < n) : ∃ g c, v = .slice (some ⟨g, 0, none⟩) n c ∧ n ≤ c ∧ c ≤ 9223372036854775807 := by
  rcases h.1 with ⟨_, h0⟩ | ⟨g, cap, e, _, h2, h3, _⟩
  · omega
  · exact ⟨g, cap, e, h2, by unfold maxLen at h3; omega⟩
theorem DQ.steps {w : World} {g n c : Nat} (h : DQ w (.slice (some ⟨g, 0, none⟩) n c) n) : Steps w (some ⟨g, 0, none⟩) n := fun i hi => by
  have hl := h.1.lt g rfl
  obtain ⟨k0, i0, e0⟩ := h.2 g n c rfl (i * 4) (by omega)
  obtain ⟨k1, i1, e1⟩ := h.2 g n c rfl (i * 4 + 1) (by omega)
  obtain ⟨k2, i2, e2⟩ := h.2 g n c rfl (i * 4 + 2) (by omega)
  obtain ⟨k3, i3, e3⟩ := h.2 g n c rfl (i * 4 + 3) (by omega)
  exact ⟨g, 0, k0, k1, k2, k3, rfl, hl, by rw [Nat.zero_add]; exact e0, by rw [Nat.zero_add]; exact e1, by rw [Nat.zero_add]; exact e2, by rw [Nat.zero_add]; exact e3, i0, i1, i2, i3⟩
theorem DQ.cut {w : World} {g n c m : Nat} (h : DQ w (.slice (some ⟨g, 0, none⟩) n c) n) (hm : m ≤ n) : DQ w (.slice (some ⟨g, 0, none⟩) m m) m := by
  refine ⟨?_, fun g2 l c2 e j hj => ?_⟩
  · rcases h.1 with ⟨e, _⟩ | ⟨g2, cap, e, h1, h2, h3, h4⟩
    · cases e
    · simp only [Value.slice.injEq, Option.some.injEq, Addr.mk.injEq, and_true, true_and] at e
      obtain ⟨rfl, rfl⟩ := e
      exact Or.inr ⟨g, m, rfl, h1, Nat.le_refl _, by omega, fun j hj => h4 j (by omega)⟩
  · simp only [Value.slice.injEq, Option.some.injEq, Addr.mk.injEq, and_true] at e
    obtain ⟨rfl, _, _⟩ := e
    exact h.2 g n c rfl j (by omega)
theorem app_D {ty : TypeId} {w : World} {v : Value} {n m c : Nat} {ad : Addr} {news : List Value} (h : DQ w v n) (hl : news.length = m * 4) (hnews : ∀ j u, news[j]? = some u → w.cell? (ad.add j) = some u) (hi : ∀ u ∈ news, ∃ k, u = .int .i64 k ∧ I64 k) (hm : 0 < m) (hnm : n + m ≤ 1000) :
    ∃ g' cap' w', (Builtin.append_ #[22, 22] ty #[v, .slice (some ad) m c]).run Try.prog w = .ok (.slice (some ⟨g', 0, none⟩) (n + m) cap') w' ∧ DQ w' (.slice (some ⟨g', 0, none⟩) (n + m) cap') (n + m) ∧ Upd [g'] w w' ∧ (v.ownBlock = some g' ∨ g' = w.heap.size) := by
  obtain ⟨i0, hi0, hz0, hz1, hz2⟩ := info_parts info_do
  obtain ⟨g', cap', w', hr, h1, h2, h3⟩ := run_appendG (ty := ty) und_dos hi0 hz0 hz1 hz2 rfl h.1 ad m c news hl hnews (fun u hu => by obtain ⟨k, rfl, _⟩ := hi u hu; rfl) hm (by omega) (by omega)
  refine ⟨g', cap', w', hr, ⟨h1, fun g l c2 e j hj => ?_⟩, h2.upd, h2.at'⟩
  simp only [Value.slice.injEq, Option.some.injEq, Addr.mk.injEq, and_true] at e
  obtain ⟨rfl, _, _⟩ := e
  by_cases hjn : j < n * 4
  · rcases h.1 with ⟨_, h0⟩ | ⟨g5, cap5, e5, _⟩
    · omega
    · obtain ⟨k, i1, e1⟩ := h.2 g5 _ _ e5 j hjn
      exact ⟨k, i1, (h2.new g5 _ _ e5 j hjn).trans e1⟩
  · have hjl : j - n * 4 < news.length := by omega
    have := h3 (j - n * 4) (by omega)
    rw [show n * 4 + (j - n * 4) = j by omega] at this
    obtain ⟨k, e1, i1⟩ := hi _ (List.getElem_mem hjl)
    exact ⟨k, i1, by rw [this, List.getElem?_eq_getElem hjl, e1]⟩
theorem oper_appD {o : Oper} {a : Act} {w : World} {K : Act → World → Prop} {Q : Exit → Act → World → Prop} (s x : Operand) (ho : o.op = .call { callee := .builtin .append, args := #[s, x], argTypes := #[22, 22] })
    (v : Value) (n m c : Nat) (ad : Addr) (news : List Value) (hsv : a.eval s = v) (hxu : a.eval x = .slice (some ad) m c) (h : DQ w v n) (hl : news.length = m * 4) (hnews : ∀ j u, news[j]? = some u → w.cell? (ad.add j) = some u) (hi : ∀ u ∈ news, ∃ k, u = .int .i64 k ∧ I64 k) (hm : 0 < m) (hnm : n + m ≤ 1000)
    (hK : ∀ g' cap' w', DQ w' (.slice (some ⟨g', 0, none⟩) (n + m) cap') (n + m) → Upd [g'] w w' → (v.ownBlock = some g' ∨ g' = w.heap.size) → K (a.put o.dst (.slice (some ⟨g', 0, none⟩) (n + m) cap')) w') : Oper.wp Try.prog o a w K Q := by
  obtain ⟨g', cap', w', hr, h1, h2, h3⟩ := app_D (ty := o.type) (c := c) h hl hnews hi hm hnm
  unfold Oper.wp execOp
  simp only [ho, resolve, invoke, builtin, Sem.run_bind, Sem.run_pure, Result.andThen_ok, List.map_toArray, List.map_cons, List.map_nil, hsv, hxu, hr]
  exact hK g' cap' w' h1 h2 h3
theorem wp_appD {ops : Array Oper} {rest : List Oper} {o : Oper} {a : Act} {w : World} {Q : Exit → Act → World → Prop} (hgd : o.guard = none) (s x : Operand) (ho : o.op = .call { callee := .builtin .append, args := #[s, x], argTypes := #[22, 22] })
    (v : Value) (n m c : Nat) (ad : Addr) (news : List Value) (hsv : a.eval s = v) (hxu : a.eval x = .slice (some ad) m c) (h : DQ w v n) (hl : news.length = m * 4) (hnews : ∀ j u, news[j]? = some u → w.cell? (ad.add j) = some u) (hi : ∀ u ∈ news, ∃ k, u = .int .i64 k ∧ I64 k) (hm : 0 < m) (hnm : n + m ≤ 1000)
    (hK : ∀ g' cap' w', DQ w' (.slice (some ⟨g', 0, none⟩) (n + m) cap') (n + m) → Upd [g'] w w' → (v.ownBlock = some g' ∨ g' = w.heap.size) → wpList Try.prog ops Q rest (a.put o.dst (.slice (some ⟨g', 0, none⟩) (n + m) cap')) w') : wpList Try.prog ops Q (o :: rest) a w :=
  wpList_plain hgd fun _ hK2 => oper_appD s x ho v n m c ad news hsv hxu h hl hnews hi hm hnm (fun g' cap' w' h1 h2 h3 => hK2 _ _ (hK g' cap' w' h1 h2 h3))

end Go.Proofs.Ytmepiggkligacaa
