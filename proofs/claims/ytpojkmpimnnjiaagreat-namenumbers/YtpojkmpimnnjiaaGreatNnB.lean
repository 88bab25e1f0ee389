/- NameNumbers: rows of steps that grow. -/
import Derived.Test.YtpojkmpimnnjiaaGreatBgB
import Derived.Test.YtpojkmpimnnjiaaGreatNmK
namespace Go.Proofs.YtpojkmpimnnjiaaGreat
open Go.RowKit Go.Maps

theorem info_doB : (Tryz.prog.info? 33).map (fun i => (i.zero, i.size, i.bytes)) = some (some (.agg #[.int .i64 0, .int .i64 0, .string ⟨#[]⟩]), 3, 32) := by kernel_rfl
theorem und_dosB : Tryz.prog.underlying 22 = some (.slice 33) := by kernel_rfl
theorem UpP.cell {P : Nat → Prop} {w w' : World} (h : UpP P w w') {p : Addr} (hp : p.block < w.heap.size) (hn : ¬ P p.block) : w'.cell? p = w.cell? p := World.cell?_of_block (w := w) (h.block p.block hp hn)
/-- A step: what, whose, which name. -/
abbrev Sp := Int × Int × BS
def okD (d : Sp) : Prop := I64 d.1 ∧ I64 d.2.1 ∧ okB d.2.2
/-- A row of n steps that may grow. -/
def DQ (w : World) (v : Value) (n : Nat) : Prop := RowG w 3 v n ∧ ∀ g l c, v = .slice (some ⟨g, 0, none⟩) l c → ∀ i, i < n → ∃ d : Sp, okD d ∧ w.cell? ⟨g, i * 3, none⟩ = some (.int .i64 d.1) ∧ w.cell? ⟨g, i * 3 + 1, none⟩ = some (.int .i64 d.2.1) ∧ w.cell? ⟨g, i * 3 + 2, none⟩ = some (encStr d.2.2)
theorem DQ.nil (w : World) : DQ w (.slice none 0 0) 0 := ⟨Or.inl ⟨⟨none, rfl⟩, rfl⟩, fun g l c e i hi => by omega⟩
theorem DQ.upd {w w' : World} {v : Value} {n : Nat} {S : List Nat} (h : DQ w v n) (hu : Upd S w w') (hn : ∀ g, oB v = some g → g ∉ S) : DQ w' v n := by
  refine ⟨h.1.upd hu hn, fun g l c e i hi => ?_⟩
  obtain ⟨d, h1, h2, h3, h4⟩ := h.2 g l c e i hi
  rcases h.1 with ⟨⟨p, e0⟩, h0⟩ | ⟨b, cap, hv, hb, _, _, _, h5⟩
  · omega
  · rw [hv] at e
    simp only [Value.slice.injEq, Option.some.injEq, Addr.mk.injEq, and_true] at e
    obtain ⟨rfl, rfl, rfl⟩ := e
    have hg := hn b (by rw [hv]; exact oB_pos h5)
    exact ⟨d, h1, (hu.cell (p := ⟨b, _, none⟩) hb hg).trans h2, (hu.cell (p := ⟨b, _, none⟩) hb hg).trans h3, (hu.cell (p := ⟨b, _, none⟩) hb hg).trans h4⟩
theorem DQ.steps {w : World} {v : Value} {n : Nat} (h : DQ w v n) : ∃ p c, v = .slice p n c ∧ n ≤ c ∧ c ≤ 9223372036854775807 ∧ Steps w p n := by
  rcases h.1 with ⟨⟨p, rfl⟩, rfl⟩ | ⟨g, cap, rfl, h1, h2, h3, h4, h5⟩
  · exact ⟨p, 0, rfl, Nat.le_refl _, by omega, fun i hi => by omega⟩
  · refine ⟨_, cap, rfl, h2, by unfold maxLen at h3; omega, fun i hi => ?_⟩
    obtain ⟨d, ⟨i0, i1, i2⟩, e0, e1, e2⟩ := h.2 g n cap rfl i hi
    exact ⟨g, 0, d.1, d.2.1, d.2.2, rfl, h1, by rw [Nat.zero_add]; exact e0, by rw [Nat.zero_add]; exact e1, by rw [Nat.zero_add]; exact e2, i0, i1, i2⟩
theorem DQ.form {w : World} {v : Value} {n : Nat} (h : DQ w v n) : ∃ p c, v = .slice p n c := by
  obtain ⟨p, c, e, _⟩ := h.steps
  exact ⟨p, c, e⟩
theorem app_D {ty : TypeId} {w : World} {v : Value} {n m c : Nat} {ad : Addr} {news : List Value} (h : DQ w v n) (hl : news.length = m * 3) (hnews : ∀ j u, news[j]? = some u → w.cell? (ad.add j) = some u)
    (hi : ∀ i, i < m → ∃ d : Sp, okD d ∧ news[i * 3]? = some (.int .i64 d.1) ∧ news[i * 3 + 1]? = some (.int .i64 d.2.1) ∧ news[i * 3 + 2]? = some (encStr d.2.2)) (hm : 0 < m) (hnm : n + m ≤ 1000) :
    ∃ g' cap' w', (Builtin.append_ #[22, 22] ty #[v, .slice (some ad) m c]).run Tryz.prog w = .ok (.slice (some ⟨g', 0, none⟩) (n + m) cap') w' ∧ DQ w' (.slice (some ⟨g', 0, none⟩) (n + m) cap') (n + m) ∧ Upd [g'] w w' ∧ (oB v = some g' ∨ g' = w.heap.size) := by
  obtain ⟨i0, hi0, hz0, hz1, hz2⟩ := info_parts info_doB
  have h1 : ∀ u ∈ news, u.oneCell' = true := by
    intro u hu
    obtain ⟨j, hj, rfl⟩ := List.mem_iff_getElem.1 hu
    obtain ⟨d, _, e0, e1, e2⟩ := hi (j / 3) (by omega)
    have e : news[j]? = some news[j] := List.getElem?_eq_getElem hj
    rcases (by omega : j % 3 = 0 ∨ j % 3 = 1 ∨ j % 3 = 2) with r | r | r
    · rw [show j / 3 * 3 = j by omega, e] at e0
      rw [Option.some.inj e0]; rfl
    · rw [show j / 3 * 3 + 1 = j by omega, e] at e1
      rw [Option.some.inj e1]; rfl
    · rw [show j / 3 * 3 + 2 = j by omega, e] at e2
      rw [Option.some.inj e2]; rfl
  obtain ⟨g', cap', w', hr, h2, h3, h4⟩ := run_appendG (ty := ty) und_dosB hi0 hz0 hz1 hz2 rfl h.1 ad m c news hl hnews h1 hm (by omega) (by omega)
  refine ⟨g', cap', w', hr, ⟨h2, fun g l c2 e i hin => ?_⟩, h3.upd, h3.at'⟩
  simp only [Value.slice.injEq, Option.some.injEq, Addr.mk.injEq, and_true] at e
  obtain ⟨rfl, _, _⟩ := e
  by_cases hjn : i < n
  · rcases h.1 with ⟨_, h0⟩ | ⟨g5, cap5, e5, _⟩
    · omega
    · obtain ⟨d, i1, e1, e2, e3⟩ := h.2 g5 _ _ e5 i hjn
      exact ⟨d, i1, (h3.new g5 _ _ e5 _ (by omega)).trans e1, (h3.new g5 _ _ e5 _ (by omega)).trans e2, (h3.new g5 _ _ e5 _ (by omega)).trans e3⟩
  · obtain ⟨d, i1, e1, e2, e3⟩ := hi (i - n) (by omega)
    have f : ∀ r, r < 3 → w'.cell? ⟨g', i * 3 + r, none⟩ = news[(i - n) * 3 + r]? := fun r hr => by
      have := h4 ((i - n) * 3 + r) (by omega)
      rw [show n * 3 + ((i - n) * 3 + r) = i * 3 + r by omega] at this
      exact this
    exact ⟨d, i1, (f 0 (by omega)).trans e1, (f 1 (by omega)).trans e2, (f 2 (by omega)).trans e3⟩
theorem oper_appD {o : Oper} {a : Act} {w : World} {K : Act → World → Prop} {Q : Exit → Act → World → Prop} (s x : Operand) (ho : o.op = .call { callee := .builtin .append, args := #[s, x], argTypes := #[22, 22] })
    (v : Value) (n m c : Nat) (ad : Addr) (news : List Value) (hsv : a.eval s = v) (hxu : a.eval x = .slice (some ad) m c) (h : DQ w v n) (hl : news.length = m * 3) (hnews : ∀ j u, news[j]? = some u → w.cell? (ad.add j) = some u)
    (hi : ∀ i, i < m → ∃ d : Sp, okD d ∧ news[i * 3]? = some (.int .i64 d.1) ∧ news[i * 3 + 1]? = some (.int .i64 d.2.1) ∧ news[i * 3 + 2]? = some (encStr d.2.2)) (hm : 0 < m) (hnm : n + m ≤ 1000)
    (hK : ∀ g' cap' w', DQ w' (.slice (some ⟨g', 0, none⟩) (n + m) cap') (n + m) → Upd [g'] w w' → (oB v = some g' ∨ g' = w.heap.size) → K (a.put o.dst (.slice (some ⟨g', 0, none⟩) (n + m) cap')) w') : Oper.wp Tryz.prog o a w K Q := by
  obtain ⟨g', cap', w', hr, h1, h2, h3⟩ := app_D (ty := o.type) (c := c) h hl hnews hi hm hnm
  unfold Oper.wp execOp
  simp only [ho, resolve, invoke, builtin, Sem.run_bind, Sem.run_pure, Result.andThen_ok, List.map_toArray, List.map_cons, List.map_nil, hsv, hxu, hr]
  exact hK g' cap' w' h1 h2 h3

end Go.Proofs.YtpojkmpimnnjiaaGreat
