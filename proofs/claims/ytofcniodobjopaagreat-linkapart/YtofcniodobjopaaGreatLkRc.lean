/- An own row of the reference's monitors, another's cells (or none) put behind it. -/
import Derived.Test.YtofcniodobjopaaGreatLkRo
namespace Go.Proofs.YtofcniodobjopaaGreat
open Go.RowKit Go.Maps

theorem info_rmon : (Tryz.prog.info? 122).map (fun i => (i.zero, i.size, i.bytes)) = some (some (.agg #[.int .i64 0, .int .i64 0, .int .i64 0]), 3, 24) := by kernel_rfl
theorem und_rmons : Tryz.prog.underlying 39 = some (.slice 122) := by kernel_rfl
theorem NR.upd {w w' : World} {B : Nat} {v : Value} {xs : List Mon} (h : NR w B v xs) (hu : Upd [] w w') : NR w' B v xs := by
  obtain ⟨h1, h2⟩ := h
  refine ⟨h1, ?_⟩
  rcases h2 with h2 | ⟨g, cap, cur, rfl, hB, hg, r⟩
  · exact Or.inl h2
  · exact Or.inr ⟨g, cap, cur, rfl, hB, (hu.block g (Array.getElem?_eq_some_iff.1 hg).1 (by simp)).trans hg, r⟩
theorem NR.base {w : World} {B B' : Nat} {v : Value} {xs : List Mon} (h : NR w B v xs) (hB : B' ≤ B) : NR w B' v xs := by
  obtain ⟨h1, h2⟩ := h
  refine ⟨h1, ?_⟩
  rcases h2 with h2 | ⟨g, cap, cur, rfl, hb, r⟩
  · exact Or.inl h2
  · exact Or.inr ⟨g, cap, cur, rfl, Nat.le_trans hB hb, r⟩
theorem NR.own {w : World} {B : Nat} {v : Value} {xs : List Mon} (h : NR w B v xs) {g : Nat} (hg : v.ownBlock = some g) : B ≤ g ∧ g < w.heap.size := by
  rcases h.2 with ⟨h2, _⟩ | ⟨g', cap, cur, rfl, hb, hg', _⟩
  · rw [h2] at hg; cases hg
  · cases hg; exact ⟨hb, (Array.getElem?_eq_some_iff.1 hg').1⟩
theorem NR.le {w : World} {B : Nat} {v : Value} {ms : List Mon} (h : NR w B v ms) : ms.length ≤ maxLen := by
  rcases h.2 with ⟨_, h2⟩ | ⟨g, cap, cur, _, _, _, h1, h2, _⟩
  · omega
  · omega
theorem NR.cap {w : World} {B g n c : Nat} {xs : List Mon} (h : NR w B (.slice (some ⟨g, 0, none⟩) n c) xs) : xs.length ≤ c := by
  rcases h.2 with ⟨h1, _⟩ | ⟨g2, cap, cur, h1, _, _, h4, _⟩
  · cases h1
  · simp only [Value.slice.injEq] at h1
    obtain ⟨_, _, rfl⟩ := h1
    exact h4
/-- What is put behind. -/
def SrcN (w : World) (u : Value) (ys : List Mon) : Prop := (∃ c, u = .slice none 0 c ∧ ys = []) ∨ ∃ ad c, u = .slice (some ad) ys.length c ∧ ∀ j v, (ys.flatMap cellsM)[j]? = some v → w.cell? (ad.add j) = some v
theorem one_cellsM (xs : List Mon) : ∀ u ∈ xs.flatMap cellsM, u.oneCell' = true := by
  intro u hu
  obtain ⟨x, _, hx⟩ := List.mem_flatMap.1 hu
  simp only [List.mem_cons, List.not_mem_nil, or_false] at hx
  rcases hx with rfl | rfl | rfl <;> rfl
theorem app_runN {w : World} {B : Nat} {v u : Value} {xs ys : List Mon} {ty : TypeId} (hown : NR w B v xs) (hnn : ∃ g c, v = .slice (some ⟨g, 0, none⟩) xs.length c) (hs : SrcN w u ys) (hlen : xs.length + ys.length ≤ 100000) (hB : B ≤ w.heap.size) :
    ∃ v' w', (Builtin.append_ #[39, 39] ty #[v, u]).run Tryz.prog w = .ok v' w' ∧ NR w' B v' (xs ++ ys) ∧ (∃ g c, v' = .slice (some ⟨g, 0, none⟩) (xs ++ ys).length c) ∧ w.grownBy w' v.ownBlock := by
  obtain ⟨i0, hi, hz0, hz1, hz2⟩ := info_parts info_rmon
  obtain ⟨g, c, rfl⟩ := hnn
  rcases hs with ⟨c2, rfl, rfl⟩ | ⟨ad, c2, rfl, hc⟩
  · rcases hown.2 with ⟨h1, _⟩ | ⟨g2, cap, cur, h1, h2, h3, h4, h5, h6, h7⟩
    · cases h1
    · simp only [Value.slice.injEq, Option.some.injEq, Addr.mk.injEq, and_true] at h1
      obtain ⟨rfl, _, rfl⟩ := h1
      have hr := run_append_room_src (P := Tryz.prog) w 39 39 ty 122 i0 und_rmons hi g 0 xs.length c (.slice none 0 c2) 0 [] (Src.ofNil w und_rmons c2) (by omega) (fun j hj => by simp at hj) (fun j hj => by simp at hj)
      refine ⟨_, _, hr, ?_, ⟨g, c, by simp⟩, ⟨rfl, rfl, rfl, Nat.le_refl _, fun _ _ _ => rfl⟩⟩
      simpa [World.setCells] using hown
  · obtain ⟨v', w', hr, h2, h3, h4, h5⟩ := run_append_own_at (P := Tryz.prog) w B 39 ty 122 i0 (.agg #[.int .i64 0, .int .i64 0, .int .i64 0]) 3 24 und_rmons hi hz0 hz1 hz2 rfl (by decide) _ xs.length (xs.flatMap cellsM) hown ad ys.length c2 (ys.flatMap cellsM) (len_cellsM ys) hc (one_cellsM ys) (by unfold maxLen; omega) (by omega) hB
    have hI : NR w' B v' (xs ++ ys) := by
      unfold NR
      rw [List.length_append, List.flatMap_append]
      exact h2
    refine ⟨v', w', hr, hI, ?_, h3⟩
    rcases h2.2 with ⟨e, _⟩ | ⟨g2, cap, cur, e, _⟩
    · have := (h4.1 e).1
      cases this
    · exact ⟨g2, cap, by rw [List.length_append]; exact e⟩
/-- The operation, for the walk. -/
theorem wp_appN {ops : Array Oper} {rest : List Oper} {o : Oper} {a : Act} {w : World} {Q : Exit → Act → World → Prop} (hgd : o.guard = none) (s x : Operand) (ho : o.op = .call { callee := .builtin .append, args := #[s, x], argTypes := #[39, 39] })
    (B g0 n0 c0 : Nat) (u : Value) (xs ys zs : List Mon) (n : Nat) (hsv : a.eval s = .slice (some ⟨g0, 0, none⟩) n0 c0) (hxu : a.eval x = u) (hown : NR w B (.slice (some ⟨g0, 0, none⟩) n0 c0) xs) (hn0 : n0 = xs.length) (hs : SrcN w u ys) (hz : xs ++ ys = zs) (hn : n = zs.length) (hlen : n ≤ 100000) (hB : B ≤ w.heap.size)
    (h : ∀ g c w', NR w' B (.slice (some ⟨g, 0, none⟩) n c) zs → w.grownBy w' (some g0) → wpList Tryz.prog ops Q rest (a.put o.dst (.slice (some ⟨g, 0, none⟩) n c)) w') : wpList Tryz.prog ops Q (o :: rest) a w := by
  subst hz
  subst hn
  subst hn0
  refine wpList_plain hgd fun K hK => ?_
  obtain ⟨v', w', hr, h2, ⟨g, c, rfl⟩, h3⟩ := app_runN (ty := o.type) hown ⟨_, _, rfl⟩ hs (by rw [List.length_append] at hlen; exact hlen) hB
  unfold Oper.wp execOp
  simp only [ho, resolve, invoke, builtin, Sem.run_bind, Sem.run_pure, Result.andThen_ok, List.map_toArray, List.map_cons, List.map_nil, hsv, hxu, hr]
  exact hK _ _ (h g c w' h2 h3)

theorem srcN_row {w : World} {B : Nat} {xs : List Mon} {g c : Nat} (h : NR w B (.slice (some ⟨g, 0, none⟩) xs.length c) xs) {t n : Nat} (htn : t + n ≤ xs.length) (c2 : Nat) : SrcN w (.slice (some ⟨g, t * 3, none⟩) n c2) ((xs.drop t).take n) := by
  have hl : ((xs.drop t).take n).length = n := by simp; omega
  refine Or.inr ⟨⟨g, t * 3, none⟩, c2, by rw [hl], fun j u hj => ?_⟩
  rcases h.2 with ⟨h1, _⟩ | ⟨g2, cap, cur, h1, _, hg, _, _, _, ht⟩
  · cases h1
  · simp only [Value.slice.injEq, Option.some.injEq, Addr.mk.injEq, and_true] at h1
    obtain ⟨rfl, _, rfl⟩ := h1
    have hjl : j < n * 3 := by
      have := (List.getElem?_eq_some_iff.1 hj).1
      rw [len_cellsM, hl] at this
      exact this
    have e : xs.flatMap cellsM = (xs.take t).flatMap cellsM ++ (((xs.drop t).take n).flatMap cellsM ++ ((xs.drop t).drop n).flatMap cellsM) := by
      rw [← List.flatMap_append, ← List.flatMap_append, List.take_append_drop, List.take_append_drop]
    have e2 : (xs.flatMap cellsM)[t * 3 + j]? = some u := by
      rw [e, List.getElem?_append_right (by rw [len_cellsM, List.length_take]; omega), len_cellsM, List.length_take]
      have : t * 3 + j - min t xs.length * 3 = j := by omega
      rw [this, List.getElem?_append_left (by rw [len_cellsM, hl]; exact hjl)]
      exact hj
    have e3 : w.cell? ⟨g, t * 3 + j, none⟩ = some u := by
      rw [cell_of_row w g _ _ _ _ hg, ← e2, ← ht, List.getElem?_take_of_lt (by omega), Array.getElem?_toList]
    have ea : ((⟨g, t * 3, none⟩ : Addr).add j) = ⟨g, t * 3 + j, none⟩ := by cases j <;> simp [Addr.add]
    rw [ea]
    exact e3
theorem srcN_empty (w : World) (ad : Addr) (n c : Nat) (ys : List Mon) (hn : n = 0) (hy : ys = []) : SrcN w (.slice (some ad) n c) ys := by
  subst hn
  subst hy
  exact Or.inr ⟨ad, c, rfl, fun j v hj => by simp at hj⟩
theorem nr_lit0 (w : World) : NR (w.alloc (.cells #[] 122)) w.heap.size (.slice (some ⟨w.heap.size, 0, none⟩) 0 0) [] :=
  ⟨rfl, Or.inr ⟨w.heap.size, 0, #[], rfl, Nat.le_refl _, Cl.new _ _ _ _ rfl, by simp, by decide, rfl, rfl⟩⟩
theorem srcN_one (w : World) (x y z : Int) : SrcN (w.alloc (.cells #[.int .i64 x, .int .i64 y, .int .i64 z] 122)) (.slice (some ⟨w.heap.size, 0, none⟩) 1 1) [(x, y, z)] :=
  Or.inr ⟨⟨w.heap.size, 0, none⟩, 1, rfl, fun j u hj => cell_new3 w _ _ _ 122 j u (by simpa using hj)⟩

end Go.Proofs.YtofcniodobjopaaGreat
