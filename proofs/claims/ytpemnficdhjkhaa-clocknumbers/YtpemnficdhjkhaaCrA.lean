/- The document's rows of those who wait; an own row, another's cells (or none) put behind it. -/
import Derived.Test.YtpemnficdhjkhaaCrM
import Derived.Deep.AppendSrc
import Derived.Deep.QuietTactic
import Derived.BigQuiet
namespace Go.Proofs.Ytpemnficdhjkhaa
open Go.RowKit Go.Maps

/-- A row of pairs. -/
abbrev cellsP (p : Int × Int) : List Value := [.int .i64 p.1, .int .i64 p.2]
def PR (w : World) (B : Nat) (v : Value) (ps : List (Int × Int)) : Prop := w.ownsRow B 50 2 v ps.length (ps.flatMap cellsP)
theorem PR.form {w : World} {B : Nat} {v : Value} {xs : List (Int × Int)} (h : PR w B v xs) : ∃ p c, v = .slice p xs.length c := by
  rcases h.2 with ⟨h1, h2⟩ | ⟨g, cap, cur, h1, _⟩
  · exact ⟨none, 0, by rw [h1, h2]⟩
  · exact ⟨_, _, h1⟩
theorem PR.le {w : World} {B : Nat} {v : Value} {ms : List (Int × Int)} (h : PR w B v ms) : ms.length ≤ maxLen := by
  rcases h.2 with ⟨_, h2⟩ | ⟨g, cap, cur, _, _, _, h1, h2, _⟩
  · omega
  · omega
theorem flat_at (K : List (Int × Int)) : ∀ (k : Nat) (hk : k < K.length) (j : Nat), j < 2 → (K.flatMap cellsP)[k * 2 + j]? = (cellsP K[k])[j]? := by
  induction K with
  | nil => intro k hk; simp at hk
  | cons p r ih =>
    intro k hk j hj
    rw [List.flatMap_cons]
    cases k with
    | zero =>
      rw [List.getElem?_append_left (by simp; omega)]
      simp
    | succ k =>
      have e : (k + 1) * 2 + j - 2 = k * 2 + j := by omega
      rw [List.getElem?_append_right (by simp; omega)]
      simp only [List.length_cons, List.length_nil, Nat.zero_add, Nat.reduceAdd]
      rw [e, ih k (by simpa using hk) j hj]
      simp
theorem PR.cells {w : World} {B : Nat} {v : Value} {ps : List (Int × Int)} (h : PR w B v ps) {k : Nat} (hk : k < ps.length) : ∃ g c, v = .slice (some ⟨g, 0, none⟩) ps.length c ∧ w.cell? ⟨g, k * 2, none⟩ = some (.int .i64 ps[k].1) ∧ w.cell? ⟨g, k * 2 + 1, none⟩ = some (.int .i64 ps[k].2) := by
  rcases h.2 with ⟨_, h2⟩ | ⟨g, cap, cur, h1, _, hg, _, _, _, ht⟩
  · omega
  · have hat : ∀ j, j < 2 → w.cell? ⟨g, k * 2 + j, none⟩ = (cellsP ps[k])[j]? := by
      intro j hj
      rw [cell_of_row w g _ _ _ _ hg]
      have h3 : (cur.toList.take (ps.length * 2))[k * 2 + j]? = (ps.flatMap cellsP)[k * 2 + j]? := by rw [ht]
      rw [List.getElem?_take_of_lt (by omega), Array.getElem?_toList] at h3
      rw [h3, flat_at ps k hk j hj]
    exact ⟨g, cap, h1, hat 0 (by omega), hat 1 (by omega)⟩


theorem info_pr2 : (Try.prog.info? 50).map (fun i => (i.zero, i.size, i.bytes)) = some (some (.agg #[.int .i64 0, .int .i64 0]), 2, 16) := by kernel_rfl
theorem und_prs : Try.prog.underlying 26 = some (.slice 50) := by kernel_rfl
theorem len_cellsP (ms : List (Int × Int)) : (ms.flatMap cellsP).length = ms.length * 2 := by
  induction ms with
  | nil => rfl
  | cons m r ih => rw [List.flatMap_cons, List.length_append, ih]; simp; omega
theorem cell_new2 (w : World) (a b : Value) (t : TypeId) : ∀ j u, [a, b][j]? = some u → (w.alloc (.cells #[a, b] t)).cell? ((⟨w.heap.size, 0, none⟩ : Addr).add j) = some u := by
  intro j u hj
  have h := Cl.new w #[a, b] t _ rfl
  have e : ((⟨w.heap.size, 0, none⟩ : Addr).add j) = ⟨w.heap.size, j, none⟩ := by cases j <;> simp [Addr.add]
  rw [e, h.cell]
  simpa using hj
theorem PR.upd {w w' : World} {B : Nat} {v : Value} {xs : List (Int × Int)} (h : PR w B v xs) (hu : Upd [] w w') : PR w' B v xs := by
  obtain ⟨h1, h2⟩ := h
  refine ⟨h1, ?_⟩
  rcases h2 with h2 | ⟨g, cap, cur, rfl, hB, hg, r⟩
  · exact Or.inl h2
  · exact Or.inr ⟨g, cap, cur, rfl, hB, (hu.block g (Array.getElem?_eq_some_iff.1 hg).1 (by simp)).trans hg, r⟩
theorem PR.base {w : World} {B B' : Nat} {v : Value} {xs : List (Int × Int)} (h : PR w B v xs) (hB : B' ≤ B) : PR w B' v xs := by
  obtain ⟨h1, h2⟩ := h
  refine ⟨h1, ?_⟩
  rcases h2 with h2 | ⟨g, cap, cur, rfl, hb, r⟩
  · exact Or.inl h2
  · exact Or.inr ⟨g, cap, cur, rfl, Nat.le_trans hB hb, r⟩
theorem PR.own {w : World} {B : Nat} {v : Value} {xs : List (Int × Int)} (h : PR w B v xs) {g : Nat} (hg : v.ownBlock = some g) : B ≤ g ∧ g < w.heap.size := by
  rcases h.2 with ⟨h2, _⟩ | ⟨g', cap, cur, rfl, hb, hg', _⟩
  · rw [h2] at hg; cases hg
  · cases hg; exact ⟨hb, (Array.getElem?_eq_some_iff.1 hg').1⟩
theorem PR.cap {w : World} {B g n c : Nat} {xs : List (Int × Int)} (h : PR w B (.slice (some ⟨g, 0, none⟩) n c) xs) : xs.length ≤ c := by
  rcases h.2 with ⟨h1, _⟩ | ⟨g2, cap, cur, h1, _, _, h4, _⟩
  · cases h1
  · simp only [Value.slice.injEq] at h1
    obtain ⟨_, _, rfl⟩ := h1
    exact h4
/-- What is put behind. -/
def SrcP (w : World) (u : Value) (ys : List (Int × Int)) : Prop := (∃ c, u = .slice none 0 c ∧ ys = []) ∨ ∃ ad c, u = .slice (some ad) ys.length c ∧ ∀ j v, (ys.flatMap cellsP)[j]? = some v → w.cell? (ad.add j) = some v
theorem one_cellsP (xs : List (Int × Int)) : ∀ u ∈ xs.flatMap cellsP, u.oneCell' = true := by
  intro u hu
  obtain ⟨x, _, hx⟩ := List.mem_flatMap.1 hu
  simp only [List.mem_cons, List.not_mem_nil, or_false] at hx
  rcases hx with rfl | rfl <;> rfl
theorem app_runP {w : World} {B : Nat} {v u : Value} {xs ys : List (Int × Int)} {ty : TypeId} (hown : PR w B v xs) (hnn : ∃ g c, v = .slice (some ⟨g, 0, none⟩) xs.length c) (hs : SrcP w u ys) (hlen : xs.length + ys.length ≤ 100000) (hB : B ≤ w.heap.size) :
    ∃ v' w', (Builtin.append_ #[26, 26] ty #[v, u]).run Try.prog w = .ok v' w' ∧ PR w' B v' (xs ++ ys) ∧ (∃ g c, v' = .slice (some ⟨g, 0, none⟩) (xs ++ ys).length c) ∧ w.grownBy w' v.ownBlock := by
  obtain ⟨i0, hi, hz0, hz1, hz2⟩ := info_parts info_pr2
  obtain ⟨g, c, rfl⟩ := hnn
  rcases hs with ⟨c2, rfl, rfl⟩ | ⟨ad, c2, rfl, hc⟩
  · rcases hown.2 with ⟨h1, _⟩ | ⟨g2, cap, cur, h1, h2, h3, h4, h5, h6, h7⟩
    · cases h1
    · simp only [Value.slice.injEq, Option.some.injEq, Addr.mk.injEq, and_true] at h1
      obtain ⟨rfl, _, rfl⟩ := h1
      have hr := run_append_room_src (P := Try.prog) w 26 26 ty 50 i0 und_prs hi g 0 xs.length c (.slice none 0 c2) 0 [] (Src.ofNil w und_prs c2) (by omega) (fun j hj => by simp at hj) (fun j hj => by simp at hj)
      refine ⟨_, _, hr, ?_, ⟨g, c, by simp⟩, ⟨rfl, rfl, rfl, Nat.le_refl _, fun _ _ _ => rfl⟩⟩
      simpa [World.setCells] using hown
  · obtain ⟨v', w', hr, h2, h3, h4, h5⟩ := run_append_own_at (P := Try.prog) w B 26 ty 50 i0 (.agg #[.int .i64 0, .int .i64 0]) 2 16 und_prs hi hz0 hz1 hz2 rfl (by decide) _ xs.length (xs.flatMap cellsP) hown ad ys.length c2 (ys.flatMap cellsP) (len_cellsP ys) hc (one_cellsP ys) (by unfold maxLen; omega) (by omega) hB
    have hI : PR w' B v' (xs ++ ys) := by
      unfold PR
      rw [List.length_append, List.flatMap_append]
      exact h2
    refine ⟨v', w', hr, hI, ?_, h3⟩
    rcases h2.2 with ⟨e, _⟩ | ⟨g2, cap, cur, e, _⟩
    · have := (h4.1 e).1
      cases this
    · exact ⟨g2, cap, by rw [List.length_append]; exact e⟩
/-- The operation, for the walk. -/
theorem wp_appP {ops : Array Oper} {rest : List Oper} {o : Oper} {a : Act} {w : World} {Q : Exit → Act → World → Prop} (hgd : o.guard = none) (s x : Operand) (ho : o.op = .call { callee := .builtin .append, args := #[s, x], argTypes := #[26, 26] })
    (B g0 n0 c0 : Nat) (u : Value) (xs ys zs : List (Int × Int)) (n : Nat) (hsv : a.eval s = .slice (some ⟨g0, 0, none⟩) n0 c0) (hxu : a.eval x = u) (hown : PR w B (.slice (some ⟨g0, 0, none⟩) n0 c0) xs) (hn0 : n0 = xs.length) (hs : SrcP w u ys) (hz : xs ++ ys = zs) (hn : n = zs.length) (hlen : n ≤ 100000) (hB : B ≤ w.heap.size)
    (h : ∀ g c w', PR w' B (.slice (some ⟨g, 0, none⟩) n c) zs → w.grownBy w' (some g0) → wpList Try.prog ops Q rest (a.put o.dst (.slice (some ⟨g, 0, none⟩) n c)) w') : wpList Try.prog ops Q (o :: rest) a w := by
  subst hz
  subst hn
  subst hn0
  refine wpList_plain hgd fun K hK => ?_
  obtain ⟨v', w', hr, h2, ⟨g, c, rfl⟩, h3⟩ := app_runP (ty := o.type) hown ⟨_, _, rfl⟩ hs (by rw [List.length_append] at hlen; exact hlen) hB
  unfold Oper.wp execOp
  simp only [ho, resolve, invoke, builtin, Sem.run_bind, Sem.run_pure, Result.andThen_ok, List.map_toArray, List.map_cons, List.map_nil, hsv, hxu, hr]
  exact hK _ _ (h g c w' h2 h3)

theorem srcP_row {w : World} {B : Nat} {xs : List (Int × Int)} {g c : Nat} (h : PR w B (.slice (some ⟨g, 0, none⟩) xs.length c) xs) {t n : Nat} (htn : t + n ≤ xs.length) (c2 : Nat) : SrcP w (.slice (some ⟨g, t * 2, none⟩) n c2) ((xs.drop t).take n) := by
  have hl : ((xs.drop t).take n).length = n := by simp; omega
  refine Or.inr ⟨⟨g, t * 2, none⟩, c2, by rw [hl], fun j u hj => ?_⟩
  rcases h.2 with ⟨h1, _⟩ | ⟨g2, cap, cur, h1, _, hg, _, _, _, ht⟩
  · cases h1
  · simp only [Value.slice.injEq, Option.some.injEq, Addr.mk.injEq, and_true] at h1
    obtain ⟨rfl, _, rfl⟩ := h1
    have hjl : j < n * 2 := by
      have := (List.getElem?_eq_some_iff.1 hj).1
      rw [len_cellsP, hl] at this
      exact this
    have e : xs.flatMap cellsP = (xs.take t).flatMap cellsP ++ (((xs.drop t).take n).flatMap cellsP ++ ((xs.drop t).drop n).flatMap cellsP) := by
      rw [← List.flatMap_append, ← List.flatMap_append, List.take_append_drop, List.take_append_drop]
    have e2 : (xs.flatMap cellsP)[t * 2 + j]? = some u := by
      rw [e, List.getElem?_append_right (by rw [len_cellsP, List.length_take]; omega), len_cellsP, List.length_take]
      have : t * 2 + j - min t xs.length * 2 = j := by omega
      rw [this, List.getElem?_append_left (by rw [len_cellsP, hl]; exact hjl)]
      exact hj
    have e3 : w.cell? ⟨g, t * 2 + j, none⟩ = some u := by
      rw [cell_of_row w g _ _ _ _ hg, ← e2, ← ht, List.getElem?_take_of_lt (by omega), Array.getElem?_toList]
    have ea : ((⟨g, t * 2, none⟩ : Addr).add j) = ⟨g, t * 2 + j, none⟩ := by cases j <;> simp [Addr.add]
    rw [ea]
    exact e3
theorem srcP_empty (w : World) (ad : Addr) (n c : Nat) (ys : List (Int × Int)) (hn : n = 0) (hy : ys = []) : SrcP w (.slice (some ad) n c) ys := by
  subst hn
  subst hy
  exact Or.inr ⟨ad, c, rfl, fun j v hj => by simp at hj⟩
theorem pr_lit0 (w : World) : PR (w.alloc (.cells #[] 50)) w.heap.size (.slice (some ⟨w.heap.size, 0, none⟩) 0 0) [] :=
  ⟨rfl, Or.inr ⟨w.heap.size, 0, #[], rfl, Nat.le_refl _, Cl.new _ _ _ _ rfl, by simp, by decide, rfl, rfl⟩⟩
theorem srcP_one (w : World) (x y : Int) : SrcP (w.alloc (.cells #[.int .i64 x, .int .i64 y] 50)) (.slice (some ⟨w.heap.size, 0, none⟩) 1 1) [(x, y)] :=
  Or.inr ⟨⟨w.heap.size, 0, none⟩, 1, rfl, fun j u hj => cell_new2 w _ _ 50 j u (by simpa using hj)⟩

theorem PR.updS {S : List Nat} {w w' : World} {B : Nat} {v : Value} {xs : List (Int × Int)} (h : PR w B v xs) (hu : Upd S w w') (hn : ∀ g, v.ownBlock = some g → g ∉ S) : PR w' B v xs := by
  obtain ⟨h1, h2⟩ := h
  refine ⟨h1, ?_⟩
  rcases h2 with h2 | ⟨g, cap, cur, rfl, hB, hg, r⟩
  · exact Or.inl h2
  · exact Or.inr ⟨g, cap, cur, rfl, hB, (hu.block g (Array.getElem?_eq_some_iff.1 hg).1 (hn g rfl)).trans hg, r⟩
theorem srcP_head {w : World} {B : Nat} {xs : List (Int × Int)} {g c : Nat} (h : PR w B (.slice (some ⟨g, 0, none⟩) xs.length c) xs) {t : Nat} (ht : t ≤ xs.length) (c2 : Nat) : SrcP w (.slice (some ⟨g, 0, none⟩) t c2) (xs.take t) := by
  have := srcP_row h (t := 0) (n := t) (by omega) c2
  rw [List.drop_zero] at this
  exact this
theorem srcP_tail {w : World} {B : Nat} {xs : List (Int × Int)} {g c : Nat} (h : PR w B (.slice (some ⟨g, 0, none⟩) xs.length c) xs) {t : Nat} (ht : t ≤ xs.length) (c2 : Nat) : SrcP w (.slice (some ⟨g, t * 2, none⟩) (xs.length - t) c2) (xs.drop t) := by
  have := srcP_row h (t := t) (n := xs.length - t) (by omega) c2
  rw [List.take_of_length_le (by simp)] at this
  exact this


end Go.Proofs.Ytpemnficdhjkhaa
