/- The document's rows of names; an own row, another's cells (or none) put behind it. -/
import Derived.Test.YtpojkmpimnnjiaaGreatNrM
import Derived.Deep.AppendSrc
import Derived.Deep.QuietTactic
import Derived.BigQuiet
namespace Go.Proofs.YtpojkmpimnnjiaaGreat
open Go.RowKit Go.Maps

theorem info_pr2 : (Tryz.prog.info? 42).map (fun i => (i.zero, i.size, i.bytes)) = some (some (.agg #[.string ⟨#[]⟩, .int .i64 0]), 2, 24) := by kernel_rfl
theorem und_prs : Tryz.prog.underlying 28 = some (.slice 42) := by kernel_rfl
theorem MR.cap {w : World} {B g n c : Nat} {xs : List Nd} (h : MR w B (.slice (some ⟨g, 0, none⟩) n c) xs) : xs.length ≤ c := by
  rcases h.2 with ⟨h1, _⟩ | ⟨g2, cap, cur, h1, _, _, h4, _⟩
  · cases h1
  · simp only [Value.slice.injEq] at h1
    obtain ⟨_, _, rfl⟩ := h1
    exact h4
/-- What is put behind. -/
def SrcP (w : World) (u : Value) (ys : List Nd) : Prop := (∃ c, u = .slice none 0 c ∧ ys = []) ∨ ∃ ad c, u = .slice (some ad) ys.length c ∧ ∀ j v, (ys.flatMap cellsN)[j]? = some v → w.cell? (ad.add j) = some v
theorem one_cellsN (xs : List Nd) : ∀ u ∈ xs.flatMap cellsN, u.oneCell' = true := by
  intro u hu
  obtain ⟨x, _, hx⟩ := List.mem_flatMap.1 hu
  simp only [List.mem_cons, List.not_mem_nil, or_false] at hx
  rcases hx with rfl | rfl <;> rfl
theorem app_runP {w : World} {B : Nat} {v u : Value} {xs ys : List Nd} {ty : TypeId} (hown : MR w B v xs) (hnn : ∃ g c, v = .slice (some ⟨g, 0, none⟩) xs.length c) (hs : SrcP w u ys) (hlen : xs.length + ys.length ≤ 100000) (hB : B ≤ w.heap.size) :
    ∃ v' w', (Builtin.append_ #[28, 28] ty #[v, u]).run Tryz.prog w = .ok v' w' ∧ MR w' B v' (xs ++ ys) ∧ (∃ g c, v' = .slice (some ⟨g, 0, none⟩) (xs ++ ys).length c) ∧ w.grownBy w' v.ownBlock := by
  obtain ⟨i0, hi, hz0, hz1, hz2⟩ := info_parts info_pr2
  obtain ⟨g, c, rfl⟩ := hnn
  rcases hs with ⟨c2, rfl, rfl⟩ | ⟨ad, c2, rfl, hc⟩
  · rcases hown.2 with ⟨h1, _⟩ | ⟨g2, cap, cur, h1, h2, h3, h4, h5, h6, h7⟩
    · cases h1
    · simp only [Value.slice.injEq, Option.some.injEq, Addr.mk.injEq, and_true] at h1
      obtain ⟨rfl, _, rfl⟩ := h1
      have hr := run_append_room_src (P := Tryz.prog) w 28 28 ty 42 i0 und_prs hi g 0 xs.length c (.slice none 0 c2) 0 [] (Src.ofNil w und_prs c2) (by omega) (fun j hj => by simp at hj) (fun j hj => by simp at hj)
      refine ⟨_, _, hr, ?_, ⟨g, c, by simp⟩, ⟨rfl, rfl, rfl, Nat.le_refl _, fun _ _ _ => rfl⟩⟩
      simpa [World.setCells] using hown
  · obtain ⟨v', w', hr, h2, h3, h4, h5⟩ := run_append_own_at (P := Tryz.prog) w B 28 ty 42 i0 (.agg #[.string ⟨#[]⟩, .int .i64 0]) 2 24 und_prs hi hz0 hz1 hz2 rfl (by decide) _ xs.length (xs.flatMap cellsN) hown ad ys.length c2 (ys.flatMap cellsN) (len_cellsN ys) hc (one_cellsN ys) (by unfold maxLen; omega) (by omega) hB
    have hI : MR w' B v' (xs ++ ys) := by
      unfold MR
      rw [List.length_append, List.flatMap_append]
      exact h2
    refine ⟨v', w', hr, hI, ?_, h3⟩
    rcases h2.2 with ⟨e, _⟩ | ⟨g2, cap, cur, e, _⟩
    · have := (h4.1 e).1
      cases this
    · exact ⟨g2, cap, by rw [List.length_append]; exact e⟩
/-- The operation, for the walk. -/
theorem wp_appP {ops : Array Oper} {rest : List Oper} {o : Oper} {a : Act} {w : World} {Q : Exit → Act → World → Prop} (hgd : o.guard = none) (s x : Operand) (ho : o.op = .call { callee := .builtin .append, args := #[s, x], argTypes := #[28, 28] })
    (B g0 n0 c0 : Nat) (u : Value) (xs ys zs : List Nd) (n : Nat) (hsv : a.eval s = .slice (some ⟨g0, 0, none⟩) n0 c0) (hxu : a.eval x = u) (hown : MR w B (.slice (some ⟨g0, 0, none⟩) n0 c0) xs) (hn0 : n0 = xs.length) (hs : SrcP w u ys) (hz : xs ++ ys = zs) (hn : n = zs.length) (hlen : n ≤ 100000) (hB : B ≤ w.heap.size)
    (h : ∀ g c w', MR w' B (.slice (some ⟨g, 0, none⟩) n c) zs → w.grownBy w' (some g0) → wpList Tryz.prog ops Q rest (a.put o.dst (.slice (some ⟨g, 0, none⟩) n c)) w') : wpList Tryz.prog ops Q (o :: rest) a w := by
  subst hz
  subst hn
  subst hn0
  refine wpList_plain hgd fun K hK => ?_
  obtain ⟨v', w', hr, h2, ⟨g, c, rfl⟩, h3⟩ := app_runP (ty := o.type) hown ⟨_, _, rfl⟩ hs (by rw [List.length_append] at hlen; exact hlen) hB
  unfold Oper.wp execOp
  simp only [ho, resolve, invoke, builtin, Sem.run_bind, Sem.run_pure, Result.andThen_ok, List.map_toArray, List.map_cons, List.map_nil, hsv, hxu, hr]
  exact hK _ _ (h g c w' h2 h3)

theorem srcP_row {w : World} {B : Nat} {xs : List Nd} {g c : Nat} (h : MR w B (.slice (some ⟨g, 0, none⟩) xs.length c) xs) {t n : Nat} (htn : t + n ≤ xs.length) (c2 : Nat) : SrcP w (.slice (some ⟨g, t * 2, none⟩) n c2) ((xs.drop t).take n) := by
  have hl : ((xs.drop t).take n).length = n := by simp; omega
  refine Or.inr ⟨⟨g, t * 2, none⟩, c2, by rw [hl], fun j u hj => ?_⟩
  rcases h.2 with ⟨h1, _⟩ | ⟨g2, cap, cur, h1, _, hg, _, _, _, ht⟩
  · cases h1
  · simp only [Value.slice.injEq, Option.some.injEq, Addr.mk.injEq, and_true] at h1
    obtain ⟨rfl, _, rfl⟩ := h1
    have hjl : j < n * 2 := by
      have := (List.getElem?_eq_some_iff.1 hj).1
      rw [len_cellsN, hl] at this
      exact this
    have e : xs.flatMap cellsN = (xs.take t).flatMap cellsN ++ (((xs.drop t).take n).flatMap cellsN ++ ((xs.drop t).drop n).flatMap cellsN) := by
      rw [← List.flatMap_append, ← List.flatMap_append, List.take_append_drop, List.take_append_drop]
    have e2 : (xs.flatMap cellsN)[t * 2 + j]? = some u := by
      rw [e, List.getElem?_append_right (by rw [len_cellsN, List.length_take]; omega), len_cellsN, List.length_take]
      have : t * 2 + j - min t xs.length * 2 = j := by omega
      rw [this, List.getElem?_append_left (by rw [len_cellsN, hl]; exact hjl)]
      exact hj
    have e3 : w.cell? ⟨g, t * 2 + j, none⟩ = some u := by
      rw [cell_of_row w g _ _ _ _ hg, ← e2, ← ht, List.getElem?_take_of_lt (by omega), Array.getElem?_toList]
    have ea : ((⟨g, t * 2, none⟩ : Addr).add j) = ⟨g, t * 2 + j, none⟩ := by cases j <;> simp [Addr.add]
    rw [ea]
    exact e3
theorem srcP_empty (w : World) (ad : Addr) (n c : Nat) (ys : List Nd) (hn : n = 0) (hy : ys = []) : SrcP w (.slice (some ad) n c) ys := by
  subst hn
  subst hy
  exact Or.inr ⟨ad, c, rfl, fun j v hj => by simp at hj⟩
theorem mr_lit0 (w : World) : MR (w.alloc (.cells #[] 42)) w.heap.size (.slice (some ⟨w.heap.size, 0, none⟩) 0 0) [] :=
  ⟨rfl, Or.inr ⟨w.heap.size, 0, #[], rfl, Nat.le_refl _, Cl.new _ _ _ _ rfl, by simp, by decide, rfl, rfl⟩⟩
theorem srcP_one (w : World) (x : BS) (y : Int) : SrcP (w.alloc (.cells #[encStr x, .int .i64 y] 42)) (.slice (some ⟨w.heap.size, 0, none⟩) 1 1) [(x, y)] :=
  Or.inr ⟨⟨w.heap.size, 0, none⟩, 1, rfl, fun j u hj => cell_new2 w _ _ 42 j u (by simpa using hj)⟩

theorem MR.updS {S : List Nat} {w w' : World} {B : Nat} {v : Value} {xs : List Nd} (h : MR w B v xs) (hu : Upd S w w') (hn : ∀ g, v.ownBlock = some g → g ∉ S) : MR w' B v xs := by
  obtain ⟨h1, h2⟩ := h
  refine ⟨h1, ?_⟩
  rcases h2 with h2 | ⟨g, cap, cur, rfl, hB, hg, r⟩
  · exact Or.inl h2
  · exact Or.inr ⟨g, cap, cur, rfl, hB, (hu.block g (Array.getElem?_eq_some_iff.1 hg).1 (hn g rfl)).trans hg, r⟩
theorem srcP_head {w : World} {B : Nat} {xs : List Nd} {g c : Nat} (h : MR w B (.slice (some ⟨g, 0, none⟩) xs.length c) xs) {t : Nat} (ht : t ≤ xs.length) (c2 : Nat) : SrcP w (.slice (some ⟨g, 0, none⟩) t c2) (xs.take t) := by
  have := srcP_row h (t := 0) (n := t) (by omega) c2
  rw [List.drop_zero] at this
  exact this
theorem srcP_tail {w : World} {B : Nat} {xs : List Nd} {g c : Nat} (h : MR w B (.slice (some ⟨g, 0, none⟩) xs.length c) xs) {t : Nat} (ht : t ≤ xs.length) (c2 : Nat) : SrcP w (.slice (some ⟨g, t * 2, none⟩) (xs.length - t) c2) (xs.drop t) := by
  have := srcP_row h (t := t) (n := xs.length - t) (by omega) c2
  rw [List.take_of_length_le (by simp)] at this
  exact this


end Go.Proofs.YtpojkmpimnnjiaaGreat
