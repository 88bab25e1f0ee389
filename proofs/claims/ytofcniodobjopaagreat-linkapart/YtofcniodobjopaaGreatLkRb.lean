/- An own row of ints, another's cells (or none) put behind it; what an insertion does. -/
import Derived.Test.YtofcniodobjopaaGreatLkRa
import Derived.Deep.AppendSrc
namespace Go.Proofs.YtofcniodobjopaaGreat
open Go.RowKit Go.Maps

/-- What is put behind. -/
def SrcI (w : World) (u : Value) (ys : List Int) : Prop := (∃ c, u = .slice none 0 c ∧ ys = []) ∨ ∃ ad c, u = .slice (some ad) ys.length c ∧ ∀ j v, (ys.map encZ)[j]? = some v → w.cell? (ad.add j) = some v
theorem one_cells (xs : List Int) : ∀ u ∈ xs.map encZ, u.oneCell' = true := by
  intro u hu
  obtain ⟨x, _, rfl⟩ := List.mem_map.1 hu
  rfl
theorem app_run {w : World} {B : Nat} {v u : Value} {xs ys : List Int} {ty : TypeId} (hown : IR w B v xs) (hnn : ∃ g c, v = .slice (some ⟨g, 0, none⟩) xs.length c) (hs : SrcI w u ys) (hlen : xs.length + ys.length ≤ 100000) (hB : B ≤ w.heap.size) :
    ∃ v' w', (Builtin.append_ #[25, 25] ty #[v, u]).run Tryz.prog w = .ok v' w' ∧ IR w' B v' (xs ++ ys) ∧ (∃ g c, v' = .slice (some ⟨g, 0, none⟩) (xs ++ ys).length c) ∧ w.grownBy w' v.ownBlock := by
  obtain ⟨i0, hi, hz0, hz1, hz2⟩ := info_parts info_int2
  obtain ⟨g, c, rfl⟩ := hnn
  rcases hs with ⟨c2, rfl, rfl⟩ | ⟨ad, c2, rfl, hc⟩
  · rcases hown.2 with ⟨h1, _⟩ | ⟨g2, cap, cur, h1, h2, h3, h4, h5, h6, h7⟩
    · cases h1
    · simp only [Value.slice.injEq, Option.some.injEq, Addr.mk.injEq, and_true] at h1
      obtain ⟨rfl, _, rfl⟩ := h1
      have hr := run_append_room_src (P := Tryz.prog) w 25 25 ty 3 i0 Tryz.underlying25 hi g 0 xs.length c (.slice none 0 c2) 0 [] (Src.ofNil w Tryz.underlying25 c2) (by omega) (fun j hj => by simp at hj) (fun j hj => by simp at hj)
      refine ⟨_, _, hr, ?_, ⟨g, c, by simp⟩, ⟨rfl, rfl, rfl, Nat.le_refl _, fun _ _ _ => rfl⟩⟩
      simpa [World.setCells] using hown
  · obtain ⟨v', w', hr, h2, h3, h4, h5⟩ := run_append_own_at (P := Tryz.prog) w B 25 ty 3 i0 (.int .i64 0) 1 8 Tryz.underlying25 hi hz0 hz1 hz2 rfl (by decide) _ xs.length (xs.map encZ) hown ad ys.length c2 (ys.map encZ) (by simp) hc (one_cells ys) (by unfold maxLen; omega) (by omega) hB
    have hI : IR w' B v' (xs ++ ys) := by
      unfold IR
      rw [List.length_append, List.map_append]
      exact h2
    refine ⟨v', w', hr, hI, ?_, h3⟩
    rcases h2.2 with ⟨e, _⟩ | ⟨g2, cap, cur, e, _⟩
    · have := (h4.1 e).1
      cases this
    · exact ⟨g2, cap, by rw [List.length_append]; exact e⟩
/-- The operation, for the walk. -/
theorem wp_app {ops : Array Oper} {rest : List Oper} {o : Oper} {a : Act} {w : World} {Q : Exit → Act → World → Prop} (hgd : o.guard = none) (s x : Operand) (ho : o.op = .call { callee := .builtin .append, args := #[s, x], argTypes := #[25, 25] })
    (B : Nat) (v u : Value) (xs ys : List Int) (hsv : a.eval s = v) (hxu : a.eval x = u) (hown : IR w B v xs) (hnn : ∃ g c, v = .slice (some ⟨g, 0, none⟩) xs.length c) (hs : SrcI w u ys) (hlen : xs.length + ys.length ≤ 100000) (hB : B ≤ w.heap.size)
    (h : ∀ g c w', IR w' B (.slice (some ⟨g, 0, none⟩) (xs ++ ys).length c) (xs ++ ys) → w.grownBy w' v.ownBlock → wpList Tryz.prog ops Q rest (a.put o.dst (.slice (some ⟨g, 0, none⟩) (xs ++ ys).length c)) w') : wpList Tryz.prog ops Q (o :: rest) a w := by
  refine wpList_plain hgd fun K hK => ?_
  obtain ⟨v', w', hr, h2, ⟨g, c, rfl⟩, h3⟩ := app_run (ty := o.type) hown hnn hs hlen hB
  unfold Oper.wp execOp
  simp only [ho, resolve, invoke, builtin, Sem.run_bind, Sem.run_pure, Result.andThen_ok, List.map_toArray, List.map_cons, List.map_nil, hsv, hxu, hr]
  exact hK _ _ (h g c w' h2 h3)

/-- Put in its place. -/
theorem insert_sorted {xs : List Int} (h : xs.Pairwise (· < ·)) {t : Nat} {o : Int} (ht : t ≤ xs.length) (hlo : ∀ j (hj : j < xs.length), j < t → xs[j] < o) (hhi : ∀ j (hj : j < xs.length), t ≤ j → o < xs[j]) : (xs.take t ++ [o] ++ xs.drop t).Pairwise (· < ·) := by
  rw [List.append_assoc, List.pairwise_append]
  refine ⟨h.sublist (List.take_sublist _ _), ?_, fun x hx y hy => ?_⟩
  · rw [List.singleton_append, List.pairwise_cons]
    refine ⟨fun y hy => ?_, h.sublist (List.drop_sublist _ _)⟩
    obtain ⟨j, hj, rfl⟩ := List.mem_iff_getElem.1 hy
    rw [List.length_drop] at hj
    rw [List.getElem_drop]
    exact hhi _ (by omega) (by omega)
  · obtain ⟨i, hi, rfl⟩ := List.mem_iff_getElem.1 hx
    rw [List.length_take] at hi
    rw [List.getElem_take]
    rw [List.singleton_append, List.mem_cons] at hy
    rcases hy with rfl | hy
    · exact hlo i (by omega) (by omega)
    · obtain ⟨j, hj, rfl⟩ := List.mem_iff_getElem.1 hy
      rw [List.length_drop] at hj
      rw [List.getElem_drop]
      exact List.pairwise_iff_getElem.1 h _ _ _ _ (by omega)
theorem insert_mem (xs : List Int) (t : Nat) (o y : Int) : y ∈ xs.take t ++ [o] ++ xs.drop t ↔ y ∈ xs ∨ y = o := by
  rw [List.mem_append, List.mem_append, List.mem_singleton]
  constructor
  · rintro ((h | h) | h)
    · exact Or.inl (List.mem_of_mem_take h)
    · exact Or.inr h
    · exact Or.inl (List.mem_of_mem_drop h)
  · rintro (h | h)
    · rw [← List.take_append_drop t xs, List.mem_append] at h
      rcases h with h | h
      · exact Or.inl (Or.inl h)
      · exact Or.inr h
    · exact Or.inl (Or.inr h)

/-- Whom a pair names beside a. -/
def oth (a : Int) (p : Int × Int) : Option Int := if p.1 == a then some p.2 else if p.2 == a then some p.1 else none
/-- Those whom the first k pairs name beside a, rising. -/
def OutK (ps : List (Int × Int)) (a : Int) (k : Nat) (xs : List Int) : Prop := xs.Pairwise (· < ·) ∧ xs.length ≤ k ∧ ∀ y, y ∈ xs ↔ ∃ p, p ∈ ps.take k ∧ oth a p = some y
/-- The rows that the reference makes. -/
def PsOk (ps : List (Int × Int)) : Prop := ps.Nodup ∧ ∀ p, p ∈ ps → p.1 < p.2
theorem oth_pair {a y : Int} {p : Int × Int} (h : oth a p = some y) (hp : p.1 < p.2) : p = (min a y, max a y) ∧ a ≠ y := by
  obtain ⟨x, z⟩ := p
  unfold oth at h
  simp only at h hp
  split at h
  · rename_i h1
    rw [beq_iff_eq] at h1
    cases h
    subst h1
    exact ⟨by rw [Int.min_eq_left (by omega), Int.max_eq_right (by omega)], by omega⟩
  · split at h
    · rename_i h1
      rw [beq_iff_eq] at h1
      cases h
      subst h1
      exact ⟨by rw [Int.min_eq_right (by omega), Int.max_eq_left (by omega)], by omega⟩
    · cases h
theorem OutK.fresh {ps : List (Int × Int)} {a : Int} {k : Nat} {xs : List Int} (h : OutK ps a k xs) (hps : PsOk ps) (hk : k < ps.length) {o : Int} (ho : oth a ps[k] = some o) : o ∉ xs := by
  intro hm
  obtain ⟨p, hp, hpo⟩ := (h.2.2 o).1 hm
  have e1 := (oth_pair ho (hps.2 _ (List.getElem_mem hk))).1
  have e2 := (oth_pair hpo (hps.2 _ (List.mem_of_mem_take hp))).1
  obtain ⟨j, hj, e3⟩ := List.mem_iff_getElem.1 hp
  rw [List.length_take] at hj
  rw [List.getElem_take] at e3
  have : ps[j] = ps[k] := by rw [e3, e2, e1]
  have hjk := (List.getElem_inj hps.1).1 this
  omega
theorem OutK.step {ps : List (Int × Int)} {a : Int} {k : Nat} {xs : List Int} (h : OutK ps a k xs) (hk : k < ps.length) {o : Int} (ho : oth a ps[k] = some o) {t : Nat} (ht : t ≤ xs.length) (hlo : ∀ j (hj : j < xs.length), j < t → xs[j] < o) (hhi : ∀ j (hj : j < xs.length), t ≤ j → o < xs[j]) : OutK ps a (k + 1) (xs.take t ++ [o] ++ xs.drop t) := by
  refine ⟨insert_sorted h.1 ht hlo hhi, ?_, fun y => ?_⟩
  · have := h.2.1
    simp
    omega
  · rw [insert_mem, h.2.2, List.take_succ_eq_append_getElem hk]
    constructor
    · rintro (⟨p, hp, e⟩ | rfl)
      · exact ⟨p, List.mem_append_left _ hp, e⟩
      · exact ⟨_, List.mem_append_right _ (List.mem_singleton.2 rfl), ho⟩
    · rintro ⟨p, hp, e⟩
      rcases List.mem_append.1 hp with hp | hp
      · exact Or.inl ⟨p, hp, e⟩
      · rw [List.mem_singleton] at hp
        subst hp
        rw [ho] at e
        cases e
        exact Or.inr rfl
theorem OutK.skip {ps : List (Int × Int)} {a : Int} {k : Nat} {xs : List Int} (h : OutK ps a k xs) (hk : k < ps.length) (ho : oth a ps[k] = none) : OutK ps a (k + 1) xs := by
  refine ⟨h.1, Nat.le_succ_of_le h.2.1, fun y => ?_⟩
  rw [h.2.2, List.take_succ_eq_append_getElem hk]
  constructor
  · rintro ⟨p, hp, e⟩
    exact ⟨p, List.mem_append_left _ hp, e⟩
  · rintro ⟨p, hp, e⟩
    rcases List.mem_append.1 hp with hp | hp
    · exact ⟨p, hp, e⟩
    · rw [List.mem_singleton] at hp
      subst hp
      rw [ho] at e
      cases e

end Go.Proofs.YtofcniodobjopaaGreat
