/- LinkLives: the reference's rows against the program's links and monitors, as mathematics. -/
import Derived.Test.YtofcniodobjopaaGreatLkRy
namespace Go.Proofs.YtofcniodobjopaaGreat
open Go.RowKit Go.Maps

/-- The pairs are the links. -/
def SimL (L : LF) (ps : List (Int × Int)) : Prop := PsOk ps ∧ ∀ x y, L x y = true ↔ x ≠ y ∧ (min x y, max x y) ∈ ps
variable {L : LF} {ps : List (Int × Int)} {M : MF} {ms : List Mon}
theorem SimL.start : SimL (fun _ _ => false) [] := ⟨⟨List.nodup_nil, fun p hp => by cases hp⟩, fun x y => by simp⟩
theorem mm_eq (a b x y : Int) : ((min x y, max x y) = (min a b, max a b)) ↔ (x = a ∧ y = b) ∨ (x = b ∧ y = a) := by
  rw [Prod.mk.injEq]
  omega
theorem SimL.has (h : SimL L ps) (a b : Int) (hab : a ≠ b) : ps.contains (min a b, max a b) = L a b := by
  rw [Bool.eq_iff_iff, h.2, List.contains_iff_mem]
  exact ⟨fun h => ⟨hab, h⟩, fun h => h.2⟩
theorem SimL.no (h : SimL L ps) (a : Int) : ps.contains (min a a, max a a) = false := by
  cases hc : ps.contains (min a a, max a a) with
  | false => rfl
  | true =>
    have := h.1.2 _ (List.contains_iff_mem.1 hc)
    simp at this
theorem SimL.self (h : SimL L ps) (a : Int) : L a a = false := by
  cases hc : L a a with
  | false => rfl
  | true => exact absurd rfl ((h.2 a a).1 hc).1
theorem SimL.link (h : SimL L ps) {a b : Int} (hab : a ≠ b) (hc : ps.contains (min a b, max a b) = false) : SimL (linkL L a b) (ps ++ [(min a b, max a b)]) := by
  refine ⟨⟨?_, fun p hp => ?_⟩, fun x y => ?_⟩
  · rw [List.nodup_append]
    refine ⟨h.1.1, by simp, fun p hp q hq e => ?_⟩
    rw [List.mem_singleton] at hq
    subst hq
    subst e
    rw [List.contains_iff_mem.2 hp] at hc
    cases hc
  · rcases List.mem_append.1 hp with hp | hp
    · exact h.1.2 p hp
    · rw [List.mem_singleton] at hp
      subst hp
      show min a b < max a b
      omega
  · rw [linkL_val, List.mem_append, List.mem_singleton, mm_eq]
    by_cases hx : (x = a ∧ y = b) ∨ (x = b ∧ y = a)
    · rw [if_pos ⟨hab, hx⟩]
      simp only [true_iff]
      exact ⟨by omega, Or.inr hx⟩
    · rw [if_neg (fun h => hx h.2), h.2]
      simp [hx]
theorem SimL.same (h : SimL L ps) {a b : Int} (hc : a = b ∨ ps.contains (min a b, max a b) = true) : linkL L a b = L := by
  funext x y
  rw [linkL_val]
  by_cases hx : a ≠ b ∧ ((x = a ∧ y = b) ∨ (x = b ∧ y = a))
  · rw [if_pos hx]
    rcases hc with hc | hc
    · exact absurd hc hx.1
    · symm
      rw [h.2]
      refine ⟨by omega, ?_⟩
      rw [(mm_eq a b x y).2 hx.2]
      exact List.contains_iff_mem.1 hc
  · rw [if_neg hx]
theorem take_drop_filter {ps : List (Int × Int)} (h : ps.Nodup) {k : Nat} (hk : k < ps.length) (q : Int × Int) : q ∈ ps.take k ++ ps.drop (k + 1) ↔ q ∈ ps ∧ q ≠ ps[k] := by
  rw [← filter_out h hk, List.mem_filter]
  simp
theorem SimL.unlink (h : SimL L ps) {a b : Int} {k : Nat} (hk : k < ps.length) (he : ps[k] = (min a b, max a b)) : SimL (cutL L a b) (ps.take k ++ ps.drop (k + 1)) := by
  refine ⟨⟨?_, fun p hp => ?_⟩, fun x y => ?_⟩
  · rw [← filter_out h.1.1 hk]
    exact h.1.1.filter _
  · rw [take_drop_filter h.1.1 hk] at hp
    exact h.1.2 p hp.1
  · rw [cutL_val, take_drop_filter h.1.1 hk, he]
    by_cases hx : (x = a ∧ y = b) ∨ (x = b ∧ y = a)
    · rw [if_pos hx]
      simp only [Bool.false_eq_true, false_iff]
      rintro ⟨_, _, h3⟩
      exact h3 ((mm_eq a b x y).2 hx)
    · rw [if_neg hx, h.2]
      constructor
      · rintro ⟨h1, h2⟩
        exact ⟨h1, h2, fun e => hx ((mm_eq a b x y).1 e)⟩
      · rintro ⟨h1, h2, _⟩
        exact ⟨h1, h2⟩
theorem SimL.unlinked (h : SimL L ps) {a b : Int} {k : Nat} (hk : k < ps.length) (he : ps[k] = (min a b, max a b)) : L a b = true := by
  rw [h.2, ← he]
  refine ⟨fun e => ?_, List.getElem_mem hk⟩
  have := h.1.2 _ (List.getElem_mem hk)
  rw [he] at this
  simp at this
  omega
theorem SimL.cut_no (h : SimL L ps) {a b : Int} (hc : ps.contains (min a b, max a b) = false) : cutL L a b = L ∧ L a b = false := by
  have h0 : ∀ x y, ((x = a ∧ y = b) ∨ (x = b ∧ y = a)) → L x y = false := fun x y hx => by
    cases hL : L x y with
    | false => rfl
    | true =>
      have := ((h.2 x y).1 hL).2
      rw [(mm_eq a b x y).2 hx] at this
      rw [List.contains_iff_mem.2 this] at hc
      cases hc
  refine ⟨?_, h0 a b (Or.inl ⟨rfl, rfl⟩)⟩
  funext x y
  rw [cutL_val]
  by_cases hx : (x = a ∧ y = b) ∨ (x = b ∧ y = a)
  · rw [if_pos hx, h0 x y hx]
  · rw [if_neg hx]
theorem SimL.of (h : SimL L ps) {a : Int} {xs : List Int} (ho : OutK ps a ps.length xs) (y : Int) : y ∈ xs ↔ L a y = true := by
  rw [ho.2.2, h.2, List.take_length]
  constructor
  · rintro ⟨p, hp, e⟩
    obtain ⟨h1, h2⟩ := oth_pair e (h.1.2 p hp)
    exact ⟨h2, h1 ▸ hp⟩
  · rintro ⟨h1, h2⟩
    refine ⟨_, h2, ?_⟩
    unfold oth
    by_cases hay : a < y
    · rw [Int.min_eq_left (by omega), Int.max_eq_right (by omega)]
      simp
    · rw [Int.min_eq_right (by omega), Int.max_eq_left (by omega)]
      have : (y == a) = false := beq_eq_false_iff_ne.2 (fun e => h1 e.symm)
      simp [this]
theorem SimL.ended (h : SimL L ps) {a : Int} {xs : List Int} (hx : ∀ y, y ∈ xs ↔ L a y = true) : SimL (endL L a xs) (without ps a xs) := by
  refine ⟨⟨without_nodup h.1.1 a xs, fun p hp => h.1.2 p (List.mem_filter.1 hp).1⟩, fun x y => ?_⟩
  unfold without endL
  rw [List.mem_filter]
  simp only [Bool.and_eq_true, Bool.not_eq_true']
  rw [h.2]
  have key : (xs.any fun z => (min x y, max x y) == (min a z, max a z)) = ((x == a && xs.contains y) || (y == a && xs.contains x)) := by
    rw [Bool.eq_iff_iff, List.any_eq_true]
    simp only [Bool.or_eq_true, Bool.and_eq_true, beq_iff_eq, List.contains_iff_mem, mm_eq]
    constructor
    · rintro ⟨z, hz, (⟨rfl, rfl⟩ | ⟨rfl, rfl⟩)⟩
      · exact Or.inl ⟨rfl, hz⟩
      · exact Or.inr ⟨rfl, hz⟩
    · rintro (⟨rfl, hz⟩ | ⟨rfl, hz⟩)
      · exact ⟨y, hz, Or.inl ⟨rfl, rfl⟩⟩
      · exact ⟨x, hz, Or.inr ⟨rfl, rfl⟩⟩
  rw [key, Bool.or_eq_false_iff]
  constructor
  · rintro ⟨⟨⟨h1, h2⟩, h3⟩, h4⟩
    exact ⟨h1, h2, h3, h4⟩
  · rintro ⟨h1, h2, h3, h4⟩
    exact ⟨⟨⟨h1, h2⟩, h3⟩, h4⟩

/-! ### monitors -/
theorem MonsOf.start : MonsOf (fun _ => none) [] := ⟨List.Pairwise.nil, by simp⟩
theorem MonsOf.at_ (h : MonsOf M ms) {k : Nat} (hk : k < ms.length) : M ms[k].1 = some (ms[k].2.1, ms[k].2.2) := (h.2 _ _ _).1 (List.getElem_mem hk)
theorem MonsOf.none_ (h : MonsOf M ms) {r : Int} (hn : ∀ j (hj : j < ms.length), ms[j].1 ≠ r) : M r = none := by
  cases hM : M r with
  | none => rfl
  | some x =>
    obtain ⟨a, b⟩ := x
    obtain ⟨j, hj, e⟩ := List.mem_iff_getElem.1 ((h.2 r a b).2 hM)
    exact absurd (by rw [e]) (hn j hj)
theorem MonsOf.watch (h : MonsOf M ms) {r a b : Int} {t : Nat} (ht : t ≤ ms.length) (hlo : ∀ j (hj : j < ms.length), j < t → ms[j].1 < r) (hhi : ∀ j (hj : j < ms.length), t ≤ j → r ≤ ms[j].1) (hne : ∀ hj : t < ms.length, ms[t].1 ≠ r) :
    M r = none ∧ MonsOf (watchM M r a b) (ms.take t ++ [(r, a, b)] ++ ms.drop t) := by
  have hhi2 : ∀ j (hj : j < ms.length), t ≤ j → r < ms[j].1 := fun j hj hjt => by
    have h1 := hhi j hj hjt
    by_cases e : j = t
    · subst e
      have := hne hj
      omega
    · have h2 : ms[t].1 < ms[j].1 := List.pairwise_iff_getElem.1 h.1 t j (by omega) hj (by omega)
      have h3 := hhi t (by omega) (Nat.le_refl _)
      omega
  have hM : M r = none := h.none_ fun j hj e => by
    by_cases hjt : j < t
    · have := hlo j hj hjt; omega
    · have := hhi2 j hj (by omega); omega
  refine ⟨hM, ?_, fun x y z => ?_⟩
  · rw [List.append_assoc, List.pairwise_append]
    refine ⟨h.1.sublist (List.take_sublist _ _), ?_, fun x hx y hy => ?_⟩
    · rw [List.singleton_append, List.pairwise_cons]
      refine ⟨fun y hy => ?_, h.1.sublist (List.drop_sublist _ _)⟩
      obtain ⟨j, hj, rfl⟩ := List.mem_iff_getElem.1 hy
      rw [List.length_drop] at hj
      rw [List.getElem_drop]
      exact hhi2 _ (by omega) (by omega)
    · obtain ⟨i, hi, rfl⟩ := List.mem_iff_getElem.1 hx
      rw [List.length_take] at hi
      rw [List.getElem_take]
      rw [List.singleton_append, List.mem_cons] at hy
      rcases hy with rfl | hy
      · exact hlo i (by omega) (by omega)
      · obtain ⟨j, hj, rfl⟩ := List.mem_iff_getElem.1 hy
        rw [List.length_drop] at hj
        rw [List.getElem_drop]
        exact List.pairwise_iff_getElem.1 h.1 _ _ _ _ (by omega)
  · have hmem : (x, y, z) ∈ ms.take t ++ [(r, a, b)] ++ ms.drop t ↔ (x, y, z) ∈ ms ∨ (x, y, z) = (r, a, b) := by
      rw [List.mem_append, List.mem_append, List.mem_singleton]
      constructor
      · rintro ((h | h) | h)
        · exact Or.inl (List.mem_of_mem_take h)
        · exact Or.inr h
        · exact Or.inl (List.mem_of_mem_drop h)
      · rintro (h | h)
        · rw [← List.take_append_drop t ms, List.mem_append] at h
          rcases h with h | h
          · exact Or.inl (Or.inl h)
          · exact Or.inr h
        · exact Or.inl (Or.inr h)
    rw [hmem, h.2]
    unfold watchM
    rw [if_pos hM]
    by_cases hx : x = r
    · subst hx
      rw [at1_same, hM]
      simp [Eq.comm]
    · rw [at1_other _ _ hx]
      simp [hx]
theorem MonsOf.watched (h : MonsOf M ms) {r a b : Int} {t : Nat} (ht : t < ms.length) (he : ms[t].1 = r) : (M r).isNone = false ∧ watchM M r a b = M := by
  have := h.at_ ht
  rw [he] at this
  refine ⟨by rw [this]; rfl, ?_⟩
  unfold watchM
  rw [if_neg (by rw [this]; simp)]
theorem mons_nodup (h : MonsOf M ms) : ms.Nodup := h.1.imp (fun h e => by rw [e] at h; omega)
theorem filter_outM {K : List Mon} (h : K.Nodup) {k : Nat} (hk : k < K.length) (q : Mon) : q ∈ K.take k ++ K.drop (k + 1) ↔ q ∈ K ∧ q ≠ K[k] := by
  have e : K = K.take k ++ K[k] :: K.drop (k + 1) := by rw [← List.drop_eq_getElem_cons hk, List.take_append_drop]
  have hn := h
  rw [e, List.nodup_append] at hn
  obtain ⟨_, h2, h3⟩ := hn
  rw [List.nodup_cons] at h2
  have e2 : q ∈ K ↔ q ∈ K.take k ∨ q = K[k] ∨ q ∈ K.drop (k + 1) := by
    constructor
    · intro hq
      rw [e] at hq
      rcases List.mem_append.1 hq with h | h
      · exact Or.inl h
      · exact Or.inr (List.mem_cons.1 h)
    · rintro (h | h | h)
      · exact List.mem_of_mem_take h
      · rw [h]; exact List.getElem_mem hk
      · exact List.mem_of_mem_drop h
  rw [List.mem_append, e2]
  constructor
  · rintro (h | h)
    · exact ⟨Or.inl h, fun e => h3 q h _ List.mem_cons_self e⟩
    · exact ⟨Or.inr (Or.inr h), fun e => h2.1 (e ▸ h)⟩
  · rintro ⟨h | h | h, hne⟩
    · exact Or.inl h
    · exact absurd h hne
    · exact Or.inr h
theorem MonsOf.unwatch (h : MonsOf M ms) {r a : Int} {k : Nat} (hk : k < ms.length) (h1 : ms[k].1 = r) (h2 : ms[k].2.1 = a) : unwatchB M r a = true ∧ MonsOf (unwatchM M r a) (ms.take k ++ ms.drop (k + 1)) := by
  have hM := h.at_ hk
  rw [h1] at hM
  have hB : unwatchB M r a = true := by
    unfold unwatchB
    rw [hM]
    simpa using h2
  refine ⟨hB, ?_, fun x y z => ?_⟩
  · rw [List.pairwise_append]
    refine ⟨h.1.sublist (List.take_sublist _ _), h.1.sublist (List.drop_sublist _ _), fun x hx y hy => ?_⟩
    obtain ⟨i, hi, rfl⟩ := List.mem_iff_getElem.1 hx
    obtain ⟨j, hj, rfl⟩ := List.mem_iff_getElem.1 hy
    rw [List.length_take] at hi
    rw [List.length_drop] at hj
    rw [List.getElem_take, List.getElem_drop]
    exact List.pairwise_iff_getElem.1 h.1 _ _ _ _ (by omega)
  · rw [filter_outM (mons_nodup h) hk, h.2]
    unfold unwatchM
    rw [if_pos hB]
    by_cases hx : x = r
    · subst hx
      rw [at1_same, hM]
      simp only [Option.some.injEq, Prod.mk.injEq, reduceCtorEq, iff_false, not_and]
      rintro ⟨rfl, rfl⟩ hne
      exact hne (by rw [← h1])
    · rw [at1_other _ _ hx]
      constructor
      · exact fun h => h.1
      · intro hm
        exact ⟨hm, fun e => hx (by rw [← h1, ← e])⟩
theorem MonsOf.unwatch_no (h : MonsOf M ms) {r a : Int} (hn : ∀ j (hj : j < ms.length), ¬ (ms[j].1 = r ∧ ms[j].2.1 = a)) : unwatchB M r a = false ∧ unwatchM M r a = M := by
  have hB : unwatchB M r a = false := by
    unfold unwatchB
    cases hM : M r with
    | none => rfl
    | some p =>
      obtain ⟨y, z⟩ := p
      obtain ⟨j, hj, e⟩ := List.mem_iff_getElem.1 ((h.2 r y z).2 hM)
      have := hn j hj
      rw [e] at this
      simpa using this
  refine ⟨hB, ?_⟩
  unfold unwatchM
  rw [hB]
  rfl
theorem MonsOf.ended (h : MonsOf M ms) {a : Int} {rs : List Int} (hr : ∀ x, x ∈ rs ↔ nam M a x = true) : MonsOf (endM M rs) (ms.filter fun m => !(m.2.2 == a) && !(m.2.1 == a)) := by
  refine ⟨h.1.filter _, ?_⟩
  have hR : Rl M ms := ⟨mons_nodup h, h.2⟩
  exact (hR.ended hr).2
theorem MonsOf.told (h : MonsOf M ms) {a : Int} {rs : List Int} (hp : rs.Pairwise (· < ·)) (hr : ∀ x, x ∈ rs ↔ nam M a x = true) : selM M a rs = ms.filter fun m => m.2.2 == a := by
  refine mons_one ?_ (h.1.filter _) (fun m => ?_)
  · unfold selM
    refine List.Pairwise.filterMap _ (fun r r' hlt m hm m' hm' => ?_) hp
    have key : ∀ (r : Int) (m : Mon), (match M r with | some x => if x.2 == a then some (r, x.1, x.2) else none | none => (none : Option Mon)) = some m → m.1 = r := by
      intro r m e
      cases hM : M r with
      | none => rw [hM] at e; cases e
      | some p =>
        rw [hM] at e
        simp only at e
        split at e
        · cases e; rfl
        · cases e
    rw [key r m hm, key r' m' hm']
    exact hlt
  · obtain ⟨x, y, z⟩ := m
    rw [mem_selM hr, List.mem_filter, h.2]
    simp
theorem mons_of_one {ms ms' : List Mon} (h : MonsOf M ms) (h' : MonsOf M ms') : ms = ms' := mons_one h.1 h'.1 (fun m => by
  obtain ⟨x, y, z⟩ := m
  rw [h.2, h'.2])

end Go.Proofs.YtofcniodobjopaaGreat
