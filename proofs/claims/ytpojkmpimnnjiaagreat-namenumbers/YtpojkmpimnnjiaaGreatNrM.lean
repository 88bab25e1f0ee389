/- The document's rising row of names, as mathematics. -/
import Derived.Test.YtpojkmpimnnjiaaGreatNmU
namespace Go.Proofs.YtpojkmpimnnjiaaGreat
open Go.RowKit Go.Maps

/-- The row tells the same names. -/
structure SimN (F : NF) (L : List Nd) : Prop where
  up : L.Pairwise (fun a b => a.1 < b.1)
  mem : ∀ s p, F s = some p ↔ (s, p) ∈ L
theorem SimN.nil : SimN (fun _ => none) [] := ⟨List.Pairwise.nil, fun s p => by simp⟩
theorem SimN.nope {F : NF} {L : List Nd} (h : SimN F L) {s : BS} (hs : ∀ m ∈ L, m.1 ≠ s) : F s = none := by
  cases hF : F s with
  | none => rfl
  | some p => exact absurd rfl (hs _ ((h.mem s p).1 hF))
theorem SimN.at {F : NF} {L : List Nd} (h : SimN F L) {k : Nat} (hk : k < L.length) : F L[k].1 = some L[k].2 := (h.mem _ _).2 (List.getElem_mem hk)
theorem bs_gt {a b : BS} (h : ¬ a < b) (k : a ≠ b) : b < a := by
  rcases List.le_iff_lt_or_eq.1 (List.not_lt.1 h) with h2 | h2
  · exact h2
  · exact absurd h2.symm k
theorem pw_get {L : List Nd} (h : L.Pairwise (fun a b => a.1 < b.1)) {i j : Nat} (hi : i < j) (hj : j < L.length) : L[i].1 < L[j].1 := (List.pairwise_iff_getElem.1 h) i j (by omega) hj hi
/-- Where a name is to stand: what is ahead of it, of k that were looked at. -/
structure AtN (L : List Nd) (s : BS) (k a : Nat) : Prop where
  le : a ≤ k
  lo : ∀ i (h : i < L.length), i < a → L[i].1 < s
  hi : ∀ i (h : i < L.length), a ≤ i → i < k → s < L[i].1
theorem AtN.start (L : List Nd) (s : BS) : AtN L s 0 0 := ⟨Nat.le_refl _, fun i _ h => by omega, fun i _ _ h => by omega⟩
theorem AtN.less {L : List Nd} {s : BS} {k a : Nat} (h : AtN L s k a) (hp : L.Pairwise (fun a b => a.1 < b.1)) (hk : k < L.length) (hl : L[k].1 < s) : AtN L s (k + 1) (k + 1) :=
  ⟨Nat.le_refl _, fun i hi hik => by
    rcases (by omega : i < k ∨ i = k) with h1 | h1
    · exact List.lt_trans (pw_get hp h1 hk) hl
    · subst h1; exact hl, fun i _ h1 h2 => by omega⟩
theorem AtN.more {L : List Nd} {s : BS} {k a : Nat} (h : AtN L s k a) (hk : k < L.length) (hl : ¬ L[k].1 < s) (hne : L[k].1 ≠ s) : AtN L s (k + 1) a :=
  ⟨Nat.le_succ_of_le h.le, h.lo, fun i hi h1 h2 => by
    rcases (by omega : i < k ∨ i = k) with h3 | h3
    · exact h.hi i hi h1 h3
    · subst h3; exact bs_gt hl hne⟩
/-- A name is put in its place. -/
theorem SimN.put {F : NF} {L : List Nd} (h : SimN F L) {s : BS} {p : Int} {a : Nat} (ha : AtN L s L.length a) (hF : F s = none) : SimN (at1 F s (some p)) (L.take a ++ (s, p) :: L.drop a) := by
  refine ⟨?_, fun t q => ?_⟩
  · rw [List.pairwise_append]
    refine ⟨h.up.sublist (List.take_sublist a L), ?_, fun x hx y hy => ?_⟩
    · refine List.Pairwise.cons (fun y hy => ?_) (h.up.sublist (List.drop_sublist a L))
      obtain ⟨i, hi, rfl⟩ := List.mem_iff_getElem.1 hy
      rw [List.getElem_drop]
      rw [List.length_drop] at hi
      exact ha.hi _ (by omega) (by omega) (by omega)
    · obtain ⟨i, hi, rfl⟩ := List.mem_iff_getElem.1 hx
      rw [List.length_take] at hi
      rw [List.getElem_take]
      have h1 := ha.lo i (by omega) (by omega)
      rcases List.mem_cons.1 hy with rfl | hy
      · exact h1
      · obtain ⟨j, hj, rfl⟩ := List.mem_iff_getElem.1 hy
        rw [List.getElem_drop]
        rw [List.length_drop] at hj
        exact List.lt_trans h1 (ha.hi _ (by omega) (by omega) (by omega))
  · have hm : (t, q) ∈ L.take a ++ (s, p) :: L.drop a ↔ (t, q) ∈ L ∨ (t = s ∧ q = p) := by
      have e : (t, q) ∈ L ↔ (t, q) ∈ L.take a ∨ (t, q) ∈ L.drop a := by
        rw [← List.mem_append, List.take_append_drop]
      rw [List.mem_append, List.mem_cons, e, Prod.mk.injEq]
      constructor
      · rintro (h1 | h1 | h1)
        · exact Or.inl (Or.inl h1)
        · exact Or.inr h1
        · exact Or.inl (Or.inr h1)
      · rintro ((h1 | h1) | h1)
        · exact Or.inl h1
        · exact Or.inr (Or.inr h1)
        · exact Or.inr (Or.inl h1)
    rw [hm]
    by_cases hts : t = s
    · subst hts
      rw [at1_same]
      constructor
      · intro e
        exact Or.inr ⟨rfl, (Option.some.inj e).symm⟩
      · rintro (h1 | ⟨_, rfl⟩)
        · rw [(h.mem _ _).2 h1] at hF; cases hF
        · rfl
    · rw [at1_other _ _ hts, h.mem]
      constructor
      · exact Or.inl
      · rintro (h1 | ⟨h1, _⟩)
        · exact h1
        · exact absurd h1 hts
/-- .. and taken away. -/
theorem SimN.drop {F : NF} {L : List Nd} (h : SimN F L) {k : Nat} (hk : k < L.length) : SimN (at1 F L[k].1 none) (L.take k ++ L.drop (k + 1)) := by
  have hL : L = L.take k ++ L[k] :: L.drop (k + 1) := by
    rw [← List.drop_eq_getElem_cons hk, List.take_append_drop]
  refine ⟨?_, fun t q => ?_⟩
  · refine h.up.sublist ?_
    conv => rhs; rw [hL]
    exact List.Sublist.append (List.Sublist.refl _) (List.sublist_cons_self _ _)
  · by_cases hts : t = L[k].1
    · subst hts
      rw [at1_same]
      constructor
      · intro e; cases e
      · intro hm
        exfalso
        rcases List.mem_append.1 hm with h1 | h1
        · obtain ⟨i, hi, e⟩ := List.mem_iff_getElem.1 h1
          rw [List.length_take] at hi
          rw [List.getElem_take] at e
          have := pw_get h.up (i := i) (j := k) (by omega) hk
          rw [e] at this
          exact List.lt_irrefl _ this
        · obtain ⟨i, hi, e⟩ := List.mem_iff_getElem.1 h1
          rw [List.length_drop] at hi
          rw [List.getElem_drop] at e
          have := pw_get h.up (i := k) (j := k + 1 + i) (by omega) (by omega)
          rw [e] at this
          exact List.lt_irrefl _ this
    · rw [at1_other _ _ hts, h.mem]
      constructor
      · intro hm
        rw [hL] at hm
        rcases List.mem_append.1 hm with h1 | h1
        · exact List.mem_append.2 (Or.inl h1)
        · rcases List.mem_cons.1 h1 with h1 | h1
          · exact absurd (by rw [← h1]) hts
          · exact List.mem_append.2 (Or.inr h1)
      · intro hm
        rw [hL]
        rcases List.mem_append.1 hm with h1 | h1
        · exact List.mem_append.2 (Or.inl h1)
        · exact List.mem_append.2 (Or.inr (List.mem_cons_of_mem _ h1))
/-- One process, one name. -/
theorem SimN.pid {F : NF} {G : PF} {L : List Nd} (h : SimN F L) (h2 : ∀ s p, F s = some p ↔ G p = some s) {p : Int} : G p = none ↔ ∀ m ∈ L, m.2 ≠ p := by
  constructor
  · intro hG m hm e
    have := (h2 m.1 m.2).1 ((h.mem _ _).2 hm)
    rw [e, hG] at this
    cases this
  · intro hno
    cases hG : G p with
    | none => rfl
    | some s => exact absurd rfl (hno _ ((h.mem s p).1 ((h2 s p).2 hG)))

end Go.Proofs.YtpojkmpimnnjiaaGreat
