/- Which letters are left: plain mathematics. -/
import Derived.Test.YtmdkhkeljpdbiaaMlS
namespace Go.Proofs.Ytmdkhkeljpdbiaa
open Go.RowKit

/-- Those below c that have not gone. -/
def left (g : Nat → Bool) (c : Nat) : List Nat := (List.range c).filter (fun k => !g k)
theorem left_zero (g : Nat → Bool) : left g 0 = [] := rfl
theorem left_succ (g : Nat → Bool) (c : Nat) : left g (c + 1) = if g c then left g c else left g c ++ [c] := by
  unfold left
  rw [List.range_succ, List.filter_append]
  cases h : g c <;> simp [h]
theorem left_mem {g : Nat → Bool} {c x : Nat} : x ∈ left g c ↔ x < c ∧ g x = false := by simp [left]
theorem left_lt (g : Nat → Bool) (c : Nat) : (left g c).Pairwise (· < ·) := List.Pairwise.filter _ List.pairwise_lt_range
theorem left_len_le (g : Nat → Bool) (c : Nat) : (left g c).length ≤ c := by
  have := List.length_filter_le (fun k => !g k) (List.range c)
  simpa [left] using this
theorem left_get (g : Nat → Bool) (k : Nat) (hk : g k = false) : ∀ c, k < c → (left g c)[(left g k).length]? = some k
  | 0, h => by omega
  | c + 1, h => by
    rw [left_succ]
    by_cases he : k = c
    · subst he
      simp [hk]
    · have ih := left_get g k hk c (by omega)
      have hl : (left g k).length < (left g c).length := (List.getElem?_eq_some_iff.1 ih).1
      split
      · exact ih
      · rw [List.getElem?_append_left hl]; exact ih
theorem left_len_lt {g : Nat → Bool} {k c : Nat} (hk : g k = false) (h : k < c) : (left g k).length < (left g c).length := (List.getElem?_eq_some_iff.1 (left_get g k hk c h)).1
theorem left_len (g : Nat → Bool) (k : Nat) : (left g (k + 1)).length = (left g k).length + (if g k then 0 else 1) := by
  rw [left_succ]
  split <;> simp
theorem filter_ne : ∀ (l : List Nat), l.Pairwise (· < ·) → ∀ (j x : Nat), l[j]? = some x → l.filter (fun k => !(k == x)) = l.eraseIdx j
  | [], _, j, x, h => by simp at h
  | a :: t, hp, 0, x, h => by
    simp at h
    subst h
    have h1 := (List.pairwise_cons.1 hp).1
    simp only [List.filter_cons, beq_self_eq_true, Bool.not_true, Bool.false_eq_true, if_false, List.eraseIdx_cons_zero]
    refine List.filter_eq_self.2 fun y hy => ?_
    have := h1 y hy
    simp; omega
  | a :: t, hp, j + 1, x, h => by
    have h1 := (List.pairwise_cons.1 hp).1
    have hx : t[j]? = some x := by simpa using h
    have := h1 x (List.mem_of_getElem? hx)
    have ih := filter_ne t (List.pairwise_cons.1 hp).2 j x hx
    rw [List.filter_cons, if_pos (by simp; omega), ih]
    rfl
/-- One more has gone. -/
def goneAt (g : Nat → Bool) (x : Nat) : Nat → Bool := fun k => if k = x then true else g k
theorem left_gone (g : Nat → Bool) (c j x : Nat) (h : (left g c)[j]? = some x) : left (goneAt g x) c = (left g c).eraseIdx j := by
  rw [← filter_ne (left g c) (left_lt g c) j x h]
  unfold left goneAt
  rw [List.filter_filter]
  refine List.filter_congr fun k _ => ?_
  by_cases hk : k = x
  · simp [hk]
  · simp [hk]

/-- The letter number k. -/
def lf (k : Nat) : List Value := (fl 3 false ⟨#[]⟩ (k : Int)).toList
theorem lf_getD (l : List Nat) (j x : Nat) (h : l[j]? = some x) : (l.map lf).getD j [] = (fl 3 false ⟨#[]⟩ (x : Int)).toList := by
  rw [List.getD_eq_getElem?_getD, List.getElem?_map, h]; rfl
theorem lf_erase : ∀ (l : List Nat) (j : Nat), (l.map lf).eraseIdx j = (l.eraseIdx j).map lf
  | [], _ => rfl
  | _ :: _, 0 => rfl
  | a :: t, j + 1 => by
    simp only [List.map_cons, List.eraseIdx_cons_succ, lf_erase t j]
theorem lf_flat (l : List Nat) : Flat (l.map lf) := fun c hc => by
  obtain ⟨k, _, rfl⟩ := List.mem_map.1 hc
  exact ⟨3, false, ⟨#[]⟩, (k : Int), rfl⟩

end Go.Proofs.Ytmdkhkeljpdbiaa
