/- Amounts as rows of bits, the lowest one first: plain arithmetic. -/
import Derived.Test.YtpeganecbjefoaaDoorBase
namespace Go.Proofs.YtpeganecbjefoaaDoor
open Go.RowKit

/-- What bits come to. -/
def nb : List Bool → Nat
  | [] => 0
  | x :: r => x.toNat + 2 * nb r

theorem nb_append (A B : List Bool) : nb (A ++ B) = nb A + 2 ^ A.length * nb B := by
  induction A with
  | nil => simp [nb]
  | cons x r ih =>
    simp only [List.cons_append, nb, ih, List.length_cons, Nat.pow_succ]
    rw [Nat.mul_add, Nat.mul_comm (2 ^ r.length) 2, Nat.mul_assoc]; omega
theorem nb_one (x : Bool) : nb [x] = x.toNat := by simp [nb]
theorem toNat_le (x : Bool) : x.toNat ≤ 1 := by cases x <;> simp
theorem nb_lt (L : List Bool) : nb L < 2 ^ L.length := by
  induction L with
  | nil => simp [nb]
  | cons x r ih =>
    have := toNat_le x
    simp only [nb, List.length_cons, Nat.pow_succ]; omega
theorem nb_drop (L : List Bool) (i : Nat) : nb (L.drop i) = (L.getD i false).toNat + 2 * nb (L.drop (i + 1)) := by
  by_cases h : i < L.length
  · rw [List.drop_eq_getElem_cons h, List.getD_eq_getElem?_getD, List.getElem?_eq_getElem h]; rfl
  · rw [List.drop_of_length_le (by omega), List.drop_of_length_le (by omega), List.getD_eq_getElem?_getD, List.getElem?_eq_none (by omega)]; rfl
theorem nb_split (L : List Bool) (i : Nat) : nb (L.take i) + 2 ^ i * nb (L.drop i) = nb L := by
  by_cases h : i ≤ L.length
  · have h1 : (L.take i).length = i := by simp; omega
    have h2 := nb_append (L.take i) (L.drop i)
    rw [h1, List.take_append_drop] at h2
    exact h2.symm
  · rw [List.take_of_length_le (by omega), List.drop_of_length_le (by omega)]; simp [nb]
theorem nb_take_lt (L : List Bool) (i : Nat) : nb (L.take i) < 2 ^ i := by
  have h := nb_lt (L.take i)
  have h2 : 2 ^ (L.take i).length ≤ 2 ^ i := Nat.pow_le_pow_right (by decide) (by simp; omega)
  omega
theorem nb_take (L : List Bool) (k : Nat) : nb (L.take (k + 1)) = nb (L.take k) + 2 ^ k * (L.getD k false).toNat := by
  have h1 := nb_split L k
  have h2 := nb_split L (k + 1)
  rw [nb_drop L k, Nat.mul_add, ← Nat.mul_assoc, Nat.mul_comm (2 ^ k) 2] at h1
  rw [Nat.pow_succ, Nat.mul_comm (2 ^ k) 2] at h2
  omega

structure NormB (L : List Bool) (n : Nat) : Prop where
  eq : nb L = n
  top : ∀ x, L.getLast? = some x → x = true

theorem NormB.zero : NormB [] 0 := ⟨rfl, fun x h => by simp at h⟩
theorem NormB.low {L : List Bool} {n : Nat} (h : NormB L n) (hne : L ≠ []) : 2 ^ (L.length - 1) ≤ n := by
  have h0 := List.getLast?_eq_some_getLast hne
  have h1 : L = L.dropLast ++ [L.getLast hne] := (List.dropLast_concat_getLast hne).symm
  have h2 : L.dropLast.length = L.length - 1 := List.length_dropLast
  have h3 := nb_append L.dropLast [L.getLast hne]
  rw [← h1, h.eq, nb_one, h.top _ h0, h2] at h3
  simp at h3
  omega
theorem NormB.len_le {L : List Bool} {n : Nat} (h : NormB L n) (k : Nat) : L.length ≤ k ↔ n < 2 ^ k := by
  constructor
  · intro hl
    have := nb_lt L
    have h2 : 2 ^ L.length ≤ 2 ^ k := Nat.pow_le_pow_right (by decide) hl
    have := h.eq
    omega
  · intro hn
    by_cases h0 : L = []
    · rw [h0]; simp
    · have h1 := h.low h0
      have h2 := (Nat.pow_lt_pow_iff_right (a := 2) (n := L.length - 1) (m := k) (by decide)).1 (by omega)
      have h3 : L.length ≠ 0 := fun e => h0 (List.eq_nil_of_length_eq_zero e)
      omega
theorem NormB.nil_iff {L : List Bool} {n : Nat} (h : NormB L n) : L = [] ↔ n = 0 := by
  constructor
  · intro e; rw [← h.eq, e]; rfl
  · intro e
    have := (h.len_le 0).2 (by rw [e]; simp)
    exact List.eq_nil_of_length_eq_zero (by omega)

/-- What is left of bits without the noughts at the end. -/
theorem normB_take (L : List Bool) (m : Nat) (hm : m ≤ L.length) (hz : ∀ i, m ≤ i → i < L.length → L.getD i false = false) (ht : m = 0 ∨ L.getD (m - 1) false = true) : NormB (L.take m) (nb L) := by
  have hd : nb (L.drop m) = 0 := by
    have : ∀ n k, L.length - k = n → m ≤ k → nb (L.drop k) = 0 := by
      intro n
      induction n with
      | zero => intro k h1 _; rw [List.drop_of_length_le (by omega)]; rfl
      | succ n ih =>
        intro k h1 h2
        rw [nb_drop, hz k h2 (by omega), ih (k + 1) (by omega) (by omega)]; rfl
    exact this _ m rfl (Nat.le_refl _)
  refine ⟨?_, ?_⟩
  · have := nb_split L m
    rw [hd] at this
    omega
  · intro x hx
    rcases ht with h | h
    · subst h; simp at hx
    · rcases Nat.eq_zero_or_pos m with h0 | h0
      · subst h0; simp at hx
      · rw [List.getLast?_eq_getElem?, List.length_take, Nat.min_eq_left hm, List.getElem?_take_of_lt (by omega)] at hx
        rw [List.getD_eq_getElem?_getD, hx] at h
        exact h

theorem bit_sum (x y c : Bool) : ((!(( !(x == y)) == c)).toNat) + 2 * ((x && y || x && c || y && c).toNat) = x.toNat + y.toNat + c.toNat := by
  cases x <;> cases y <;> cases c <;> rfl
theorem bit_less (x y c : Bool) : ((!((!(x == y)) == c)).toNat) + y.toNat + c.toNat = x.toNat + 2 * ((!x && (y || c) || x && y && c).toNat) := by
  cases x <;> cases y <;> cases c <;> rfl

theorem sumB_step (O A B : List Bool) (k : Nat) (s c c' : Bool) (hk : O.length = k) (he : nb O + 2 ^ k * c.toNat = nb (A.take k) + nb (B.take k)) (h : s.toNat + 2 * c'.toNat = (A.getD k false).toNat + (B.getD k false).toNat + c.toNat) :
    nb (O ++ [s]) + 2 ^ (k + 1) * c'.toNat = nb (A.take (k + 1)) + nb (B.take (k + 1)) := by
  rw [nb_append, nb_one, hk, nb_take, nb_take, Nat.pow_succ, Nat.mul_assoc]
  have h2 : 2 ^ k * (s.toNat + 2 * c'.toNat) = 2 ^ k * ((A.getD k false).toNat + (B.getD k false).toNat + c.toNat) := by rw [h]
  simp only [Nat.mul_add] at h2
  omega
theorem lessB_step (O A B : List Bool) (k : Nat) (s c c' : Bool) (hk : O.length = k) (he : nb O + nb (B.take k) = nb (A.take k) + 2 ^ k * c.toNat) (h : s.toNat + (B.getD k false).toNat + c.toNat = (A.getD k false).toNat + 2 * c'.toNat) :
    nb (O ++ [s]) + nb (B.take (k + 1)) = nb (A.take (k + 1)) + 2 ^ (k + 1) * c'.toNat := by
  rw [nb_append, nb_one, hk, nb_take, nb_take, Nat.pow_succ, Nat.mul_assoc]
  have h2 : 2 ^ k * (s.toNat + (B.getD k false).toNat + c.toNat) = 2 ^ k * ((A.getD k false).toNat + 2 * c'.toNat) := by rw [h]
  simp only [Nat.mul_add] at h2
  omega
theorem lessB_end (O A B : List Bool) (c : Bool) (hO : O.length = A.length) (hB : B.length ≤ A.length) (hle : nb B ≤ nb A) (he : nb O + nb (B.take A.length) = nb (A.take A.length) + 2 ^ A.length * c.toNat) : nb O = nb A - nb B := by
  rw [List.take_of_length_le hB, List.take_of_length_le (Nat.le_refl _)] at he
  have h1 := nb_lt O
  rw [hO] at h1
  cases c
  · simp at he; omega
  · simp at he; omega
theorem below_top (A B : List Bool) (i : Nat) (he : nb (A.drop (i + 1)) = nb (B.drop (i + 1))) (hne : ¬ A.getD i false = B.getD i false) : decide (nb A < nb B) = B.getD i false := by
  have h1 := nb_split A i
  have h2 := nb_split B i
  have h3 := nb_take_lt A i
  have h4 := nb_take_lt B i
  rw [nb_drop, he, Nat.mul_add] at h1
  rw [nb_drop, Nat.mul_add] at h2
  cases ha : A.getD i false <;> cases hb : B.getD i false <;> rw [ha] at hne h1 <;> rw [hb] at hne h2
  · exact absurd rfl hne
  · simp at h1 h2 ⊢; omega
  · simp at h1 h2 ⊢; omega
  · exact absurd rfl hne
theorem below_end (A B : List Bool) (h : nb (A.drop 0) = nb (B.drop 0)) : decide (nb A < nb B) = false := by
  rw [List.drop_zero, List.drop_zero] at h
  rw [h]; simp
theorem below_same (A B : List Bool) (i : Nat) (he : nb (A.drop (i + 1)) = nb (B.drop (i + 1))) (heq : A.getD i false = B.getD i false) : nb (A.drop i) = nb (B.drop i) := by
  rw [nb_drop A i, nb_drop B i, he, heq]

end Go.Proofs.YtpeganecbjefoaaDoor
