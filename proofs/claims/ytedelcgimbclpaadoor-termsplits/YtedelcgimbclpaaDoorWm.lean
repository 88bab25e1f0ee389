/- Plain arithmetic of limbs: no program in it. -/
import Derived.Below
namespace Go.Proofs.YtedelcgimbclpaaDoor

/-- What limbs, the lowest one first, come to. -/
def val : List Nat → Nat
  | [] => 0
  | x :: r => x + 4294967296 * val r

/-- Each one is a limb. -/
def Dig (L : List Nat) : Prop := ∀ x, x ∈ L → x < 4294967296

/-- Limbs, without noughts at the end, of the number n. -/
structure Norm (L : List Nat) (n : Nat) : Prop where
  dig : Dig L
  eq : val L = n
  top : ∀ x, L.getLast? = some x → x ≠ 0

theorem val_nil : val [] = 0 := rfl
theorem val_cons (x : Nat) (r : List Nat) : val (x :: r) = x + 4294967296 * val r := rfl

theorem val_append (A B : List Nat) : val (A ++ B) = val A + 4294967296 ^ A.length * val B := by
  induction A with
  | nil => simp [val]
  | cons x r ih => 
    simp only [List.cons_append, val_cons, ih, List.length_cons, Nat.pow_succ]
    rw [Nat.mul_add, Nat.mul_comm (4294967296 ^ r.length) 4294967296, Nat.mul_assoc]; omega

theorem Dig.nil : Dig [] := fun _ h => by simp at h
theorem Dig.getD {L : List Nat} (h : Dig L) (i : Nat) : L.getD i 0 < 4294967296 := by
  rw [List.getD_eq_getElem?_getD]
  by_cases hi : i < L.length
  · rw [List.getElem?_eq_getElem hi]; exact h _ (List.getElem_mem hi)
  · rw [List.getElem?_eq_none (by omega)]; simp
theorem Dig.take {L : List Nat} (h : Dig L) (n : Nat) : Dig (L.take n) := fun x hx => h x (List.mem_of_mem_take hx)
theorem Dig.drop {L : List Nat} (h : Dig L) (n : Nat) : Dig (L.drop n) := fun x hx => h x (List.mem_of_mem_drop hx)
theorem Dig.set {L : List Nat} (h : Dig L) (i x : Nat) (hx : x < 4294967296) : Dig (L.set i x) := fun y hy => by
  rcases List.mem_or_eq_of_mem_set hy with h1 | h1
  · exact h y h1
  · rw [h1]; exact hx
theorem Dig.cons {L : List Nat} (h : Dig L) {x : Nat} (hx : x < 4294967296) : Dig (x :: L) := fun y hy => by
  rcases List.mem_cons.1 hy with h1 | h1
  · rw [h1]; exact hx
  · exact h y h1
theorem Dig.replicate (n : Nat) : Dig (List.replicate n 0) := fun x hx => by
  have := (List.mem_replicate.1 hx).2; omega

theorem pow_pos (n : Nat) : 0 < 4294967296 ^ n := Nat.pow_pos (by decide)

theorem val_lt {L : List Nat} (h : Dig L) : val L < 4294967296 ^ L.length := by
  induction L with
  | nil => simp [val]
  | cons x r ih =>
    have h1 := ih (fun y hy => h y (List.mem_cons_of_mem _ hy))
    have h2 := h x (List.mem_cons_self)
    rw [val_cons, List.length_cons, Nat.pow_succ]
    have : val r + 1 ≤ 4294967296 ^ r.length := h1
    omega

theorem val_take_succ (L : List Nat) (k : Nat) : val (L.take (k + 1)) = val (L.take k) + 4294967296 ^ k * L.getD k 0 := by
  by_cases hk : k < L.length
  · rw [List.take_succ_eq_append_getElem hk, val_append]
    have h1 : (L.take k).length = k := by simp; omega
    rw [h1, List.getD_eq_getElem?_getD, List.getElem?_eq_getElem hk]
    simp [val]
  · rw [List.take_of_length_le (by omega), List.take_of_length_le (by omega), List.getD_eq_getElem?_getD, List.getElem?_eq_none (by omega)]
    simp

theorem val_take_all (L : List Nat) (k : Nat) (h : L.length ≤ k) : val (L.take k) = val L := by rw [List.take_of_length_le h]

theorem val_drop (L : List Nat) (i : Nat) (hi : i < L.length) : val (L.drop i) = L.getD i 0 + 4294967296 * val (L.drop (i + 1)) := by
  rw [List.drop_eq_getElem_cons hi, val_cons, List.getD_eq_getElem?_getD, List.getElem?_eq_getElem hi]; rfl

theorem val_split (L : List Nat) (i : Nat) (hi : i ≤ L.length) : val L = val (L.take i) + 4294967296 ^ i * val (L.drop i) := by
  have h := val_append (L.take i) (L.drop i)
  rw [List.take_append_drop] at h
  rw [h]
  have h1 : (L.take i).length = i := by simp; omega
  rw [h1]

theorem val_set (L : List Nat) (p d : Nat) (hp : p < L.length) : val (L.set p d) + 4294967296 ^ p * L.getD p 0 = val L + 4294967296 ^ p * d := by
  induction L generalizing p with
  | nil => simp at hp
  | cons x r ih =>
    cases p with
    | zero => simp only [List.set_cons_zero, val_cons, List.getD_cons_zero, Nat.pow_zero]; omega
    | succ q =>
      have h := ih q (by simpa using hp)
      simp only [List.set_cons_succ, val_cons, List.getD_cons_succ, Nat.pow_succ]
      rw [Nat.mul_comm (4294967296 ^ q) 4294967296, Nat.mul_assoc, Nat.mul_assoc]
      omega

theorem val_replicate (n : Nat) : val (List.replicate n 0) = 0 := by
  induction n with
  | zero => rfl
  | succ k ih => rw [List.replicate_succ, val_cons, ih]

theorem Norm.zero : Norm [] 0 := ⟨Dig.nil, rfl, fun x h => by simp at h⟩

/-- A number has one row of limbs. -/
theorem val_pos_of_top {L : List Nat} (hne : L ≠ []) (ht : ∀ x, L.getLast? = some x → x ≠ 0) : 0 < val L := by
  have h := List.getLast?_eq_some_getLast hne
  have h0 := ht _ h
  have h1 : L = L.dropLast ++ [L.getLast hne] := (List.dropLast_concat_getLast hne).symm
  rw [h1, val_append]
  have h2 : val [L.getLast hne] = L.getLast hne := by simp [val]
  rw [h2]
  have h3 : 0 < 4294967296 ^ L.dropLast.length * L.getLast hne := Nat.mul_pos (pow_pos _) (by omega)
  omega

theorem Norm.uniq {L M : List Nat} {n : Nat} (h : Norm L n) (k : Norm M n) : L = M := by
  induction L generalizing M n with
  | nil =>
    cases M with
    | nil => rfl
    | cons y s =>
      have h1 := val_pos_of_top (L := y :: s) (by simp) k.top
      have h2 := k.eq
      have h3 := h.eq
      simp only [val] at h3; omega
  | cons x r ih =>
    cases M with
    | nil =>
      have h1 := val_pos_of_top (L := x :: r) (by simp) h.top
      have h2 := k.eq
      have h3 := h.eq
      simp only [val] at h2; omega
    | cons y s =>
      have e1 := h.eq
      have e2 := k.eq
      rw [val_cons] at e1 e2
      have hx := h.dig x List.mem_cons_self
      have hy := k.dig y List.mem_cons_self
      have hxy : x = y := by omega
      have hv : val r = val s := by omega
      have hr : Norm r (val r) := ⟨fun z hz => h.dig z (List.mem_cons_of_mem _ hz), rfl, fun z hz => h.top z (by cases r with | nil => simp at hz | cons a t => simpa using hz)⟩
      have hs : Norm s (val r) := ⟨fun z hz => k.dig z (List.mem_cons_of_mem _ hz), hv.symm, fun z hz => k.top z (by cases s with | nil => simp at hz | cons a t => simpa using hz)⟩
      rw [hxy, ih hr hs]

theorem Norm.lt {L : List Nat} {n : Nat} (h : Norm L n) : n < 4294967296 ^ L.length := by rw [← h.eq]; exact val_lt h.dig

theorem Norm.nil_iff {L : List Nat} {n : Nat} (h : Norm L n) : L = [] ↔ n = 0 := by
  constructor
  · intro e; rw [← h.eq, e]; rfl
  · intro e
    by_cases hne : L = []
    · exact hne
    · have := val_pos_of_top hne h.top; rw [h.eq] at this; omega

theorem Norm.le {L : List Nat} {n : Nat} (h : Norm L n) (hne : L ≠ []) : 4294967296 ^ (L.length - 1) ≤ n := by
  have h0 := h.top _ (List.getLast?_eq_some_getLast hne)
  have h1 : L = L.dropLast ++ [L.getLast hne] := (List.dropLast_concat_getLast hne).symm
  have h2 := h.eq
  rw [h1, val_append] at h2
  have h3 : val [L.getLast hne] = L.getLast hne := by simp [val]
  rw [h3, List.length_dropLast] at h2
  have h4 : 4294967296 ^ (L.length - 1) * 1 ≤ 4294967296 ^ (L.length - 1) * L.getLast hne := Nat.mul_le_mul_left _ (by omega)
  omega

/-- So many limbs at most, just if the number is below that power. -/
theorem Norm.len_le {L : List Nat} {n : Nat} (h : Norm L n) (k : Nat) : L.length ≤ k ↔ n < 4294967296 ^ k := by
  constructor
  · intro hl
    exact Nat.lt_of_lt_of_le h.lt (Nat.pow_le_pow_right (by decide) hl)
  · intro hn
    by_cases hne : L = []
    · rw [hne]; simp
    · have h1 := h.le hne
      have h2 : 4294967296 ^ (L.length - 1) < 4294967296 ^ k := by omega
      have h3 := (Nat.pow_lt_pow_iff_right (a := 4294967296) (by decide)).1 h2
      omega

/-- Limbs whose end from n on is all noughts. -/
theorem norm_take {L : List Nat} (hd : Dig L) (n : Nat) (hn : n ≤ L.length) (hz : ∀ i, n ≤ i → L.getD i 0 = 0) (ht : n = 0 ∨ L.getD (n - 1) 0 ≠ 0) : Norm (L.take n) (val L) := by
  refine ⟨hd.take n, ?_, ?_⟩
  · have h1 : ∀ k, n ≤ k → val (L.take k) = val (L.take n) := by
      intro k hk
      induction k with
      | zero => have : n = 0 := by omega
                rw [this]
      | succ j ih =>
        by_cases e : n ≤ j
        · rw [val_take_succ, ih e, hz j e]; omega
        · have : n = j + 1 := by omega
          rw [this]
    rw [← h1 L.length hn, List.take_length]
  · intro x hx
    rcases ht with ht | ht
    · rw [ht] at hx; simp at hx
    · have hl : (L.take n).length = n := by simp; omega
      rw [List.getLast?_eq_getElem?, hl] at hx
      by_cases h0 : n = 0
      · rw [h0] at hx; simp at hx
      · rw [List.getElem?_take_of_lt (by omega)] at hx
        rw [List.getD_eq_getElem?_getD, hx] at ht
        exact ht

/-- Two rows, alike from i + 1 on, stand as their limbs at i. -/
theorem val_lt_of {A B : List Nat} (ha : Dig A) (i : Nat) (hA : i < A.length) (hB : i < B.length) (hd : A.drop (i + 1) = B.drop (i + 1)) (hlt : A.getD i 0 < B.getD i 0) : val A < val B := by
  rw [val_split A i (by omega), val_split B i (by omega), val_drop A i hA, val_drop B i hB, hd]
  have h1 := val_lt (ha.take i)
  have h2 : (A.take i).length = i := by simp; omega
  rw [h2] at h1
  have h3 : 4294967296 ^ i * (A.getD i 0 + 4294967296 * val (B.drop (i + 1))) + 4294967296 ^ i * 1 ≤ 4294967296 ^ i * (B.getD i 0 + 4294967296 * val (B.drop (i + 1))) := by
    rw [← Nat.mul_add]; exact Nat.mul_le_mul_left _ (by omega)
  omega

theorem norm_lt_of_len {A B : List Nat} {a b : Nat} (ha : Norm A a) (hb : Norm B b) (h : A.length < B.length) : a < b := by
  have h1 := ha.lt
  have h2 := hb.le (by intro e; rw [e] at h; simp at h)
  have h3 : 4294967296 ^ A.length ≤ 4294967296 ^ (B.length - 1) := Nat.pow_le_pow_right (by decide) (by omega)
  omega

end Go.Proofs.YtedelcgimbclpaaDoor
