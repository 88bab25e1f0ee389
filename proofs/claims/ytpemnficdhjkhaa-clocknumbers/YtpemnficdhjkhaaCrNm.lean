/- Forty that wait, and who is told when. -/
import Derived.Test.YtpemnficdhjkhaaCkA
namespace Go.Proofs.Ytpemnficdhjkhaa
open Go.RowKit

/-- The last k of forty wait. -/
def nT (k : Nat) : TF := fun x => if (40 : Int) - (k : Int) < x ∧ x ≤ 40 then some (10 + x % 3) else none
theorem nT_zero : nT 0 = fun _ => none := by
  funext x
  unfold nT
  rw [if_neg (by omega)]
theorem nT_setB (k : Nat) (x : Int) (hx : x = 40 - (k : Int)) {a : Int} (ha : a = 10 + x % 3) : setB (nT k) x a = true := by
  subst ha
  unfold setB nT
  rw [if_neg (by omega)]
  simp
  omega
theorem nT_setT (k : Nat) (x : Int) (hx : x = 40 - (k : Int)) (hk : k < 40) {a : Int} (ha : a = 10 + x % 3) : setT (nT k) 0 x a = nT (k + 1) := by
  unfold setT
  rw [if_pos (nT_setB k x hx ha), ha]
  funext y
  unfold at1 nT
  by_cases hy : y = x
  · rw [if_pos hy, if_pos (by omega), hy, Int.zero_add]
  · rw [if_neg hy]
    by_cases h1 : (40 : Int) - (k : Int) < y ∧ y ≤ 40
    · rw [if_pos h1, if_pos (by omega)]
    · rw [if_neg h1, if_neg (by omega)]
theorem nT_full (k : Nat) (x : Int) (hx : x = 40 - (k : Int)) (hk : k < 40) (a : Int) : setB (nT (k + 1)) x a = false := by
  unfold setB nT
  rw [if_pos (by omega)]
  rfl

/-- Process 30 waits for the least time. -/
def nU : TF := fun x => if x = 30 then some 0 else nT 40 x
/-- .. and has been told. -/
def nV : TF := fun x => if x = 30 then none else nT 40 x
theorem n30 : (nT 40 30).isSome = true := by decide
theorem n30b : (at1 (nT 40) 30 none 30).isSome = false := by simp [at1]
theorem n30c : setB (at1 (at1 (nT 40) 30 none) 30 none) 30 0 = true := by simp [setB, at1]
theorem n30d : setT (at1 (at1 (nT 40) 30 none) 30 none) 0 30 0 = nU := by
  unfold setT
  rw [if_pos n30c]
  funext x
  unfold at1 nU
  by_cases h : x = 30
  · rw [if_pos h, if_pos h, Int.add_zero]
  · rw [if_neg h, if_neg h, if_neg h, if_neg h]
theorem nT_all {x t : Int} : nT 40 x = some t ↔ 0 < x ∧ x ≤ 40 ∧ t = 10 + x % 3 := by
  unfold nT
  by_cases h : (40 : Int) - ((40 : Nat) : Int) < x ∧ x ≤ 40
  · rw [if_pos h]
    constructor
    · intro e
      have := Option.some.inj e
      omega
    · rintro ⟨_, _, e⟩
      rw [e]
  · rw [if_neg h]
    constructor
    · intro e; cases e
    · rintro ⟨h1, h2, _⟩
      exact absurd ⟨by omega, h2⟩ h
theorem nV_all {x t : Int} : nV x = some t ↔ x ≠ 30 ∧ 0 < x ∧ x ≤ 40 ∧ t = 10 + x % 3 := by
  unfold nV
  by_cases h : x = 30
  · rw [if_pos h]
    simp [h]
  · rw [if_neg h, nT_all]
    simp [h]
theorem nU_tick : tickT nU (0 + 9) = nV := by
  funext x
  unfold tickT nU nV
  by_cases h : x = 30
  · rw [if_pos h, if_pos h]
    rfl
  · rw [if_neg h, if_neg h]
    cases hT : nT 40 x with
    | none => rfl
    | some t =>
      have := nT_all.1 hT
      show (if t ≤ 0 + 9 then none else some t) = some t
      rw [if_neg (by omega)]
theorem told9 {xs : List Int} (h : Due nU (0 + 9) xs) : xs = [30] := by
  refine h.one ⟨by simp, fun x => ?_⟩
  unfold nU
  by_cases hx : x = 30
  · subst hx
    simp
  · simp only [List.mem_singleton, hx, if_false, false_iff]
    rintro ⟨t, ht, hle⟩
    have := nT_all.1 ht
    omega
/-- All the others, by their times. -/
def n39 : List Int := [3, 6, 9, 12, 15, 18, 21, 24, 27, 33, 36, 39, 1, 4, 7, 10, 13, 16, 19, 22, 25, 28, 31, 34, 37, 40, 2, 5, 8, 11, 14, 17, 20, 23, 26, 29, 32, 35, 38]
theorem n39_mem {x : Int} : x ∈ n39 ↔ x ≠ 30 ∧ 0 < x ∧ x ≤ 40 := by
  constructor
  · have h : ∀ y ∈ n39, y ≠ 30 ∧ 0 < y ∧ y ≤ 40 := by decide
    exact h x
  · rintro ⟨h1, h2, h3⟩
    have h : ∀ k : Nat, k < 41 → k ≠ 30 → 0 < k → (k : Int) ∈ n39 := by decide
    have := h x.toNat (by omega) (by omega) (by omega)
    rwa [Int.toNat_of_nonneg (by omega)] at this
theorem told12 {xs : List Int} (h : Due nV (0 + 9 + 3) xs) : xs = n39 := by
  refine h.one ⟨?_, fun x => ?_⟩
  · have hp : n39.Pairwise (fun a b => a % 3 < b % 3 ∨ a % 3 = b % 3 ∧ a < b) := by decide
    refine hp.imp_of_mem (fun {a b} ha hb hab => ?_)
    have h1 := n39_mem.1 ha
    have h2 := n39_mem.1 hb
    exact ⟨10 + a % 3, 10 + b % 3, nV_all.2 ⟨h1.1, h1.2.1, h1.2.2, rfl⟩, nV_all.2 ⟨h2.1, h2.2.1, h2.2.2, rfl⟩, by omega⟩
  · rw [n39_mem]
    constructor
    · rintro ⟨h1, h2, h3⟩
      exact ⟨10 + x % 3, nV_all.2 ⟨h1, h2, h3, rfl⟩, by omega⟩
    · rintro ⟨t, ht, _⟩
      have := nV_all.1 ht
      exact ⟨this.1, this.2.1, this.2.2.1⟩
theorem n39_len : n39.length = 39 := rfl
theorem n1_set {m : Int} : setB (tickT (tickT nV (0 + 9 + 3)) m) 1 1099511627776 = true := by
  have h1 : nV 1 = some 11 := nV_all.2 ⟨by omega, by omega, by omega, rfl⟩
  have h2 : tickT nV (0 + 9 + 3) 1 = none := by
    unfold tickT
    rw [h1]
    rfl
  have h3 : tickT (tickT nV (0 + 9 + 3)) m 1 = none := by
    show (match tickT nV (0 + 9 + 3) 1 with | some t => if t ≤ m then none else some t | none => none) = none
    rw [h2]
  unfold setB
  rw [h3]
  rfl

end Go.Proofs.Ytpemnficdhjkhaa
