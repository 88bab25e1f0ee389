/- NameNumbers: six names, six processes; who has which. -/
import Derived.Test.YtpojkmpimnnjiaaGreatNmK
namespace Go.Proofs.YtpojkmpimnnjiaaGreat
open Go.RowKit Go.Maps

def nmL : List BS := [[], [97], [97, 0], [97, 98], [98], [255]]
def nm (i : Nat) : BS := nmL.getD i []
def pdL : List Int := [-9223372036854775808, -1, 0, 1, 9223372036854775807, 7]
def pd (i : Nat) : Int := pdL.getD i 0
theorem pd_i64 (i : Nat) : I64 (pd i) := by
  have h : ∀ k, k < 6 → -9223372036854775808 ≤ pd k ∧ pd k ≤ 9223372036854775807 := by decide
  by_cases hi : i < 6
  · exact i64_small (h i hi).1 (h i hi).2
  · have : pd i = 0 := by
      unfold pd
      rw [List.getD_eq_getElem?_getD, List.getElem?_eq_none (by simp [pdL]; omega)]
      rfl
    rw [this]
    exact i64_small (by omega) (by omega)
theorem nm_len (i : Nat) : (nm i).length ≤ 2 := by
  have h : ∀ k, k < 6 → (nm k).length ≤ 2 := by decide
  by_cases hi : i < 6
  · exact h i hi
  · have : nm i = [] := by
      unfold nm
      rw [List.getD_eq_getElem?_getD, List.getElem?_eq_none (by simp [nmL]; omega)]
      rfl
    rw [this]
    simp
theorem nm_ok (i : Nat) : okB (nm i) := by
  have := nm_len i
  unfold okB maxLen
  omega
/-- The first k have been put. -/
def FF : Nat → NF
  | 0 => fun _ => none
  | k + 1 => at1 (FF k) (nm (5 - k)) (some (pd k))
def GG : Nat → PF
  | 0 => fun _ => none
  | k + 1 => at1 (GG k) (pd k) (some (nm (5 - k)))
theorem ff_new {k : Nat} (hk : k < 6) : FF k (nm (5 - k)) = none := by
  rcases (by omega : k = 0 ∨ k = 1 ∨ k = 2 ∨ k = 3 ∨ k = 4 ∨ k = 5) with rfl | rfl | rfl | rfl | rfl | rfl <;> decide
theorem gg_new {k : Nat} (hk : k < 6) : GG k (pd k) = none := by
  rcases (by omega : k = 0 ∨ k = 1 ∨ k = 2 ∨ k = 3 ∨ k = 4 ∨ k = 5) with rfl | rfl | rfl | rfl | rfl | rfl <;> decide
theorem ff_has (k : Nat) : FF (k + 1) (nm (5 - k)) = some (pd k) := at1_same _ _ _
theorem gg_has (k : Nat) : GG (k + 1) (pd k) = some (nm (5 - k)) := at1_same _ _ _
def told6 : List Nd := [([], 7), ([97], 9223372036854775807), ([97, 0], 1), ([97, 98], 0), ([98], -1), ([255], -9223372036854775808)]
theorem told6_at {i : Nat} (hi : i < 6) : told6[i]? = some (nm i, pd (5 - i)) := by
  rcases (by omega : i = 0 ∨ i = 1 ∨ i = 2 ∨ i = 3 ∨ i = 4 ∨ i = 5) with rfl | rfl | rfl | rfl | rfl | rfl <;> rfl
theorem ff_six (s : BS) : FF 6 s = if s = [] then some 7 else if s = [97] then some 9223372036854775807 else if s = [97, 0] then some 1 else if s = [97, 98] then some 0 else if s = [98] then some (-1) else if s = [255] then some (-9223372036854775808) else none := rfl
theorem ff_told {ms : List Nd} (hp : ms.Pairwise (fun a b => a.1 < b.1)) (hmem : ∀ m : Nd, m ∈ ms ↔ FF 6 m.1 = some m.2) : ms = told6 := by
  refine nameds_one hp (by decide) (fun x => ?_)
  obtain ⟨s, p⟩ := x
  rw [hmem, ff_six]
  simp only [told6, List.mem_cons, Prod.mk.injEq, List.not_mem_nil, or_false]
  by_cases h0 : s = []
  · subst h0; simp; exact eq_comm
  · by_cases h1 : s = [97]
    · subst h1; simp; exact eq_comm
    · by_cases h2 : s = [97, 0]
      · subst h2; simp; exact eq_comm
      · by_cases h3 : s = [97, 98]
        · subst h3; simp; exact eq_comm
        · by_cases h4 : s = [98]
          · subst h4; simp; exact eq_comm
          · by_cases h5 : s = [255]
            · subst h5; simp; exact eq_comm
            · simp [h0, h1, h2, h3, h4, h5]

end Go.Proofs.YtpojkmpimnnjiaaGreat
