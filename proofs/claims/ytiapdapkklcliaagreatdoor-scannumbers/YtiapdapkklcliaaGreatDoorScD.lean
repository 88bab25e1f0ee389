/- Scanning: how many tokens there are. -/
import Derived.Test.YtiapdapkklcliaaGreatDoorScB
namespace Go.Proofs.YtiapdapkklcliaaGreatDoor.Sc

theorem Row.ge {S : List UInt8} {place : Nat} {l : List Tok} (h : Row S place l) : ∀ i (hi : i < l.length), i ≤ l[i].place := by
  intro i
  induction i with
  | zero => intro _; exact Nat.zero_le _
  | succ i ih =>
    intro hi
    have h1 := ih (by omega)
    have h2 := h.rise i hi
    omega
theorem tokens_len (s : List UInt8) (l : List Tok) (h : tokens s = .ok l) : l.length ≤ s.length + 1 ∧ s.length ≤ 65536 := by
  have hr := tokens_row s l h
  have h0 := hr.ne
  have h1 := hr.ge (l.length - 1) (by omega)
  rw [hr.last (by omega)] at h1
  simp only at h1
  refine ⟨by omega, ?_⟩
  unfold tokens at h
  split at h
  · cases h
  · omega

end Go.Proofs.YtiapdapkklcliaaGreatDoor.Sc
