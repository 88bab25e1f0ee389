/- What is a function, what is a module: mathematics. -/
import Derived.Test.YtehfoblfmehbdaaDoorNuC
namespace Go.Proofs.YtehfoblfmehbdaaDoor
open Go.RowKit

/-- A function of a module. -/
def fnB : Nd → Bool
  | .mk k s num pos K => k == 21 && (decide (0 ≤ pos) && (decide (s.size ≤ 40) && ((allF (clB (-1)) 0 K && decide (0 < K.length)) && (num == (parB K : Int)))))
theorem fld21 (s : ByteArray) (num pos : Int) (K : List Nd) : fldB (.mk 21 s num pos K) = (decide (0 ≤ pos) && (decide (s.size ≤ 40) && (num == (parB K : Int)))) := by
  simp [fldB, txB, nmB]
theorem fld22 (s : ByteArray) (num pos : Int) (K : List Nd) : fldB (.mk 22 s num pos K) = plB s num pos := by
  simp [fldB, txB, nmB, plB]
  cases decide (0 ≤ pos) <;> cases decide (s.size = 0) <;> simp
theorem all_cl (K : List Nd) : K.all (isB 9) = allF (clB (-1)) 0 K := by
  have : isB 9 = clB (-1) := funext is9
  rw [this]; rfl
theorem is2 (t : Nd) : isB 2 t = fnB t := by
  obtain ⟨k, s, num, pos, K⟩ := t
  rw [fnB]
  by_cases h : k = 21
  · subst h
    rw [isB_eq 2 21 s num pos K ⟨2, 21, 1, [9], true⟩ rfl, fld21, isR_one, all_cl]
    have : kidsN ⟨2, 21, 1, [9], true⟩ K.length = decide (0 < K.length) := by
      unfold kidsN
      simp
      omega
    rw [this]
    cases decide (0 < K.length) <;> cases allF (clB (-1)) 0 K <;> cases decide (0 ≤ pos) <;> cases decide (s.size ≤ 40) <;> simp
  · have hb : (k == 21) = false := beq_eq_false_iff_ne.2 h
    rw [hb, Bool.false_and]
    exact isB_none 2 k s num pos K (none_of 2 (by decide) k (kinds_of 2 [21] (by decide) k (by simpa using h)))
theorem is1 (t : Nd) : isB 1 t = (match t with | .mk k s num pos K => k == 22 && (plB s num pos && K.all fnB)) := by
  obtain ⟨k, s, num, pos, K⟩ := t
  by_cases h : k = 22
  · subst h
    rw [isB_eq 1 22 s num pos K ⟨1, 22, 0, [2], true⟩ rfl, fld22, isR_one]
    have h2 : isB 2 = fnB := funext is2
    have : kidsN ⟨1, 22, 0, [2], true⟩ K.length = true := by
      unfold kidsN
      simp
    rw [this, h2]
    simp only [beq_self_eq_true, Bool.true_and]
    rw [Bool.and_comm]
  · have hb : (k == 22) = false := beq_eq_false_iff_ne.2 h
    simp only [hb, Bool.false_and]
    exact isB_none 1 k s num pos K (none_of 1 (by decide) k (kinds_of 1 [22] (by decide) k (by simpa using h)))

end Go.Proofs.YtehfoblfmehbdaaDoor
