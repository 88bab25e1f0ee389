/- addLimbs, by its contract. -/
import Derived.Test.YtedelcgimbclpaaDoorJK
import Derived.Deep.RegionWith

namespace Go.Proofs.YtedelcgimbclpaaDoor
open Go.RowKit

theorem pow_split (k x y : Nat) : 4294967296 ^ k * (x + 4294967296 * y) = 4294967296 ^ k * x + 4294967296 ^ (k + 1) * y := by
  rw [Nat.mul_add, Nat.pow_succ, Nat.mul_assoc]

theorem getD_set_ne (X : List Nat) (k d j : Nat) (h : j ≠ k) : (X.set k d).getD j 0 = X.getD j 0 := by
  rw [List.getD_eq_getElem?_getD, List.getD_eq_getElem?_getD, List.getElem?_set_ne (by omega)]

/-- One step of a sum. -/
theorem carry_step (X : List Nat) (k c low c' t : Nat) (hk : k < X.length) (hz : X.getD k 0 = 0) (h : low + 4294967296 * c' = c + t) :
    val (X.set k low) + 4294967296 ^ (k + 1) * c' = val X + 4294967296 ^ k * c + 4294967296 ^ k * t := by
  have h1 := val_set X k low hk
  rw [hz, Nat.mul_zero, Nat.add_zero] at h1
  rw [h1, Nat.add_assoc, Nat.add_assoc, ← pow_split, h, Nat.mul_add]

theorem add_step (X A B : List Nat) (k c low c' : Nat) (hk : k < X.length) (hz : X.getD k 0 = 0) (he : val X + 4294967296 ^ k * c = val (A.take k) + val (B.take k))
    (h : low + 4294967296 * c' = c + (1 * A.getD k 0 + B.getD k 0)) :
    val (X.set k low) + 4294967296 ^ (k + 1) * c' = val (A.take (k + 1)) + val (B.take (k + 1)) := by
  rw [carry_step X k c low c' _ hk hz h, he, val_take_succ, val_take_succ, Nat.one_mul, Nat.mul_add]
  generalize 4294967296 ^ k = p
  omega

/-- Nothing is carried beyond the end. -/
theorem no_carry (_b _p P c vx s : Nat) (h1 : s < P) (he : vx + P * c = s) : c = 0 := by
  rcases Nat.eq_zero_or_pos c with h | h
  · exact h
  · have h6 : P * 1 ≤ P * c := Nat.mul_le_mul_left _ h
    generalize P * c = t at *
    omega

theorem two_lt (b p x y : Nat) (hb : 2 ≤ b) (hx : x < p) (hy : y < p) : x + y < p * b := by
  have := Nat.mul_le_mul_left p hb
  generalize p * b = t at *
  omega

theorem add_end (X A B : List Nat) (m c : Nat) (hA : A.length ≤ m) (hB : B.length ≤ m) (dA : Dig A) (dB : Dig B)
    (he : val X + 4294967296 ^ (m + 1) * c = val (A.take (m + 1)) + val (B.take (m + 1))) : val X = val A + val B := by
  rw [val_take_all A _ (by omega), val_take_all B _ (by omega)] at he
  have h3 : 4294967296 ^ A.length ≤ 4294967296 ^ m := Nat.pow_le_pow_right (by decide) hA
  have h4 : 4294967296 ^ B.length ≤ 4294967296 ^ m := Nat.pow_le_pow_right (by decide) hB
  have h5 : val A + val B < 4294967296 ^ (m + 1) := by
    rw [Nat.pow_succ]
    exact two_lt _ _ _ _ (by decide) (Nat.lt_of_lt_of_le (val_lt dA) h3) (Nat.lt_of_lt_of_le (val_lt dB) h4)
  have h6 := no_carry 0 0 _ c _ _ h5 he
  rw [h6, Nat.mul_zero, Nat.add_zero] at he
  exact he

end Go.Proofs.YtedelcgimbclpaaDoor

/- subLimbs, by its contract. -/
namespace Go.Proofs.YtedelcgimbclpaaDoor
open Go.RowKit

theorem sub_step (X A B : List Nat) (k c low c' : Nat) (hk : k < X.length) (hz : X.getD k 0 = 0) (he : val X + val (B.take k) = val (A.take k) + 4294967296 ^ k * c)
    (h : low + (B.getD k 0 + c) = A.getD k 0 + 4294967296 * c') : val (X.set k low) + val (B.take (k + 1)) = val (A.take (k + 1)) + 4294967296 ^ (k + 1) * c' := by
  have h1 := val_set X k low hk
  rw [hz, Nat.mul_zero, Nat.add_zero] at h1
  have h2 := pow_split k (A.getD k 0) c'
  rw [← h, Nat.mul_add, Nat.mul_add] at h2
  rw [h1, val_take_succ, val_take_succ]
  generalize 4294967296 ^ (k + 1) * c' = t at *
  generalize 4294967296 ^ k * low = u1 at *
  generalize 4294967296 ^ k * B.getD k 0 = u2 at *
  generalize 4294967296 ^ k * A.getD k 0 = u3 at *
  generalize 4294967296 ^ k * c = u4 at *
  omega

theorem sub_end (X A B : List Nat) (c : Nat) (hX : X.length = A.length) (dX : Dig X) (hle : val B ≤ val A) (hl : B.length ≤ A.length)
    (he : val X + val (B.take A.length) = val (A.take A.length) + 4294967296 ^ A.length * c) : val X = val A - val B := by
  rw [val_take_all A _ (Nat.le_refl _), val_take_all B _ hl] at he
  have h1 := val_lt dX
  rw [hX] at h1
  rcases Nat.eq_zero_or_pos c with h | h
  · rw [h, Nat.mul_zero] at he; omega
  · have h6 : 4294967296 ^ A.length * 1 ≤ 4294967296 ^ A.length * c := Nat.mul_le_mul_left _ h
    generalize 4294967296 ^ A.length * c = t at *
    generalize 4294967296 ^ A.length = p at *
    omega

end Go.Proofs.YtedelcgimbclpaaDoor
