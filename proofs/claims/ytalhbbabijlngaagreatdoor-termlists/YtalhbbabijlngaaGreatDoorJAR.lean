/- parts of the reference, by its contract. -/
import Derived.Test.YtalhbbabijlngaaGreatDoorJAQ
import Derived.Test.YtalhbbabijlngaaGreatDoorJAB
import Derived.Test.YtalhbbabijlngaaGreatDoorJAF
import Derived.Test.YtalhbbabijlngaaGreatDoorJAC
import Derived.WalkSpells
import Derived.Lib.Strings
import Derived.Test.YtalhbbabijlngaaGreatDoorJAN
import Derived.Deep.RegionWith
import Derived.Test.YtalhbbabijlngaaGreatDoorCmpL
import Derived.Test.YtalhbbabijlngaaGreatDoorJAE
import Derived.Deep.RegionHeld3
import Derived.Test.YtalhbbabijlngaaGreatDoorJAP
import Derived.Test.YtalhbbabijlngaaGreatDoorJAJ
import Derived.Test.YtalhbbabijlngaaGreatDoorJAD
import Derived.Lib.ItoaMem
namespace Go.Proofs.YtalhbbabijlngaaGreatDoor
open Go.RowKit
theorem getnew2 (w : World) (o : Obj) (n : Nat) (h : n = w.heap.size) : (w.alloc o).heap[n]? = some o := by subst h; exact heap_alloc_new w o
end Go.Proofs.YtalhbbabijlngaaGreatDoor
namespace Go.Proofs.YtalhbbabijlngaaGreatDoor
open Go.RowKit
theorem bit_low (m : Nat) (hm : m < 18446744073709551616) : (bits BinOp.and IntKind.u64 (m : Int) 1 == 1) = decide (m % 2 = 1) := by
 rw [show (1 : Int) = ((1 : Nat) : Int) from rfl, bits_and_u64_nat m 1 hm (by decide), Nat.and_one_is_mod]
 have := Nat.mod_two_eq_zero_or_one m
 rcases this with h | h <;> rw [h] <;> rfl
theorem of_step (L : List Bool) (k m S : Nat) (b : Bool) (hb : b = decide (m % 2 = 1)) (hk : L.length = k) (he : nb L + 2 ^ k * m = S) : nb (L ++ [b]) + 2 ^ (k + 1) * (m / 2) = S := by
 have e : b.toNat + 2 * (m / 2) = m := by
  rw [hb]
  have := Nat.mod_two_eq_zero_or_one m
  rcases this with h | h <;> simp [h] <;> omega
 have h2 : 2 ^ k * (b.toNat + 2 * (m / 2)) = 2 ^ k * m := by rw [e]
 rw [nb_append, nb_one, hk, Nat.pow_succ, Nat.mul_assoc]
 rw [Nat.mul_add] at h2
 omega
def OfInv (W : World) (S : Nat) (mv v : Value) (wr : World) : Prop := ∃ (m k : Nat) (L : List Bool), mv = .int .u64 m ∧ OL wr W.heap.size v L ∧ L.length = k ∧ nb L + 2 ^ k * m = S ∧ m < 18446744073709551616 ∧ k ≤ 64 ∧ Upd [] W wr
theorem of_len (L : List Bool) (m S : Nat) (hm : 0 < m) (he : nb L + 2 ^ L.length * m = S) (hS : S < 18446744073709551616) : L.length < 64 := by
 have h1 : 2 ^ L.length * 1 ≤ 2 ^ L.length * m := Nat.mul_le_mul_left _ hm
 have h2 : 2 ^ L.length < 2 ^ 64 := by
  have : (2 : Nat) ^ 64 = 18446744073709551616 := by decide
  omega
 exact (Nat.pow_lt_pow_iff_right (a := 2) (by decide)).1 h2
end Go.Proofs.YtalhbbabijlngaaGreatDoor
namespace Go.Proofs.YtalhbbabijlngaaGreatDoor
open Go.RowKit
end Go.Proofs.YtalhbbabijlngaaGreatDoor
