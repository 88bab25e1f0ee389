/- sum: two amounts with signs. -/
import Derived.Test.YtplkcegdmlfhcaaDoorSgn
import Derived.Test.YtplkcegdmlfhcaaDoorJH
import Derived.Test.YtplkcegdmlfhcaaDoorCmpL
namespace Go.Proofs.YtplkcegdmlfhcaaDoor
open Go.RowKit

/-- An amount with a sign. -/
def sg (neg : Bool) (n : Nat) : Int := if neg then -(n : Int) else n
theorem sg_abs (neg : Bool) (n : Nat) : (sg neg n).natAbs = n := by cases neg <;> simp [sg]
theorem sg_neg (neg : Bool) (n : Nat) : decide (sg neg n < 0) = (neg && decide (0 < n)) := by
  cases neg <;> simp [sg]
theorem sg_of (z : Int) : sg (decide (z < 0)) z.natAbs = z := by
  by_cases h : z < 0
  · simp [sg, h]; omega
  · simp [sg, h]; omega

theorem cmp3_ge (x y : Nat) (h : ¬ x < y) : 0 ≤ cmp3 x y := by
  unfold cmp3
  rw [if_neg h]
  split <;> simp

/-- A right integer: sign, limbs, in memory. -/
structure TI (w : World) (neg : Bool) (a : Option Addr) (M : List Nat) (z : Int) : Prop where
  norm : Norm M z.natAbs
  mem : At w a M
  len : M.length ≤ 32
  sgn : neg = decide (z < 0)

theorem TI.mono {w w' : World} {neg : Bool} {a : Option Addr} {M : List Nat} {z : Int} (h : TI w neg a M z) (hu : Upd [] w w') : TI w' neg a M z := ⟨h.norm, h.mem.mono hu, h.len, h.sgn⟩
theorem TI.sg {w : World} {neg : Bool} {a : Option Addr} {M : List Nat} {z : Int} (h : TI w neg a M z) : Go.Proofs.YtplkcegdmlfhcaaDoor.sg neg z.natAbs = z := by rw [h.sgn]; exact sg_of z
theorem TI.small {w : World} {neg : Bool} {a : Option Addr} {M : List Nat} {z : Int} (h : TI w neg a M z) : z.natAbs < 4294967296 ^ 32 := (h.norm.len_le 32).1 h.len

/-- What a call that may lack room answers. -/
def Res (w' : World) (e : Ending) (z : Int) : Prop :=
  (z.natAbs < 4294967296 ^ 32 ∧ ∃ neg a c M, e = .returned (.tuple #[.agg #[.int .u8 1, .bool neg, .slice a M.length c, .string ⟨#[]⟩, .int .i64 0, .slice none 0 0, .slice none 0 0], .bool true]) ∧ TI w' neg a M z) ∨
  (¬ z.natAbs < 4294967296 ^ 32 ∧ e = .returned (.tuple #[(.agg #[.int .u8 0, .bool false, .slice none 0 0, .string ⟨#[]⟩, .int .i64 0, .slice none 0 0, .slice none 0 0]), .bool false]))

end Go.Proofs.YtplkcegdmlfhcaaDoor
