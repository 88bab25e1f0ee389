/- The card of LintParts: whatever two trees and whatever number it is given, the call returns true (a program without a function that no other one names is a program; a function once more is told as a fault at its place; two programs that have no function in common are one). Conditions: the row's own alone. -/
import Derived.Test.YtpgjcedonimgnaaDoorJAU
import Derived.Test.YtpgjcedonimgnaaDoorJAY
namespace Go.Proofs.YtpgjcedonimgnaaDoor
open Go.RowKit

/-- The card: LintParts returns true. -/
theorem lintParts_card_holds : Rows.LintPartsCardSaid := lintParts_card (fun d cs0 t0 cs1 t1 x W hg in0 y0 x0 in1 y1 x1 => by
  obtain ⟨A, C, hF, hO, hB⟩ := hg
  cases d with
  | zero => exact in0.elim
  | succ d =>
    obtain ⟨k0, s0, n0, p0, K0⟩ := t0
    obtain ⟨k1, s1, n1, p1, K1⟩ := t1
    obtain ⟨a0, c0, rfl⟩ := in0.cells
    obtain ⟨a1, c1, rfl⟩ := in1.cells
    exact Parts_walk A C d W k0 n0 p0 k1 n1 p1 x s0 s1 K0 K1 a0 a1 c0 c1 in0 in1 y0 x0 y1 x1 hF hO hB)

end Go.Proofs.YtpgjcedonimgnaaDoor
