/-
  DERIVED. GIVEN WITH THE SEED: THE CARDS: each row of YtejcppnleckmfaaDoorRows.lean that lists a variable, with what it lists TIED to the program's text (the seventh form; the later family's looks); each row that meets fmt, with fmt's text TOLD by the authors' own Lean function (tested against real Go, not proved from fmt's source: count such statements apart). THE CARD IS WHAT COUNTS. Prove the row's statement (the work); the ties are given (YtejcppnleckmfaaDoorTie.lean); close each card by the builder's one call (the guide's Derived/Test/ToyasCard.lean, 'card_holds'). Laid BY PROGRAM, IN A SANDBOX (cutbox-door.mjs). By AI agents, Wed Nov 11 2026. No macro, syntax, notation, axiom, sorry.
-/
import Derived.Test.YtejcppnleckmfaaDoorRows
import GoSem.ClaimSeven
namespace Go.Proofs.YtejcppnleckmfaaDoor
namespace Rows

/-- THE TIED CARD OF 'pigeonholelaw04.NodeSames'. -/
def nodeSamesCard : Claim7 := { stood := { row := nodeSamesRow, standIns := [], harness := (true, "af4b736384e620d6b4441b6b740175909ed94f141103797a475687a70f7b8dc4"), looks := false }, kinds := [], alts := [], laidByText := true, laidKinds := [.data, .widerDeep], laidTests := true, laidLooks := .later }
def NodeSamesCardSaid : Prop := Claim7.holds Tryd.pinned (.plain (OpenSpec.ofChange nodeSamesSpec)) nodeSamesCard

/-- THE SECOND FORM's CARD OF 'pigeonholelaw04.NodeSames'. -/
def nodeSamesUptoCard : Claim7 := { stood := { row := nodeSamesUptoRow, standIns := [], harness := (true, "af4b736384e620d6b4441b6b740175909ed94f141103797a475687a70f7b8dc4"), looks := false }, kinds := [], alts := [], laidByText := true, laidKinds := [.data, .widerDeep], laidTests := true, laidLooks := .later }
def NodeSamesUptoCardSaid : Prop := Claim7.holds Tryd.pinned (.plain (OpenSpec.upto nodeSamesSpec)) nodeSamesUptoCard
end Rows
end Go.Proofs.YtejcppnleckmfaaDoor
