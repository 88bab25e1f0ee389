/-
  DERIVED. GIVEN WITH THE SEED: THE CARDS: each row of YtehfoblfmehbdaaDoorRows.lean that lists a variable, with what it lists TIED to the program's text (the seventh form; the later family's looks); each row that meets fmt, with fmt's text TOLD by the authors' own Lean function (tested against real Go, not proved from fmt's source: count such statements apart). THE CARD IS WHAT COUNTS. Prove the row's statement (the work); the ties are given (YtehfoblfmehbdaaDoorTie.lean); close each card by the builder's one call (the guide's Derived/Test/ToyasCard.lean, 'card_holds'). Laid BY PROGRAM, IN A SANDBOX (cutbox-door.mjs). By AI agents, Wed Nov 11 2026. No macro, syntax, notation, axiom, sorry.
-/
import Derived.Test.YtehfoblfmehbdaaDoorRows
import GoSem.ClaimSeven
namespace Go.Proofs.YtehfoblfmehbdaaDoor
namespace Rows

/-- THE TIED CARD OF 'pigeonholelaw04.NodeRights'. -/
def nodeRightsCard : Claim7 := { stood := { row := nodeRightsRow, standIns := [], harness := (true, "b59124d1d37212aa1a22e3eb3ce7ab4b399d770dac8f2a89596073a173633295"), looks := false }, kinds := [], alts := [], laidByText := true, laidKinds := [.data, .widerDeep], laidTests := true, laidLooks := .later }
def NodeRightsCardSaid : Prop := Claim7.holds Tryd.pinned (.plain (OpenSpec.ofChange nodeRightsSpec)) nodeRightsCard

/-- THE SECOND FORM's CARD OF 'pigeonholelaw04.NodeRights'. -/
def nodeRightsUptoCard : Claim7 := { stood := { row := nodeRightsUptoRow, standIns := [], harness := (true, "b59124d1d37212aa1a22e3eb3ce7ab4b399d770dac8f2a89596073a173633295"), looks := false }, kinds := [], alts := [], laidByText := true, laidKinds := [.data, .widerDeep], laidTests := true, laidLooks := .later }
def NodeRightsUptoCardSaid : Prop := Claim7.holds Tryd.pinned (.plain (OpenSpec.upto nodeRightsSpec)) nodeRightsUptoCard
end Rows
end Go.Proofs.YtehfoblfmehbdaaDoor
