/-
  DERIVED. GIVEN WITH THE SEED: THE CARDS: each row of YtedelcgimbclpaaDoorRows.lean that lists a variable, with what it lists TIED to the program's text (the seventh form; the later family's looks); each row that meets fmt, with fmt's text TOLD by the authors' own Lean function (tested against real Go, not proved from fmt's source: count such statements apart). THE CARD IS WHAT COUNTS. Prove the row's statement (the work); the ties are given (YtedelcgimbclpaaDoorTie.lean); close each card by the builder's one call (the guide's Derived/Test/ToyasCard.lean, 'card_holds'). Laid BY PROGRAM, IN A SANDBOX (cutbox-door.mjs). By AI agents, Wed Nov 11 2026. No macro, syntax, notation, axiom, sorry.
-/
import Derived.Test.YtedelcgimbclpaaDoorRows
import GoSem.ClaimSeven
namespace Go.Proofs.YtedelcgimbclpaaDoor
namespace Rows

/-- THE TIED CARD OF 'pigeonholelaw02.TermOrder'. -/
def termOrderCard : Claim7 := { stood := { row := termOrderRow, standIns := [], harness := (true, "203d12e344d09c3c947df1136b639b88ed3c6c16340edc7e2969e8871acccba0"), looks := false }, kinds := [], alts := [], laidByText := true, laidKinds := [.data, .data, .data, .data, .data, .pinned], laidTests := true, laidLooks := .later }
def TermOrderCardSaid : Prop := Claim7.holds Tryd.pinned (.plain (OpenSpec.ofChange termOrderSpec)) termOrderCard

/-- THE TIED CARD OF 'pigeonholelaw02.TermSplits'. -/
def termSplitsCard : Claim7 := { stood := { row := termSplitsRow, standIns := [], harness := (true, "203d12e344d09c3c947df1136b639b88ed3c6c16340edc7e2969e8871acccba0"), looks := false }, kinds := [], alts := [], laidByText := true, laidKinds := [.data, .data, .data, .data, .data, .pinned], laidTests := true, laidLooks := .later }
def TermSplitsCardSaid : Prop := Claim7.holds Tryd.pinned (.plain (OpenSpec.ofChange termSplitsSpec)) termSplitsCard

/-- THE TIED CARD OF 'pigeonholelaw02.TermTexts'. -/
def termTextsCard : Claim7 := { stood := { row := termTextsRow, standIns := [], harness := (true, "203d12e344d09c3c947df1136b639b88ed3c6c16340edc7e2969e8871acccba0"), looks := false }, kinds := [], alts := [], laidByText := true, laidKinds := [.data, .data, .data, .data, .data, .pinned], laidTests := true, laidLooks := .later }
def TermTextsCardSaid : Prop := Claim7.holds Tryd.pinned (.plain (OpenSpec.ofChange termTextsSpec)) termTextsCard

/-- THE SECOND FORM's CARD OF 'pigeonholelaw02.TermOrder'. -/
def termOrderUptoCard : Claim7 := { stood := { row := termOrderUptoRow, standIns := [], harness := (true, "203d12e344d09c3c947df1136b639b88ed3c6c16340edc7e2969e8871acccba0"), looks := false }, kinds := [], alts := [], laidByText := true, laidKinds := [.data, .data, .data, .data, .data, .pinned], laidTests := true, laidLooks := .later }
def TermOrderUptoCardSaid : Prop := Claim7.holds Tryd.pinned (.plain (OpenSpec.upto termOrderSpec)) termOrderUptoCard

/-- THE SECOND FORM's CARD OF 'pigeonholelaw02.TermSplits'. -/
def termSplitsUptoCard : Claim7 := { stood := { row := termSplitsUptoRow, standIns := [], harness := (true, "203d12e344d09c3c947df1136b639b88ed3c6c16340edc7e2969e8871acccba0"), looks := false }, kinds := [], alts := [], laidByText := true, laidKinds := [.data, .data, .data, .data, .data, .pinned], laidTests := true, laidLooks := .later }
def TermSplitsUptoCardSaid : Prop := Claim7.holds Tryd.pinned (.plain (OpenSpec.upto termSplitsSpec)) termSplitsUptoCard

/-- THE SECOND FORM's CARD OF 'pigeonholelaw02.TermTexts'. -/
def termTextsUptoCard : Claim7 := { stood := { row := termTextsUptoRow, standIns := [], harness := (true, "203d12e344d09c3c947df1136b639b88ed3c6c16340edc7e2969e8871acccba0"), looks := false }, kinds := [], alts := [], laidByText := true, laidKinds := [.data, .data, .data, .data, .data, .pinned], laidTests := true, laidLooks := .later }
def TermTextsUptoCardSaid : Prop := Claim7.holds Tryd.pinned (.plain (OpenSpec.upto termTextsSpec)) termTextsUptoCard
end Rows
end Go.Proofs.YtedelcgimbclpaaDoor
