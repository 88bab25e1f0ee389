/- The card of LintNumbers: the call returns true (all names that are built in, at all arities, are told as the document tells them). Conditions: the row's own alone. -/
import Derived.Test.YtbajgfoaakehbaaDoorFrNum
import Derived.Test.YtbajgfoaakehbaaDoorLwNum
namespace Go.Proofs.YtbajgfoaakehbaaDoor
open Go.RowKit

/-- The card: LintNumbers returns true. -/
theorem lintNumbers_card_holds : Rows.LintNumbersCardSaid := lintNumbers_card (fun W ⟨A, C, hF, hO, hB⟩ => Numbers_walk A C W hF hO hB)

end Go.Proofs.YtbajgfoaakehbaaDoor
