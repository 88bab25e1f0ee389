/- The card of LintKinds: whatever the name and the arity, the call returns true (lint tells what is built in as the document does). Conditions: the row's own alone. -/
import Derived.Test.YtbajgfoaakehbaaDoorFrKin
import Derived.Test.YtbajgfoaakehbaaDoorLwKin
namespace Go.Proofs.YtbajgfoaakehbaaDoor
open Go.RowKit

/-- The card: LintKinds returns true. -/
theorem lintKinds_card_holds : Rows.LintKindsCardSaid := lintKinds_card (fun s a W ⟨A, C, hF, hO, hB⟩ => Kinds_walk A C s a W hF hO hB)

end Go.Proofs.YtbajgfoaakehbaaDoor
