/- Cons of a term and what is no list; of whatever two terms. -/
import Derived.Test.YtalhbbabijlngaaGreatDoorJAU
namespace Go.Proofs.YtalhbbabijlngaaGreatDoor
open Go.RowKit
end Go.Proofs.YtalhbbabijlngaaGreatDoor
