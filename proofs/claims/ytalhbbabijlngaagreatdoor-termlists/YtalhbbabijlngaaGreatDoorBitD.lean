/- sum and less of the reference, by their contracts. -/
import Derived.Test.YtalhbbabijlngaaGreatDoorJAP
namespace Go.Proofs.YtalhbbabijlngaaGreatDoor
open Go.RowKit
end Go.Proofs.YtalhbbabijlngaaGreatDoor
