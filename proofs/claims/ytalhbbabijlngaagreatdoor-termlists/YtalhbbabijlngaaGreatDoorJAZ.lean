/- What the order of right terms is like, said for the statement. -/
import Derived.Test.YtalhbbabijlngaaGreatDoorAwkT
import Derived.Test.YtalhbbabijlngaaGreatDoorJAL
import Derived.Test.YtalhbbabijlngaaGreatDoorJAS
namespace Go.Proofs.YtalhbbabijlngaaGreatDoor
open Go.RowKit
end Go.Proofs.YtalhbbabijlngaaGreatDoor
