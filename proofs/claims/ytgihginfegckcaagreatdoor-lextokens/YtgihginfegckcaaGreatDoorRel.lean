import Derived.RangeFuncNested
import Derived.RangeFuncBox
import Derived.RangeFuncBound
import Derived.RangeFuncCalls
import Derived.RangeFuncLeaves
import Derived.Test.YtgihginfegckcaaGreatDoorBase
/- A range over a function whose body may know what comes when: the elements that the iterator hands out stand in a relation to those that came before. No round leaves the loop. -/
namespace Go.Proofs.YtgihginfegckcaaGreatDoor
open Go.RowKit
variable {P : Program} {F : Fence} {n : Nat}

end Go.Proofs.YtgihginfegckcaaGreatDoor
