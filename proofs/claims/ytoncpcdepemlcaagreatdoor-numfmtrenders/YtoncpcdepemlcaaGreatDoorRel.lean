import Derived.RangeFuncNested
import Derived.RangeFuncBox
import Derived.RangeFuncBound
import Derived.RangeFuncCalls
import Derived.RangeFuncLeaves
import Derived.Test.YtoncpcdepemlcaaGreatDoorBase
namespace Go.Proofs.YtoncpcdepemlcaaGreatDoor
open Go.RowKit
variable {P : Program} {F : Fence} {n : Nat}
end Go.Proofs.YtoncpcdepemlcaaGreatDoor
