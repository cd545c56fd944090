import Derived.RangeFuncNested
import Derived.RangeFuncBox
import Derived.RangeFuncBound
import Derived.RangeFuncCalls
import Derived.RangeFuncLeaves
import Derived.Test.YtnhflnpjepiceaaGreatDoorBase
namespace Go.Proofs.YtnhflnpjepiceaaGreatDoor
open Go.RowKit
variable {P : Program} {F : Fence} {n : Nat}
end Go.Proofs.YtnhflnpjepiceaaGreatDoor
