import Derived.Test.YtoncpcdepemlcaaGreatDoorRel
import Derived.Deep.QuietTactic
import Derived.Sort.BigQuietIn
import Derived.OrdersIn
import Derived.OwnWalkIn
namespace Go.Proofs.YtoncpcdepemlcaaGreatDoor
open Go.RowKit
variable {P : Program} {F : Fence} {n : Nat}
end Go.Proofs.YtoncpcdepemlcaaGreatDoor
