import Derived.Test.YtoncpcdepemlcaaGreatDoorRel
import Derived.Deep.QuietTactic
import Derived.Sort.BigQuietIn
import Derived.OrdersIn
import Derived.OwnWalkIn
/- A range over a function whose body may leave the loop or the function: the elements that the iterator hands out stand in a relation to those before. -/
namespace Go.Proofs.YtoncpcdepemlcaaGreatDoor
open Go.RowKit
variable {P : Program} {F : Fence} {n : Nat}

end Go.Proofs.YtoncpcdepemlcaaGreatDoor
