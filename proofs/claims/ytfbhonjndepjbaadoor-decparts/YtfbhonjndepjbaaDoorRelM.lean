import Derived.RangeFuncNested
import Derived.RangeFuncBox
import Derived.RangeFuncBound
import Derived.RangeFuncCalls
import Derived.RangeFuncLeaves
import Derived.Test.YtfbhonjndepjbaaDoorPdkM
import Derived.Deep.QuietTactic
import Derived.Sort.BigQuietIn
import Derived.OrdersIn
import Derived.OwnWalkIn
/- A range over a function whose body may know what comes when: the elements that the iterator hands out stand in a relation to those that came before. No round leaves the loop. -/
namespace Go.Proofs.YtfbhonjndepjbaaDoor
open Go.RowKit
variable {P : Program} {F : Fence} {n : Nat}

end Go.Proofs.YtfbhonjndepjbaaDoor
/- A range over a function whose body may leave the loop or the function: the elements that the iterator hands out stand in a relation to those before. -/
namespace Go.Proofs.YtfbhonjndepjbaaDoor
open Go.RowKit
variable {P : Program} {F : Fence} {n : Nat}

end Go.Proofs.YtfbhonjndepjbaaDoor
