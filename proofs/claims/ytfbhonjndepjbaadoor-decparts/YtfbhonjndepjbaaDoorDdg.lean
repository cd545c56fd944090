import Derived.Test.YtfbhonjndepjbaaDoorPahM
import Derived.Test.YtfbhonjndepjbaaDoorRelM
import Derived.Test.YtfbhonjndepjbaaDoorPdkM
import Derived.Lib.SmallJoins
import Derived.OwnWalkIn
import Derived.Shelf.Abstract
import Derived.Shelf.RegionOpen
import Derived.TacticsInMore
import Derived.LoopNIn
import Derived.LoopIn
/- The digits that are no noughts, one by one. -/
namespace Go.Proofs.YtfbhonjndepjbaaDoor
open Go.RowKit Go.Shelf

attribute [local go_sem] Oper.semAt_some

def Wr.digs (x : Wr) : List (Int × Nat) := dgsL (x.whole ++ x.part) (x.e + x.whole.length)
end Go.Proofs.YtfbhonjndepjbaaDoor
