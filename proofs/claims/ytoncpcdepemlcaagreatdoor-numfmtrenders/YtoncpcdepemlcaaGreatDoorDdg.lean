import Derived.Test.YtoncpcdepemlcaaGreatDoorPahM
import Derived.Test.YtoncpcdepemlcaaGreatDoorBrt
import Derived.Test.YtoncpcdepemlcaaGreatDoorPdk
import Derived.Lib.SmallJoins
import Derived.OwnWalkIn
import Derived.Shelf.Abstract
import Derived.Shelf.RegionOpen
import Derived.TacticsInMore
import Derived.LoopNIn
import Derived.LoopIn
namespace Go.Proofs.YtoncpcdepemlcaaGreatDoor
open Go.RowKit Go.Shelf
attribute [local go_sem] Oper.semAt_some
def Wr.digs (x : Wr) : List (Int × Nat) := dgsL (x.whole ++ x.part) (x.e + x.whole.length)
end Go.Proofs.YtoncpcdepemlcaaGreatDoor
