import Derived.Test.YtoncpcdepemlcaaGreatDoorPahM
import Derived.Test.YtoncpcdepemlcaaGreatDoorBrt
import Derived.Test.YtoncpcdepemlcaaGreatDoorPdk
import Derived.Lib.SmallJoins
import Derived.OwnWalkIn
import Derived.Shelf.Abstract
import Derived.Shelf.RegionOpen
import Derived.TacticsInMore
import Derived.LoopNIn
import Derived.LoopIn
namespace Go.Proofs.YtoncpcdepemlcaaGreatDoor
open Go.RowKit Go.Shelf
attribute [local go_sem] Oper.semAt_some
def Wr.digs (x : Wr) : List (Int × Nat) := dgsL (x.whole ++ x.part) (x.e + x.whole.length)
def encP (x : Int × Nat) : Array Value := #[.int .i64 x.1, .int .u64 (x.2 : Int)]
theorem dgs_zero {l:List UInt8} {k:Nat} {p:Int} (h:k<(bs l).size) (hc:(bs l)[k]=48):dgsL (l.drop k) p=dgsL (l.drop (k+1)) (p-1):=by
 rw[drop_step l k h,hc];simp[dgsL]
theorem dgs_more {l:List UInt8} {k:Nat} {p:Int} (h:k<(bs l).size) (hc:(bs l)[k]≠48):dgsL (l.drop k) p=(p-1,(bs l)[k].toNat-48)::dgsL (l.drop (k+1)) (p-1):=by
 rw[drop_step l k h];simp[dgsL,hc]
theorem bs_join (a b:List UInt8):bs a++bs b=bs (a++b):=bs_ext (by rw[Go.Joins.data_append];rfl)
end Go.Proofs.YtoncpcdepemlcaaGreatDoor
