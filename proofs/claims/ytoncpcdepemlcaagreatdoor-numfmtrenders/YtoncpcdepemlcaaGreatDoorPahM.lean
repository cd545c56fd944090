import Derived.Test.YtoncpcdepemlcaaGreatDoorWtnM
import Derived.Test.YtoncpcdepemlcaaGreatDoorSh2
import Derived.Lib.IndexBytes
import Derived.WalkLawsBesides
namespace Go.Proofs.YtoncpcdepemlcaaGreatDoor
open Go.RowKit
def bs (l : List UInt8) : ByteArray := ⟨l.toArray⟩
theorem bs_list (l:List UInt8):(bs l).data.toList=l:=rfl
theorem bs_of (s:ByteArray):bs s.data.toList=s:=rfl
theorem bs_size (l:List UInt8):(bs l).size=l.length:=by simp[bs,ByteArray.size]
theorem bs_toList (l:List UInt8):(bs l).toList=l:=by rw[Lib.toList_data];rfl
theorem bs_ext {a:ByteArray} {l:List UInt8} (h:a.data.toList=l):a=bs l:=by rw[←h];rfl
theorem bs_take (l:List UInt8) (k:Nat):(bs l).extract 0 k=bs (l.take k):=bs_ext (by rw[Lib.extract_data];simp[bs])
theorem bs_drop (l : List UInt8) (k : Nat) : (bs l).extract k (bs l).size = bs (l.drop k) := bs_ext (by
  rw [Lib.extract_data, bs_list, bs_size]
  rw [List.take_of_length_le (by simp)])
def aheadL (l cs : List UInt8) : List UInt8 := l.takeWhile (cs.contains ·)
def behL (l cs : List UInt8) : List UInt8 := l.dropWhile (cs.contains ·)
theorem drop_step (l:List UInt8) (k:Nat) (h:k<(bs l).size):l.drop k=(bs l)[k]::l.drop (k+1):=by
 have h':k<l.length:=by rw[bs_size] at h;exact h
 rw[List.drop_eq_getElem_cons h'];rfl
def digL : List UInt8 := [48, 49, 50, 51, 52, 53, 54, 55, 56, 57]
def rowN (l : List UInt8) : Nat := l.foldl (fun a b => a * 10 + (b.toNat - 48)) 0
theorem below_allocS {a w:World} (h:Below a.heap.size a w) (o:Obj):Below a.heap.size a (w.alloc o):=h.alloc h.size o
def expD (r : List UInt8) : List UInt8 := if Lib.hasPrefix r [45] then Lib.trimPrefix r [45] else Lib.trimPrefix r [43]
def expR (l : List UInt8) : Int × Bool := match l with
  | [] => (0, false)
  | a :: r => if decide (a = 69) || decide (a = 101) then
      (if decide (1 ≤ (aheadL (expD r) digL).length) && decide ((aheadL (expD r) digL).length ≤ 3) && (behL (expD r) digL).isEmpty then
        ((if Lib.hasPrefix r [45] then -((rowN (aheadL (expD r) digL) : Nat) : Int) else ((rowN (aheadL (expD r) digL) : Nat) : Int)), true) else (0, false))
      else (0, false)
structure Wr where
  neg : Bool
  whole : List UInt8
  part : List UInt8
  e : Int
def Wr.cells (x : Wr) : Array Value := #[.bool x.neg, .string (bs x.whole), .string (bs x.part), .int .i64 x.e]
def Wr.v (x : Wr) : Value := .agg x.cells
def partR (l : List UInt8) : List UInt8 × List UInt8 × Bool :=
  if Lib.hasPrefix l [46] then (aheadL (Lib.trimPrefix l [46]) digL, behL (Lib.trimPrefix l [46]) digL, !(aheadL (Lib.trimPrefix l [46]) digL).isEmpty) else ([], l, true)
def expO (l : List UInt8) : Int × Bool := if l.isEmpty then (0, true) else expR l
def readR (l : List UInt8) : Wr × Bool :=
  (⟨Lib.hasPrefix l [45], aheadL (Lib.trimPrefix l [45]) digL, (partR (behL (Lib.trimPrefix l [45]) digL)).1, (expO (partR (behL (Lib.trimPrefix l [45]) digL)).2.1).1⟩,
    !(aheadL (Lib.trimPrefix l [45]) digL).isEmpty && (partR (behL (Lib.trimPrefix l [45]) digL)).2.2 && (expO (partR (behL (Lib.trimPrefix l [45]) digL)).2.1).2)
end Go.Proofs.YtoncpcdepemlcaaGreatDoor
