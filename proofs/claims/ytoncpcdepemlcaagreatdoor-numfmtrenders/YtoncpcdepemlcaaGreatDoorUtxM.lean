import Derived.Test.YtoncpcdepemlcaaGreatDoorTabM
import Derived.Test.YtoncpcdepemlcaaGreatDoorUtnM
namespace Go.Proofs.YtoncpcdepemlcaaGreatDoor
open Go.RowKit
theorem wrV_list (m:Int):(wrV m).toList=((wrN (chrZ m)).map Int.ofNat).map (Value.int .u8):=by
 unfold wrV;simp
theorem wrV_size (m:Int):(wrV m).size=(wrN (chrZ m)).length:=by unfold wrV;simp
def natsOf (s : ByteArray) : List Nat := s.data.toList.map UInt8.toNat
def strV : Value → ByteArray
  | .string s => s
  | _ => ByteArray.empty
theorem natsOf_len (s:ByteArray):(natsOf s).length=s.size:=by
 unfold natsOf;rw[List.length_map,Array.length_toList];rfl
def FirstSays : Prop := ∀ (s : ByteArray) (w : World), 0 < s.size → s.size ≤ 140737488351232 → Calls Tryz.prog 121 #[.string s] w fun e w' =>
  e = .returned (.tuple #[.int .i64 ((decL (natsOf s)).1 : Nat), .int .i64 ((decL (natsOf s)).2 : Nat), .bool (decide (decL (natsOf s) ≠ (65533, 1)))]) ∧ Below w.heap.size w w'
theorem dec_le {l:List Nat} (hn:l≠[]):(decL l).2<=l.length:=by
 have:=dec_eq hn;unfold decL Go.Lib.decodeN;repeat' split
 all_goals simp only
 all_goals omega
theorem natsOf_drop (s:ByteArray) (n:Nat):natsOf (s.extract n s.size)=(natsOf s).drop n:=by
 have hl:=natsOf_len s;unfold natsOf at hl ⊢;rw[ByteArray.data_extract,Array.toList_extract,List.extract_eq_take_drop];simp only[List.map_take,List.map_drop];rw[List.take_of_length_le];rw[List.length_drop];omega
end Go.Proofs.YtoncpcdepemlcaaGreatDoor
