import Derived.Test.YtnhflnpjepiceaaGreatDoorTabM
import Derived.Test.YtnhflnpjepiceaaGreatDoorUtnM
namespace Go.Proofs.YtnhflnpjepiceaaGreatDoor
open Go.RowKit
theorem wrV_list (m:Int):(wrV m).toList=((wrN (kR m)).map Int.ofNat).map (Value.int .u8):=by
 unfold wrV;simp
theorem wrV_size (m:Int):(wrV m).size=(wrN (kR m)).length:=by unfold wrV;simp
def zc (s : ByteArray) : List Nat := s.data.toList.map UInt8.toNat
def Yu : Value → ByteArray
  | .string s => s
  | _ => ByteArray.empty
theorem ym (s:ByteArray):(zc s).length=s.size:=by
 unfold zc;rw[List.length_map,Array.length_toList];rfl
def FirstSays : Prop := ∀ (s : ByteArray) (w : World), 0 < s.size → s.size ≤ 140737488351232 → Calls Tryz.prog 130 #[.string s] w fun e w' =>
  e = .returned (.tuple #[.int .i64 ((zO (zc s)).1 : Nat), .int .i64 ((zO (zc s)).2 : Nat), .bool (decide (zO (zc s) ≠ (65533, 1)))]) ∧ Below w.heap.size w w'
theorem dec_le {l:List Nat} (hn:l≠[]):(zO l).2<=l.length:=by
 have:=Xf hn;unfold zO Go.Lib.decodeN;repeat' split
 all_goals simp only
 all_goals omega
theorem natsOf_drop (s:ByteArray) (n:Nat):zc (s.extract n s.size)=(zc s).drop n:=by
 have hl:=ym s;unfold zc at hl ⊢;rw[ByteArray.data_extract,Array.toList_extract,List.extract_eq_take_drop];simp only[List.map_take,List.map_drop];rw[List.take_of_length_le];rw[List.length_drop];omega
end Go.Proofs.YtnhflnpjepiceaaGreatDoor
