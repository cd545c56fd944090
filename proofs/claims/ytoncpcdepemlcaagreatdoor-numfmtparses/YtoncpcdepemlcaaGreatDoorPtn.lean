import Derived.Test.YtoncpcdepemlcaaGreatDoorUtnM
import Derived.Lib.ConvBytes
namespace Go.Proofs.YtoncpcdepemlcaaGreatDoor
set_option maxRecDepth 100000
open Go.RowKit
theorem xor_up:∀c:Fin 256,97≤c.1→c.1<97+26→bits .xor .u8 ((c.1:Nat):Int) 32=turnC 97 224 c.1:=by decide
theorem xor_down:∀c:Fin 256,65≤c.1→c.1<65+26→bits .xor .u8 ((c.1:Nat):Int) 32=turnC 65 32 c.1:=by decide
theorem below_bytes (w:World) (e:TypeId) (s:ByteArray):Below w.heap.size w (Lib.bytesWorld w e s):=⟨rfl,rfl,rfl,by rw[Lib.bytesWorld_size];omega,fun k hk=>Lib.bytesWorld_at_old w e s k hk⟩
def TurnSt (s : ByteArray) (fr by_ B k : Nat) (W : World) : Prop :=
  ∀ j : Nat, j < s.size → W.cell? ⟨B, j, none⟩ = some (.int .u8 (if j < k then turnAt s fr by_ j else byteAt s j)) ∧ W.frozen? ⟨B, j, none⟩ = false
theorem turnSt_start (s:ByteArray) (fr by_:Nat) (w:World):TurnSt s fr by_ w.heap.size 0 (Lib.bytesWorld w 5 s):=by
 intro j hj;refine⟨?_,?_⟩
 ·rw[Lib.bytesWorld_cell w 5 s j hj,if_neg (by omega)];unfold byteAt;rw[dif_pos hj];congr 2;have hj':j<s.data.toList.length:=by simpa using hj
  rw[List.getD_eq_getElem?_getD,List.getElem?_eq_getElem hj'];rfl
 ·have:=Lib.bytesWorld_at_new w 5 s;simp only[World.frozen?,this];simp[Lib.bytesCells];omega
end Go.Proofs.YtoncpcdepemlcaaGreatDoor
