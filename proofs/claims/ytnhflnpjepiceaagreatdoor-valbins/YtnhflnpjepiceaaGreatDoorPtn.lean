import Derived.Test.YtnhflnpjepiceaaGreatDoorUtnM
import Derived.Lib.ConvBytes
namespace Go.Proofs.YtnhflnpjepiceaaGreatDoor
set_option maxRecDepth 100000
set_option maxHeartbeats 2000000
open Go.RowKit
theorem xor_down:∀c:Fin 256,65≤c.1→c.1<65+26→bits .xor .u8 ((c.1:Nat):Int) 32=xD 65 32 c.1:=by decide
theorem below_bytes (w:World) (e:TypeId) (s:ByteArray):Below w.heap.size w (Lib.bytesWorld w e s):=⟨rfl,rfl,rfl,by rw[Lib.bytesWorld_size];omega,fun k hk=>Lib.bytesWorld_at_old w e s k hk⟩
def Xj (s : ByteArray) (fr by_ B k : Nat) (W : World) : Prop :=
  ∀ j : Nat, j < s.size → W.cell? ⟨B, j, none⟩ = some (.int .u8 (if j < k then yW s fr by_ j else yr s j)) ∧ W.frozen? ⟨B, j, none⟩ = false
theorem turnSt_start (s:ByteArray) (fr by_:Nat) (w:World):Xj s fr by_ w.heap.size 0 (Lib.bytesWorld w 5 s):=by
 intro j hj;refine⟨?_,?_⟩
 ·rw[Lib.bytesWorld_cell w 5 s j hj,if_neg (by omega)];unfold yr;rw[dif_pos hj];congr 2;have hj':j<s.data.toList.length:=by simpa using hj
  rw[List.getD_eq_getElem?_getD,List.getElem?_eq_getElem hj'];rfl
 ·have:=Lib.bytesWorld_at_new w 5 s;simp only[World.frozen?,this];simp[Lib.bytesCells];omega
theorem pturned_any (s:ByteArray) (fr by_:Nat) (hx:∀c:Fin 256,fr<=c.1->c.1<fr+26->bits .xor .u8 ((c.1:Nat):Int) 32=xD fr by_ c.1) (hl:s.size<=140737488351232) (w:World):Calls Tryz.prog 101 #[.string s,.int .u8 (fr:Int),.int .u8 ((fr:Int)+25)] w fun e w'=>e=.returned (.string (strOfNums (upto (yW s fr by_) s.size)))/\Below w.heap.size w w':=by
 have hcv:=Lib.run_convert_string_bytes (P:=Tryz.prog) w 9 82 5 s Tryz.underlying9 Tryz.underlying82 Tryz.underlying5;have H0:Hid _:=turnSt_start s fr by_ w;have HB0:Hid _:=below_bytes w 5 s;obtain⟨cap,hcap⟩:∃c,grownCap w s.size 0 5=c:=⟨_,rfl⟩;obtain⟨W,hW⟩:∃ W,Lib.bytesWorld w 5 s=W:=⟨_,rfl⟩;rw[hcap,hW] at hcv;rw[hW] at H0 HB0;clear hcap hW;go_enter Tryz.func101,Tryz.ntmps101;go_wp2_with fail;go_loopw [14] (fun v14 wr=>∃k:Nat,k<=s.size/\v14=.int .i64 (k:Int)/\Hid (Xj s fr by_ w.heap.size k wr)/\Hid (Below w.heap.size w wr)) (fun v14 _=>s.size-(intOf v14).toNat)
 case atStart=>exact⟨0,by omega,rfl,H0,HB0⟩
 case round =>
  clear H0 HB0 hcv;obtain⟨k,hk,rfl,HT,HB⟩:=hrel;by_cases hlt:k<s.size
  ·have hcell:=(HT.out k hlt).1;have hfz:=(HT.out k hlt).2;rw[if_neg (by omega)] at hcell;have ht:yr s k=((s[k]'hlt).toNat:Int):=dif_pos hlt;have hta:yW s fr by_ k=xD fr by_ (s[k]'hlt).toNat:=dif_pos hlt;have hc256:(s[k]'hlt).toNat<256:=(s[k]'hlt).toNat_lt;obtain⟨c,hc⟩:∃c,(s[k]'hlt).toNat=c:=⟨_,rfl⟩;rw[ht,hc] at hcell;rw[hc] at hc256 hta;clear ht;have HS:Hid (Xj s fr by_ w.heap.size (k+1) (wr.setCell ⟨w.heap.size,k,none⟩ (.int .u8 (xD fr by_ c)))):=by
    intro j hj;obtain⟨h1,h2⟩:=HT.out j hj;refine⟨?_,by rw[World.frozen?_setCell];exact h2⟩;by_cases hjk:j=k
    ·subst hjk;rw[World.cell?_setCell_same _ _ _ hcell,if_pos (by omega),hta]
    ·rw[World.cell?_setCell_other _ _ _ _ (fun e=>hjk (congrArg Addr.off e).symm),h1];congr 2;by_cases hj2:j<k
     ·rw[if_pos hj2,if_pos (by omega)]
     ·rw[if_neg hj2,if_neg (by omega)]
   have HN:xD fr by_ c=(c:Int)->Hid (Xj s fr by_ w.heap.size (k+1) wr):=by
    intro hcc j hj;obtain⟨h1,h2⟩:=HT.out j hj;refine⟨?_,h2⟩;rw[h1];congr 2;by_cases hj2:j<k
    ·rw[if_pos hj2,if_pos (by omega)]
    ·rw[if_neg hj2];by_cases hjk:j=k
     ·subst hjk;rw[if_pos (by omega),hta,hcc];unfold yr;rw[dif_pos hj,hc]
     ·rw[if_neg (by omega)]
   have HB2:Hid (Below w.heap.size w (wr.setCell ⟨w.heap.size,k,none⟩ (.int .u8 (xD fr by_ c)))):=HB.out.setCell (p:=⟨w.heap.size,k,none⟩) (Nat.le_refl _) _;by_cases a1:fr<=c
   ·by_cases a2:c<fr+26
    ·have t1:(fr:Int)<=c:=by omega
     have t2:(c:Int)<=fr+25:=by omega
     have hxc:bits .xor .u8 (c:Int) 32=xD fr by_ c:=hx ⟨c,hc256⟩ a1 a2;obtain⟨y,hy⟩:∃y,xD fr by_ c=y:=⟨_,rfl⟩;rw[hy] at hxc HS HB2;clear HN hta hy hx;go_wp2;exact⟨⟨k+1,by omega,by simp,HS,HB2⟩,by simp[intOf];omega⟩
    ·have t1:(fr:Int)<=c:=by omega
     have t2:¬ (c:Int)<=fr+25:=by omega
     have e:xD fr by_ c=(c:Int):=by unfold xD;rw[if_neg (fun h=>a2 h.2)]
     have HM:=HN e;clear HN hta HS HB2 e hx;go_wp2;exact⟨⟨k+1,by omega,by simp,HM,HB⟩,by simp[intOf];omega⟩
   ·have t1:¬ (fr:Int)<=c:=by omega
    have e:xD fr by_ c=(c:Int):=by unfold xD;rw[if_neg (fun h=>a1 h.1)]
    have HM:=HN e;clear HN hta HS HB2 e hx;go_wp2;exact⟨⟨k+1,by omega,by simp,HM,HB⟩,by simp[intOf];omega⟩
  ·obtain rfl:k=s.size:=by omega
   have hlen:(upto (yW s fr by_) s.size).length=s.size:=by simp[upto]
   have hb:Yi (fun _=>True) wr (.slice (some ⟨w.heap.size,0,none⟩) s.size cap) (upto (yW s fr by_) s.size):=by refine .inr ⟨w.heap.size,0,cap,by rw[hlen],trivial,fun j hj => ?_⟩;rw[hlen] at hj;rw[Nat.zero_add,(HT.out j hj).1,if_pos hj];simp[upto,hj]
   have hcv:=jS _ _ _ _ hb;clear hb HT;go_wp2;go_ret;exact⟨rfl,HB.out⟩
theorem plower_any (s:ByteArray) (hl:s.size<=140737488351232) (w:World):Calls Tryz.prog 78 #[.string s] w fun e w'=>e=.returned (.string (strOfNums (upto (yW s 65 32) s.size)))/\Below w.heap.size w w':=by
 have H:Hid _:=pturned_any s 65 32 xor_down hl w;go_enter Tryz.func78,Tryz.ntmps78;go_wp2_with fail;refine Calls.mono H.out ?_;rintro e w1 ⟨rfl,hb⟩;clear H;go_wp2;go_ret;exact⟨rfl,hb⟩
end Go.Proofs.YtnhflnpjepiceaaGreatDoor
