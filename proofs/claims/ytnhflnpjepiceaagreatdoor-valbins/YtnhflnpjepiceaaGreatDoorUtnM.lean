import Derived.Test.YtnhflnpjepiceaaGreatDoorUwrM
import Derived.Maps.AppendAt
import Derived.SliceStrings
namespace Go.Proofs.YtnhflnpjepiceaaGreatDoor
set_option maxRecDepth 100000
set_option maxHeartbeats 2000000
open Go.RowKit
def xD (fr by_ c : Nat) : Int := if fr ≤ c ∧ c < fr + 26 then ((c : Int) + by_) % 256 else (c : Int)
def yW (s : ByteArray) (fr by_ : Nat) (j : Nat) : Int := if h : j < s.size then xD fr by_ (s[j]'h).toNat else 0
theorem upto_turn (s:ByteArray) (fr by_ k:Nat):upto (yW s fr by_) (k+1)=upto (yW s fr by_) k++[yW s fr by_ k]:=upto_succ _ _
theorem jS (S:Nat->Prop) (w:World) (sv:Value) (zs:List Int) (h:Yi S w sv zs):(convert 82 9 sv).run Tryz.prog w=.ok (.string (strOfNums zs)) w:=by
 rcases h with ⟨rfl,a,cap,rfl⟩|⟨b,off,cap,rfl,_,hc⟩
 ·cases a with
  | none =>
   rw[run_convert_bytes_nil w 82 5 Tryz.underlying82 Tryz.underlying5 _ _ 9 Tryz.underlying9];rfl
  | some A =>
   rw[run_convert_bytes_string w 82 9 5 _ _ _ Tryz.underlying82 Tryz.underlying5 Tryz.underlying9,run_bytesToString w A 0 cap [] (by simpa using run_loadCells_list (P:=Tryz.prog) w A [] (fun j v hj=>by simp at hj))];rfl
 ·exact run_convert_bytes_arg w 82 5 Tryz.underlying82 Tryz.underlying5 b off zs.length cap zs rfl (fun i hi=>by rw[hc i hi];simp[List.getD]) 9 Tryz.underlying9
theorem refTurned_any (s:ByteArray) (fr by_:Nat) (hfr:fr+26<=255) (hl:s.size<=140737488351232) (w:World):Calls Tryz.prog 102 #[.string s,.int .u8 (fr:Int),.int .u8 (by_:Int)] w fun e w'=>e=.returned (.string (strOfNums (upto (yW s fr by_) s.size)))/\Below w.heap.size w w':=by
 obtain⟨i0,hi0,hz0,hz1,hz2⟩:=info_parts Tryz.info5;go_enter Tryz.func102,Tryz.ntmps102;go_wp2_with fail;go_loopw [7,8] (fun v7 v8 wr=>∃k:Nat,k<=s.size/\v8=.int .i64 (k:Int)/\wr.ownsRow w.heap.size 5 1 v7 k ((upto (yW s fr by_) k).map (Value.int .u8))/\Below w.heap.size w wr) (fun _ v8 _=>s.size-(intOf v8).toNat)
 case atStart=>exact⟨0,by omega,rfl,World.ownsRow_nil _ _ _ _,Below.refl _ _⟩
 case round =>
  obtain⟨k,hk,rfl,hO,hB⟩:=hrel;by_cases hlt:k<s.size
  ·obtain⟨gu,cu,rfl⟩:=zY hO;have hsz:=hB.size;have HF:Hid (∀(o:Obj) (v':Value) (w3:World),w3.ownsRow w.heap.size 5 1 v' (k+1) ((upto (yW s fr by_) k).map (Value.int .u8)++[.int .u8 (yW s fr by_ k)])->(wr.alloc o).grownBy w3 (Value.slice gu k cu).ownBlock->w3.ownsRow w.heap.size 5 1 v' (k+1) ((upto (yW s fr by_) (k+1)).map (Value.int .u8))/\Below w.heap.size w w3):=by intro o v' w3 h1 h2;refine⟨by rw[upto_turn];simpa using h1,(hB.alloc hsz o).grown h2 (by rw[World.size_alloc];omega) (fun r e=>(hO.lt r e).1)⟩
   have ht:yW s fr by_ k=xD fr by_ (s[k]'hlt).toNat:=dif_pos hlt;rw[ht] at HF;clear ht;have hc256:(s[k]'hlt).toNat<256:=(s[k]'hlt).toNat_lt;obtain⟨c,hc⟩:∃c,(s[k]'hlt).toNat=c:=⟨_,rfl⟩;rw[hc] at HF hc256;by_cases a1:fr<=c
   ·by_cases a2:c<fr+26
    ·have t1:(fr:Int)<=c:=by omega
     have t2:(c:Int)<fr+26:=by omega
     have e:xD fr by_ c=((c:Int)+by_) % 256:=by unfold xD;rw[if_pos ⟨a1,a2⟩]
     rw[e] at HF;clear e;go_wp2_with (at_builtin;refine zk _ rfl (.tmp 31) (.tmp 33) 82 rfl w.heap.size 5 i0 (.int .u8 0) 1 1 Tryz.underlying82 hi0 hz0 hz1 hz2 rfl (by decide) _ _ _ rfl (hO.alloc _) ⟨wr.heap.size,0,none⟩ 1 1 [.int .u8 (((c:Int)+by_) % 256)] rfl rfl (cell_one_new _ _ _) (by simp[Value.oneCell']) (by unfold maxLen;omega) (by omega) (by simp;omega) ?_);intro v' w3 hown' hgrow _;have HG:Hid _:=HF.out _ v' w3 hown' hgrow;go_wp2;exact⟨⟨k+1,by omega,by simp,HG.out.1,HG.out.2⟩,by simp[intOf];omega⟩
    ·have t1:(fr:Int)<=c:=by omega
     have t2:¬ (c:Int)<fr+26:=by omega
     have e:xD fr by_ c=(c:Int):=by unfold xD;rw[if_neg (fun h=>a2 h.2)]
     rw[e] at HF;clear e;go_wp2_with (at_builtin;refine zk _ rfl (.tmp 31) (.tmp 33) 82 rfl w.heap.size 5 i0 (.int .u8 0) 1 1 Tryz.underlying82 hi0 hz0 hz1 hz2 rfl (by decide) _ _ _ rfl (hO.alloc _) ⟨wr.heap.size,0,none⟩ 1 1 [.int .u8 ((c:Int))] rfl rfl (cell_one_new _ _ _) (by simp[Value.oneCell']) (by unfold maxLen;omega) (by omega) (by simp;omega) ?_);intro v' w3 hown' hgrow _;have HG:Hid _:=HF.out _ v' w3 hown' hgrow;go_wp2;exact⟨⟨k+1,by omega,by simp,HG.out.1,HG.out.2⟩,by simp[intOf];omega⟩
   ·have t1:¬ (fr:Int)<=c:=by omega
    have e:xD fr by_ c=(c:Int):=by unfold xD;rw[if_neg (fun h=>a1 h.1)]
    rw[e] at HF;clear e;go_wp2_with (at_builtin;refine zk _ rfl (.tmp 31) (.tmp 33) 82 rfl w.heap.size 5 i0 (.int .u8 0) 1 1 Tryz.underlying82 hi0 hz0 hz1 hz2 rfl (by decide) _ _ _ rfl (hO.alloc _) ⟨wr.heap.size,0,none⟩ 1 1 [.int .u8 ((c:Int))] rfl rfl (cell_one_new _ _ _) (by simp[Value.oneCell']) (by unfold maxLen;omega) (by omega) (by simp;omega) ?_);intro v' w3 hown' hgrow _;have HG:Hid _:=HF.out _ v' w3 hown' hgrow;go_wp2;exact⟨⟨k+1,by omega,by simp,HG.out.1,HG.out.2⟩,by simp[intOf];omega⟩
  ·obtain rfl:k=s.size:=by omega
   obtain⟨gu,cu,rfl⟩:=zY hO;have hlen:(upto (yW s fr by_) s.size).length=s.size:=by simp[upto]
   have hb:Yi (fun k=>k<wr.heap.size) wr (.slice gu s.size cu) (upto (yW s fr by_) s.size):=bytesIn_of_owns (base:=w.heap.size) _ (by rw[hlen];exact hO) (fun k h=>(hO.lt k h).2);have hcv:=jS _ _ _ _ hb;have HF:Hid (Below w.heap.size w wr):=hB;clear hb hO hB hlen;go_wp2;go_ret;exact⟨rfl,HF.out⟩
theorem lower_any (s:ByteArray) (hl:s.size<=140737488351232) (w:World):Calls Tryz.prog 83 #[.string s] w fun e w'=>e=.returned (.string (strOfNums (upto (yW s 65 32) s.size)))/\Below w.heap.size w w':=by
 have H:Hid _:=refTurned_any s 65 32 (by omega) hl w;go_enter Tryz.func83,Tryz.ntmps83;go_wp2_with fail;refine Calls.mono H.out ?_;rintro e w1 ⟨rfl,hb⟩;clear H;go_wp2;go_ret;exact⟨rfl,hb⟩
def yr (s : ByteArray) (j : Nat) : Int := if h : j < s.size then ((s[j]'h).toNat : Int) else 0
end Go.Proofs.YtnhflnpjepiceaaGreatDoor
