import Derived.Test.YtnhflnpjepiceaaGreatDoorPahM
import Derived.Test.YtnhflnpjepiceaaGreatDoorBrt
import Derived.Test.YtnhflnpjepiceaaGreatDoorPdk
import Derived.Lib.SmallJoins
import Derived.OwnWalkIn
import Derived.Shelf.Abstract
import Derived.Shelf.RegionOpen
import Derived.TacticsInMore
import Derived.LoopNIn
import Derived.LoopIn
namespace Go.Proofs.YtnhflnpjepiceaaGreatDoor
set_option maxRecDepth 100000
set_option maxHeartbeats 1000000
open Go.RowKit Go.Shelf
attribute [local go_sem] Oper.semAt_some
def Wr.digs (x : Wr) : List (Int × Nat) := xz (x.whole ++ x.part) (x.e + x.whole.length)
def encP (x : Int × Nat) : Array Value := #[.int .i64 x.1, .int .u64 (x.2 : Int)]
theorem dgs_zero {l:List UInt8} {k:Nat} {p:Int} (h:k<(bs l).size) (hc:(bs l)[k]=48):xz (l.drop k) p=xz (l.drop (k+1)) (p-1):=by
 rw[Y0 l k h,hc];simp[xz]
theorem dgs_more {l:List UInt8} {k:Nat} {p:Int} (h:k<(bs l).size) (hc:(bs l)[k]≠48):xz (l.drop k) p=(p-1,(bs l)[k].toNat-48)::xz (l.drop (k+1)) (p-1):=by
 rw[Y0 l k h];simp[xz,hc]
theorem bs_join (a b:List UInt8):bs a++bs b=bs (a++b):=YO (by rw[Go.Joins.data_append];rfl)
theorem pdigits_in (n:Nat) (hn:3<=n) (DB:Nat) (x:Wr) (he : -1000<=x.e/\x.e<=1000) (hlen:x.whole.length+x.part.length<=300) (hdig:∀b ∈ x.whole++x.part,48<=b.toNat/\b.toNat<=57) (w:World) (hDB:Row w DB 97 x.cells):SeqBrk Fence.wide n Tryz.prog 144 #[.pointer (some ⟨DB,0,none⟩)] encP (fun _ _=>True) (fun pre y=>(∃rest,x.digs=pre++y::rest) /\ -3000<=y.1/\y.1<=3000/\y.2<10) (fun xs=>xs=x.digs) w:=by
 intro l J Jx W hW hJ hY h0;have hR0:Row W DB 97 x.cells:=hDB.below hW hDB.lt;have HD:Hid (x.digs=[]++xz ((x.whole++x.part).drop 0) (x.e+x.whole.length)):=rfl;obtain⟨ng,wh,pt,e⟩:=x;unfold Wr.cells at hR0;simp only at hR0 he hlen hdig HD;obtain⟨c0,c1,c2,c3⟩:=hR0.fourR;have s1:=zG wh;have hsum:(bs (wh++pt)).size=wh.length+pt.length:=by rw[zG];simp
 have hjoin:=bs_join wh pt;obtain⟨p,hp⟩:∃p:Int,e+(wh.length:Int)=p:=⟨_,rfl⟩;have hp2:e+((bs wh).size:Int)=p:=by rw[s1];exact hp
 rw[hp] at HD;have hpb : -1000<=p/\p<=1300:=by omega
 have hsz:(bs (wh++pt)).size<=300:=by omega
 have HDg:Hid (∀b ∈ wh++pt,48<=b.toNat/\b.toNat<=57):=hdig;have HDS:Hid ((⟨ng,wh,pt,e⟩:Wr).digs=(⟨ng,wh,pt,e⟩:Wr).digs):=rfl;generalize (⟨ng,wh,pt,e⟩:Wr).digs=DG at *;have k1:(bs wh).size<=300:=by omega
 have k2:(bs pt).size<=300:=by rw[zG];omega
 clear HDS hdig hlen hsum;generalize hall:wh++pt=all at *;clear hall;refine callsIn_of_wp Tryz.func144 rfl trivial ?_ rfl;simp only[Tryz.ntmps144,List.size_toArray,List.length_cons,List.length_nil,Nat.reduceAdd,Nat.reduceSub,Array.replicate_succ,Array.replicate_zero,List.push_toArray,List.append_toArray,List.nil_append,List.cons_append];gi_wp2;clear c0 c1 c2 c3 hp hp2 hjoin k1 k2 s1;gi_loopw [4,5,19] (fun v4 v5 v19 wr=>∃(k:Nat) (q:Int) (pre:List (Int × Nat)),k<=(bs all).size/\v4=.int .i64 q/\v19=.int .i64 (k:Int)/\v5=v5/\Hid (q=p-(k:Int))/\Hid (DG=pre++xz (all.drop k) q)/\J pre wr) (fun _ _ v19 _=>(bs all).size-(intOf v19).toNat)
 case atStart=>exact⟨0,p,[],Nat.zero_le _,rfl,rfl,rfl,by show _=_;simp,HD,h0⟩
 case round =>
  obtain⟨k,q,pre,hk,rfl,rfl,_,HQ,HP,hJs⟩:=hrel;clear h0 HD;by_cases hlt:k<(bs all).size
  ·have HK:Hid (k<(bs all).size):=hlt;have hlt:=hlt;have hlt2:k<all.length:=by rw[zG] at hlt;exact hlt
   have hdig:=HDg.out all[k] (List.getElem_mem hlt2);obtain⟨c,hc⟩:∃c:Nat,((bs all)[k]'hlt).toNat=c:=⟨_,rfl⟩;have hdc:48<=c/\c<=57:=by have:all[k].toNat=c:=hc;omega
   have hq : -2000<=q/\q<=2000:=by have:=HQ.out;omega
   have b1 : -2000<=q:=hq.1;have b2:q<=2000:=hq.2;have b3:(k:Int)<300:=by omega
   by_cases h48:c=48
   ·have e48:((bs all)[k]'hlt)=48:=UInt8.toNat_inj.1 (by rw[hc,h48];rfl);have HN:Hid (DG=pre++xz (all.drop (k+1)) (q-1)):=by show _=_;rw[HP.out,dgs_zero hlt e48]
    have HQ2:Hid (q-1=p-((k+1:Nat):Int)):=by show _=_;have:=HQ.out;omega
    have g48:((c:Int) != 48)=false:=by rw[h48];rfl
    clear e48 HP hdig hlt2 hdc h48 hY hq;gi_wp2;refine⟨(fun f h=>by cases h),?_⟩;gi_wp2;go_roundw
    case rel=>exact⟨k+1,q-1,pre,HK.out,by go_num,by go_num,trivial,HQ2,HN,hJs⟩
    case measure=>have:=HK.out;simp[intOf];omega
   ·have e48:((bs all)[k]'hlt)≠48:=fun e=>h48 (by rw[<-hc,e];rfl);have HN:Hid (DG=(pre++[(q-1,c-48)])++xz (all.drop (k+1)) (q-1)):=by show _=_;rw[HP.out,dgs_more hlt e48,hc];simp
    have HQ2:Hid (q-1=p-((k+1:Nat):Int)):=by show _=_;have:=HQ.out;omega
    have g48:((c:Int) != 48)=true:=by simp;omega
    obtain⟨y,hy0⟩:∃y:Nat,c-48=y:=⟨_,rfl⟩;rw[hy0] at HN;obtain⟨fn,tmps,assign,body,hy,hR⟩:=hY pre (q-1,y) wr hJs ⟨⟨xz (all.drop (k+1)) (q-1),by rw[HN.out];simp⟩,by simp only;omega,by simp only;omega,by simp only;omega⟩;simp only[encP] at hy;have hc8:IntKind.u8.wrap ((c:Int)-48)=(y:Int):=by simp[IntKind.wrap,IntKind.bits,IntKind.signed];omega
    have hcy:(c:Int)-48=(y:Int):=by omega
    have by1:(y:Int)<10:=by omega
    clear e48 HP hdig hlt2 hdc h48 hY hq hy0;gi_wp2;refine⟨fun _=>by omega,hR.mono ?_⟩;rintro e W3 (⟨rfl,hJ3,hk3⟩|⟨rfl,hJ3⟩)
    ·gi_wp2;go_roundw
     case rel=>exact⟨k+1,q-1,_,HK.out,by go_num,by go_num,trivial,HQ2,HN,hJ3⟩
     case measure=>have:=HK.out;simp[intOf];omega
    ·gi_wp2;exact bodyPost_ret (results_none rfl _ _ _) rfl ⟨⟨_,rfl⟩,.inr hJ3⟩
  ·obtain rfl:k=(bs all).size:=by omega
   have HE:Hid (pre=DG):=by show _=_;rw[HP.out,List.drop_eq_nil_of_le (by rw[zG];omega)];simp[xz]
   clear hY;gi_wp2;go_end0;exact⟨⟨_,rfl⟩,.inl (HE.out ▸ hJs)⟩
end Go.Proofs.YtnhflnpjepiceaaGreatDoor
