import Derived.Test.YtoncpcdepemlcaaGreatDoorWfu
import Derived.Test.YtoncpcdepemlcaaGreatDoorPdk
import Derived.Test.YtoncpcdepemlcaaGreatDoorWbsM
import Derived.Test.YtoncpcdepemlcaaGreatDoorCox
import Derived.Test.YtoncpcdepemlcaaGreatDoorWprM
namespace Go.Proofs.YtoncpcdepemlcaaGreatDoor
set_option maxRecDepth 100000
set_option maxHeartbeats 4000000
open Go.RowKit Go.Shelf
attribute [local go_sem] Oper.semAt_some
def Pl : Int → List UInt8 → List (Int × Int)
  | _, [] => []
  | t, a :: r => (t, (a.toNat : Int)) :: Pl (t - 1) r
theorem Pl_get : ∀ (l : List UInt8) (t : Int) (k : Nat) (h : k < l.length), (Pl t l)[k]? = some (t - (k : Int), (l[k].toNat : Int))
  | [], _, k, h => by simp at h
  | a :: r, t, 0, _ => by simp [Pl]
  | a :: r, t, k + 1, h => by
    have := Pl_get r (t - 1) k (by simpa using h)
    simp only [Pl, List.getElem?_cons_succ, this, List.getElem_cons_succ]
    congr 2
    omega
theorem Pl_length : ∀ (l : List UInt8) (t : Int), (Pl t l).length = l.length
  | [], _ => rfl
  | _ :: r, t => by simp [Pl, Pl_length r]
theorem Pl_snoc (l:List UInt8) (t:Int) (k:Nat) (h:k<l.length):(Pl t l).take (k+1)=(Pl t l).take k++[(t-(k:Int),(l[k].toNat:Int))]:=by
 rw[List.take_add_one,Pl_get l t k h];rfl
def encW (x : Int × Int) : Array Value := #[.int .i64 x.1, .int .u8 x.2]
def boxW (y : Wd) : Array Value := #[.bool y.neg, .int .u64 0, .int .u64 (y.n : Int), .int .i64 y.e]
def digsW (y : Wd) : List (Int × Int) := Pl (topP y.n y.e) (dlist y.n y.e)
theorem wdigits_in (n:Nat) (hn:3<=n) (DB:Nat) (y:Wd) (hb:y.n<=9223372036854775808) (he : -18<=y.e/\y.e<=18) (w:World) (hDB:Row w DB 125 (boxW y)) (htab:PTab w):SeqOwn Fence.wide n Tryz.prog 123 #[.pointer (some ⟨DB,0,none⟩)] encW (fun _=>False) (fun k=>k=DB) (fun pre x=>∃k,k<(digsW y).length/\pre=(digsW y).take k/\(digsW y)[k]? = some x) (fun xs=>xs=digsW y) w:=by
 intro l J W hW hJ hO hY ⟨own0,h0⟩;have hR0:Row W DB 125 (boxW y):=hDB.below hW hDB.lt;have hfm:=fmt_any y.n (by omega) W (htab.below hW);obtain⟨ng,m,e⟩:=y;unfold boxW at hR0;simp only at hR0 hb he hfm;have hd1:=dec_len m (by omega);have hat:=fun j hj=>dlist_at m e j hj hd1.1;have hln:=dlist_len m e hd1.1;obtain⟨t1,t2⟩:=topP_spec m e;simp only[digsW] at hY ⊢;generalize topP m e=t at *;generalize dlist m e=dl at *;generalize Lib.decDigits m=D at *;have hsz:(bs D).size=D.length:=bs_size D;obtain⟨f,hf⟩:∃f:Int,e+((bs D).size:Int)-1=f:=⟨_,rfl⟩;have hf2:e+(D.length:Int)-1=f:=by rw[<-hsz];exact hf
 have hL1:(1:Int)<=((bs D).size:Int):=by omega
 have hL2:((bs D).size:Int)<=20:=by omega
 have HAT:Hid (∀(j:Nat) (hj:j<dl.length),dl[j]=if t-(j:Int)<=f/\e<=t-(j:Int) then D.getD (f-(t-(j:Int))).toNat 48 else 48):=by intro j hj;rw[hat j hj,hf2]
 have HT:Hid ((f<0->t=0)/\(0<=f->t=f)):=by rw[hf2] at t1 t2;exact⟨t1,t2⟩
 obtain⟨mn,hmn⟩:∃mn:Int,(if e<0 then e else 0)=mn:=⟨_,rfl⟩;rw[hmn] at hln;have HLN:Hid ((dl.length:Int)=t-mn+1):=hln;have HMN:Hid ((e<0->mn=e)/\(0<=e->mn=0)):=by rw[<-hmn];exact⟨fun h=>if_pos h,fun h=>if_neg (by omega)⟩
 have b1 : -18<=e:=he.1;have b2:e<=18:=he.2;have b3 : -18<=f:=by omega
 have b4:f<=37:=by omega
 have HSZ:Hid ((bs D).size=D.length):=hsz;have HF:Hid (e+((bs D).size:Int)-1=f):=hf;clear t1 t2 hat hln hmn he hd1 hf2 hDB hsz;obtain⟨c0,c1,c2,c3⟩:=Row.four hR0;refine callsIn_of_wp Tryz.func123 rfl trivial ?_ rfl;simp only[Tryz.ntmps123,List.size_toArray,List.length_cons,List.length_nil,Nat.reduceAdd,Nat.reduceSub,Array.replicate_succ,Array.replicate_zero,List.push_toArray,List.append_toArray,List.nil_append,List.cons_append];gi_wp2_with fail;refine⟨trivial,fun _=>by omega,(callsIn_wide.2 hfm).mono ?_⟩;rintro _ w1 ⟨rfl,hB1⟩;have hR1:=hR0.below hB1 hR0.lt;have hJ1:=hJ _ _ _ w1 h0 (Kept.of_below hB1 (fun k hk=>hk.1));clear hfm hB1 hR0 c0 c1 c2 c3 h0 hW htab hb;obtain⟨c0,c1,c2,c3⟩:=Row.four hR1;have hfe:e<=f:=by have:=HF.out;omega
 gi_wp2;clear hf;gi_loopw [5] (fun v wr=>∃(k:Nat) (q:Int),k<=dl.length/\v=.int .i64 q/\Hid (q=t-(k:Int))/\∃own,J ((Pl t dl).take k) own wr/\Row wr DB 125 #[.bool ng,.int .u64 0,.int .u64 (m:Int),.int .i64 e]) (fun v _=>((intOf v)+20).toNat)
 case atStart=>exact⟨0,t,Nat.zero_le _,by have:=HT.out;congr 1;omega,by show t=_;simp,own0,by simpa using hJ1,hR1⟩
 case round =>
  obtain⟨k,q,hk,rfl,HQ,own,hJs,hRw⟩:=hrel;clear c0 c1 c2 c3 hR1 hJ1;obtain⟨c0,c1,c2,c3⟩:=Row.four hRw;have hq0:=HQ.out;have hl0:=HLN.out;have hm0:=HMN.out;have ht0:=HT.out;have b5 : -19<=q:=by omega
  have b6:q<=37:=by omega
  have HQ2:Hid (q-1=t-((k+1:Nat):Int)):=by show _=_;omega
  by_cases hlt:k<dl.length
  ·have g9:min e 0<=q:=by omega
   by_cases hA:q<=f/\e<=q
   ·have hi2:(f-q).toNat<(bs D).size:=by have:=HF.out;omega
    have HDIG:Hid ((dl[k].toNat:Int)=(((bs D)[(f-q).toNat]'hi2).toNat:Int)):=by show (dl[k].toNat:Int)=_;rw[HAT.out k hlt,if_pos (by omega),show (f-(t-(k:Int))).toNat=(f-q).toNat by omega,List.getD_eq_getElem?_getD,List.getElem?_eq_getElem (by rw[HSZ.out] at hi2;exact hi2)];rfl
    obtain⟨g1,g2⟩:=hA;have g3:(0:Int)<=f-q:=by omega
    have g4:f-q<((bs D).size:Int):=by have:=HF.out;omega
    have HSN:Hid ((Pl t dl).take (k+1)=(Pl t dl).take k++[(q,(((bs D)[(f-q).toNat]'hi2).toNat:Int))]):=by show _=_;rw[Pl_snoc dl t k hlt,HDIG.out,<-HQ.out]
    obtain⟨fn,tmps,assign,body,hy,hR⟩:=hY _ (q,(((bs D)[(f-q).toNat]'hi2).toNat:Int)) own wr hJs ⟨k,by rw[Pl_length];exact hlt,rfl,by rw[Pl_get dl t k hlt,HDIG.out,<-HQ.out]⟩;simp only[encW] at hy;clear hY hq0 hl0 hm0 ht0;gi_wp2;refine⟨fun _=>by omega,hR.mono ?_⟩;rintro _ W3 ⟨rfl,⟨own',hJ3⟩,hk3⟩;have hB3:=hRw.kept hk3 ⟨hRw.lt,fun ho=>(hO _ _ _ _ hJs ho).2 rfl⟩;have HJ3:Hid (J ((Pl t dl).take (k+1)) own' W3):=by show J _ _ _;rw[HSN.out];exact hJ3
    clear hJ3 hR hy;gi_wp2;go_roundw
    case rel=>exact⟨k+1,q-1,hlt,by go_num,HQ2,own',HJ3.out,hB3⟩
    case measure=>simp[intOf];omega
   ·by_cases hB:¬ q<=f
    ·have HDIG:Hid ((dl[k].toNat:Int)=48):=by show (dl[k].toNat:Int)=48;rw[HAT.out k hlt,if_neg (by omega)];rfl
     have g1:decide (q<=f)=false:=decide_eq_false hB;clear hA;have HSN:Hid ((Pl t dl).take (k+1)=(Pl t dl).take k++[(q,48)]):=by show _=_;rw[Pl_snoc dl t k hlt,HDIG.out,<-HQ.out]
     obtain⟨fn,tmps,assign,body,hy,hR⟩:=hY _ (q,48) own wr hJs ⟨k,by rw[Pl_length];exact hlt,rfl,by rw[Pl_get dl t k hlt,HDIG.out,<-HQ.out]⟩;simp only[encW] at hy;clear hY hq0 hl0 hm0 ht0;gi_wp2;refine⟨fun _=>by omega,hR.mono ?_⟩;rintro _ W3 ⟨rfl,⟨own',hJ3⟩,hk3⟩;have hB3:=hRw.kept hk3 ⟨hRw.lt,fun ho=>(hO _ _ _ _ hJs ho).2 rfl⟩;have HJ3:Hid (J ((Pl t dl).take (k+1)) own' W3):=by show J _ _ _;rw[HSN.out];exact hJ3
     clear hJ3 hR hy;gi_wp2;go_roundw
     case rel=>exact⟨k+1,q-1,hlt,by go_num,HQ2,own',HJ3.out,hB3⟩
     case measure=>simp[intOf];omega
    ·have HDIG:Hid ((dl[k].toNat:Int)=48):=by show (dl[k].toNat:Int)=48;rw[HAT.out k hlt,if_neg (by omega)];rfl
     have g1:q<=f:=by omega
     have g2:decide (e<=q)=false:=decide_eq_false (by omega);clear hA hB;have HSN:Hid ((Pl t dl).take (k+1)=(Pl t dl).take k++[(q,48)]):=by show _=_;rw[Pl_snoc dl t k hlt,HDIG.out,<-HQ.out]
     obtain⟨fn,tmps,assign,body,hy,hR⟩:=hY _ (q,48) own wr hJs ⟨k,by rw[Pl_length];exact hlt,rfl,by rw[Pl_get dl t k hlt,HDIG.out,<-HQ.out]⟩;simp only[encW] at hy;clear hY hq0 hl0 hm0 ht0;gi_wp2;refine⟨fun _=>by omega,hR.mono ?_⟩;rintro _ W3 ⟨rfl,⟨own',hJ3⟩,hk3⟩;have hB3:=hRw.kept hk3 ⟨hRw.lt,fun ho=>(hO _ _ _ _ hJs ho).2 rfl⟩;have HJ3:Hid (J ((Pl t dl).take (k+1)) own' W3):=by show J _ _ _;rw[HSN.out];exact hJ3
     clear hJ3 hR hy;gi_wp2;go_roundw
     case rel=>exact⟨k+1,q-1,hlt,by go_num,HQ2,own',HJ3.out,hB3⟩
     case measure=>simp[intOf];omega
  ·have HE:Hid ((Pl t dl).take k=Pl t dl):=by show _=_;rw[List.take_of_length_le (by rw[Pl_length];omega)]
   have g1:decide (min e 0<=q)=false:=decide_eq_false (by omega);have HJ3:Hid (J (Pl t dl) own wr):=by show J _ _ _;rw[<-HE.out];exact hJs
   clear hY hq0 hl0 hm0 ht0;gi_wp2;go_end0;exact⟨⟨_,rfl⟩,_,own,rfl,HJ3.out⟩
end Go.Proofs.YtoncpcdepemlcaaGreatDoor
namespace Go.Proofs.YtoncpcdepemlcaaGreatDoor
set_option maxRecDepth 100000
set_option maxHeartbeats 4000000
open Go.RowKit Go.Shelf
attribute [local go_sem] Oper.semAt_some
theorem outB_snoc (pre:List (Int × Int)) (x:Int × Int):outB (pre++[x])=outB pre++((if x.1 = -1 then [46] else [])++[x.2]):=by
 induction pre with
 | nil=>simp[outB]
 | cons a r ih=>simp only[List.cons_append,outB,ih,List.append_assoc]
theorem outB_len (pre:List (Int × Int)):(outB pre).length<=2*pre.length:=by
 induction pre with
 | nil=>simp[outB]
 | cons a r ih =>
  simp only[outB,List.length_append,List.length_cons,List.length_nil];split<;>simp<;>omega
theorem outB_ge (pre:List (Int × Int)):pre.length<=(outB pre).length:=by
 induction pre with
 | nil=>simp[outB]
 | cons a r ih =>
  simp only[outB,List.length_append,List.length_cons,List.length_nil];split<;>simp<;>omega
def PrW (N O DB : Nat) (BX : Array Value) (s0 : List Int) (w0 : World) (pre : List (Int × Int)) (own : Nat → Prop) (V : World) : Prop :=
  ∃ v, Below N w0 V ∧ Row V O 63 #[v] ∧ Row V DB 125 BX ∧ V.ownsRow N 5 1 v (s0 ++ outB pre).length ((s0 ++ outB pre).map (Value.int .u8)) ∧ own = fun k => k = O ∨ v.ownBlock = some k
theorem digsW_len (y:Wd) (h:y.n<=9223372036854775808) (he : -18<=y.e/\y.e<=18):1<=(digsW y).length/\(digsW y).length<=60:=by
 unfold digsW;rw[Pl_length];have h1:=dec_len y.n (by omega);have h2:=dlist_len y.n y.e h1.1;obtain⟨t1,t2⟩:=topP_spec y.n y.e;split at h2<;>omega
theorem box_dec (y:Wd) (h:y.n<=9223372036854775808):y.cells=boxW y:=by
 unfold Wd.cells boxW;rw[show y.n / 18446744073709551616=0 by omega,show y.n % 18446744073709551616=y.n by omega];rfl
theorem digitsW_call (n:Nat) (y:Wd) (w:World):CallsIn Fence.wide n Tryz.prog 104 #[.agg #[.bool y.neg,.int .u64 0,.int .u64 (y.n:Int),.int .i64 y.e]] w fun e w'=>e=.returned (.func (.func 123) #[] #[.pointer (some ⟨w.heap.size,0,none⟩)])/\w'=w.alloc (.cells (boxW y) 125):=by
 refine callsIn_wide.2 ?_;unfold boxW;go_enter Tryz.func104,Tryz.ntmps104;go_wp2;go_ret;exact⟨rfl,rfl⟩
theorem print_pos (c e:Int) (hc:I64 c) (he:within e) (hng:(decW c e).neg=false) (w:World) (htab:PTab w) (SS:ByteArray) (HSS:Hid (strOfNums (outB (digsW (decW c e)))=SS)):CallsIn Fence.wide 8 Tryz.prog 77 #[dv c e] w fun r w'=>r=.returned (.string SS)/\Below w.heap.size w w':=by
 unfold dv;have hS:=sh_dec c e he.1 he.2 hc.1 hc.2;refine callsIn_of_wp_marks Tryz.func77 rfl trivial ?_ rfl;simp only[Tryz.ntmps77,List.size_toArray,List.length_cons,List.length_nil,Nat.reduceAdd,Nat.reduceSub,Array.replicate_succ,Array.replicate_zero,List.push_toArray,List.append_toArray,List.nil_append,List.cons_append];gi_wp2_with fail;have hK:=Row.new1 w (.cells #[.int .i64 c,.int .i64 e] 38) 38 #[.int .i64 c,.int .i64 e];refine⟨trivial,(callsIn_wide.2 (taken1 c e _ _ hc he hK)).mono ?_⟩;rintro _ w1 ⟨h1,G,hG,rfl,hR⟩;have hB1:=(((Below.refl _ w).alloc (Nat.le_refl _) (.cells #[.int .i64 c,.int .i64 e] 38)).alloc (by simp) (.cells #[.int .i64 c,.int .i64 e] 38)).trans (h1.mono (by simp;omega));generalize decW c e=y at *;rw[box_dec y hS.big] at hR;obtain⟨ng,m,ex⟩:=y;simp only at hng;subst hng;have hGl:=hR.lt;obtain⟨c0,c1,c2,c3⟩:=Row.four (show Row w1 G 125 #[.bool false,.int .u64 0,.int .u64 (m:Int),.int .i64 ex] from hR);have HDC:=fun W=>digitsW_call 7 ⟨false,m,ex⟩ W;clear h1 hK;gi_wp2_with fail;refine⟨trivial,(HDC _).mono ?_⟩;rintro _ w2 ⟨rfl,hw2⟩;rw[hw2];clear hw2 w2;gi_wp2_with fail;obtain⟨i0,hi,hzz⟩:=Option.map_eq_some_iff.1 Tryz.info5;simp only[Prod.mk.injEq] at hzz;obtain⟨hz0,hz1,hz2⟩:=hzz;have hwl:w.heap.size<=w1.heap.size:=hB1.size;have hRO:Row ((w1.alloc (.cells #[.slice none 0 0] 63)).alloc (.cells (boxW ⟨false,m,ex⟩) 125)) w1.heap.size 63 #[.slice none 0 0]:=(Row.new w1 63 _).alloc _;have hRD:Row ((w1.alloc (.cells #[.slice none 0 0] 63)).alloc (.cells (boxW ⟨false,m,ex⟩) 125)) (w1.heap.size+1) 125 (boxW ⟨false,m,ex⟩):=Row.new1 w1 _ 125 _;have hBW:Below w.heap.size w ((w1.alloc (.cells #[.slice none 0 0] 63)).alloc (.cells (boxW ⟨false,m,ex⟩) 125)):=(hB1.alloc hwl _).alloc (by simp;omega) _;have hWs:((w1.alloc (.cells #[.slice none 0 0] 63)).alloc (.cells (boxW ⟨false,m,ex⟩) 125)).heap.size=w1.heap.size+2:=by simp
 generalize (w1.alloc (.cells #[.slice none 0 0] 63)).alloc (.cells (boxW ⟨false,m,ex⟩) 125)=W0 at hRO hRD hBW hWs ⊢;obtain⟨hneD,hlenD⟩:=digsW_len ⟨false,m,ex⟩ hS.big ⟨hS.lo,hS.hi⟩;have hseq:=wdigits_in 7 (by omega) (w1.heap.size+1) ⟨false,m,ex⟩ hS.big ⟨hS.lo,hS.hi⟩ W0 hRD (htab.below hBW);generalize digsW ⟨false,m,ex⟩=DD at *;generalize hBX:boxW ⟨false,m,ex⟩=BX at *;clear hBX;refine wpIn_range_own rfl (by omega) (gf:=123) (lb:=#[.pointer (some ⟨w1.heap.size+1,0,none⟩)]) rfl trivial (enters_of Tryz.func123 (by kernel_rfl) rfl) hseq (fun k h=>h.elim) (fun _=>rfl) (PrW w.heap.size w1.heap.size (w1.heap.size+1) BX [] w) (fun pre own V V' h hm=>by
  obtain⟨v,h1,h2,hD,h3,h4⟩:=h;refine⟨v,h1.trans ((hm.kept (T:=fun k=>k<w.heap.size) (fun k hk=>⟨by omega,fun h=>h,Nat.lt_of_lt_of_le hk h1.size⟩)).below (fun k hk=>hk)),hm.row h2 (fun h=>h),hm.row hD (fun h=>h),owns_mild h3 hm (fun k _ h=>h),h4⟩) (fun pre own V k h hk=>by
  obtain⟨v,h1,h2,hD,h3,rfl⟩:=h;rcases hk with rfl|hk
  ·exact⟨h2.lt,by omega⟩
  ·exact⟨(h3.lt k hk).2,fun e=>row_ne h3 hD (by decide) (e ▸ hk)⟩) ⟨_,_,hBW,hRO,hRD,World.ownsRow_nil _ _ _ _,rfl⟩ (fun x _=>{ tmps:=#[.agg #[.int .i64 c,.int .i64 e],.pointer (some ⟨w.heap.size,0,none⟩),.string ⟨#[]⟩,.slice (some ⟨G,0,none⟩) 1 1,.int .i64 0,.pointer (some ⟨w1.heap.size,0,none⟩),.int .i64 x.1,.int .u8 x.2,.tuple #[.slice (some ⟨G,0,none⟩) 1 1,.int .i64 0],.agg #[.int .i64 c,.int .i64 e],.slice (some ⟨w.heap.size+1,0,none⟩) 1 1,.tuple #[.slice (some ⟨G,0,none⟩) 1 1,.int .i64 0],.slice (some ⟨G,0,none⟩) 1 1,.int .i64 0,.int .i64 0,.bool false,.slice (some ⟨G,0,none⟩) 1 1,.pointer (some ⟨G,0,none⟩),.pointer (some ⟨G,0,none⟩),.bool false,undef,undef,undef,.slice (some ⟨G,0,none⟩) 1 1,.pointer (some ⟨G,0,none⟩),.agg #[.bool false,.int .u64 0,.int .u64 (m:Int),.int .i64 ex],.func (.func 123) #[] #[.pointer (some ⟨w1.heap.size+1,0,none⟩)],.int .i64 x.1,.int .u8 x.2,undef,undef,undef,undef,undef,undef,undef,undef,undef,undef,undef],defers:=[] }) (fun _ W=>W) (fun _ W=>Kept.refl _ W) ?assign ?body ?done
 case assign => intro l x W K hK;simp only[encW] at hK ⊢;gi_wp2;exact hK
 case body =>
  rintro l pre x own W V hWs' _ hIV _ ⟨k,hk,rfl,hx⟩;obtain⟨v,h1,h2,hD,h3,rfl⟩:=hIV;obtain⟨pl,d⟩:=x;simp only;have hlo:=outB_len (DD.take k);have hbnd:([]++outB (DD.take k)).length<=200:=by
   have:(DD.take k).length<=60:=by rw[List.length_take];omega
   simp only[List.nil_append];omega
  have HN0:Hid (outB (DD.take k++[(pl,d)])=outB (DD.take k)++((if pl = -1 then [46] else [])++[d])):=outB_snoc _ _;have hOl:w1.heap.size<V.heap.size:=h2.lt;clear hlo hx;by_cases hpl:pl = -1
  ·subst hpl;have HN:Hid (([]++outB (DD.take k++[(-1,d)])).length=([]++outB (DD.take k)).length+1+1/\([]++outB (DD.take k++[(-1,d)])).map (Value.int .u8)=([]++outB (DD.take k)).map (Value.int .u8)++[.int .u8 46,.int .u8 d]):=by show (_/\_);rw[HN0.out];simp
   generalize ([]++outB (DD.take k)).length=L0 at *;generalize ([]++outB (DD.take k)).map (Value.int .u8)=Z0 at *;have hown:V.ownsRow w.heap.size 5 1 v L0 Z0:=h3;obtain⟨gu,cu,rfl⟩:=owns_form hown;have cB:=h2.cell (i:=0) (v:=.slice gu L0 cu) rfl;have hne:=row_ne hown h2 (by decide);have hblt:=h2.lt;have hdlt:=hD.lt;have hVs:=h1.size;have HNW1:Hid (∀(j:Nat) (u:Value),([.int .u8 46]:List Value)[j]? = some u->(V.alloc (.cells #[.int .u8 46] 5)).cell? ((⟨V.heap.size,0,none⟩:Addr).add j)=some u):=by intro j u hu;have hR:=Row.new V 5 #[.int .u8 46];have h:=hR.cell (i:=j) (v:=u) (by simpa using hu);rw[Go.WideShapes.add_plain];simpa using h
   have hsz1:w.heap.size<=V.heap.size:=by omega
   gi_wp2_with (gi_at_builtin;refine wpListIn_append_own2 _ rfl (.tmp 31) (.tmp 32) 63 rfl w.heap.size 5 i0 (.int .u8 0) 1 1 Tryz.underlying63 hi hz0 hz1 hz2 rfl (by decide) _ _ _ rfl (hown.alloc _) ⟨V.heap.size,0,none⟩ 1 1 [.int .u8 46] rfl rfl HNW1.out (by simp[Value.oneCell']) (by unfold maxLen;omega) (by omega) (by simp;omega) ?_);intro v1 x1 hown1 hgrow1 hblk1;have hR1:Row x1 w1.heap.size 63 #[.slice gu L0 cu]:=(hgrow1.block _ (by simp;omega) (fun e=>hne e.symm)).trans (h2.alloc _);have hD1:Row x1 (w1.heap.size+1) 125 BX:=(hgrow1.block _ (by simp;omega) (fun e=>(row_ne hown hD (by decide)) e.symm)).trans (hD.alloc _);have hko1:KeepsOthers V x1:=(KeepsOthers.alloc V _).trans (KeepsOthers.of_grownBy hgrow1 (fun j o hj ho=>owns_cells (hown.alloc _) j o hj ho));have hk1:Kept (fun k=>k<V.heap.size/\¬ (k=w1.heap.size\/(Value.slice gu L0 cu).ownBlock=some k)) V x1:=((Kept.refl _ V).alloc (fun k hk=>hk.1) _).grown hgrow1 (fun k hk=>by have:=hk.1;simp;omega) (fun r e hr=>hr.2 (.inr e));obtain⟨g1,k1,rfl⟩:=owns_form hown1;have cB1:=hR1.cell (i:=0) (v:=.slice gu L0 cu) rfl;have fB1:=hR1.frozen 0;have hr1:=hR1.set 0 (.slice g1 (L0+1) k1);have hne1:(Value.slice g1 (L0+1) k1).ownBlock≠some w1.heap.size:=row_ne hown1 hR1 (by decide);have hs1:=hk1.size;have hownb:(x1.setCell ⟨w1.heap.size,0,none⟩ (.slice g1 (L0+1) k1)).ownsRow w.heap.size 5 1 (.slice g1 (L0+1) k1) (L0+1) (Z0++[.int .u8 46]):=owns_kept hown1 ((Kept.refl (fun k=>k≠w1.heap.size) x1).setCell (p:=⟨w1.heap.size,0,none⟩) (by simp) (.slice g1 (L0+1) k1)) (fun k hk e=>hne1 (e ▸ hk));have hr1:Row (x1.setCell ⟨w1.heap.size,0,none⟩ (.slice g1 (L0+1) k1)) w1.heap.size 63 #[.slice g1 (L0+1) k1]:=by simpa using hr1
   have hD1b:Row (x1.setCell ⟨w1.heap.size,0,none⟩ (.slice g1 (L0+1) k1)) (w1.heap.size+1) 125 BX:=hD1.off 0 _ (by omega);have hkob:=hko1.trans (KeepsOthers.setCell x1 ⟨w1.heap.size,0,none⟩ (.slice g1 (L0+1) k1));have hkb:=hk1.setCell (p:=⟨w1.heap.size,0,none⟩) (fun h=>h.2 (.inl rfl)) (.slice g1 (L0+1) k1);have hBb:Below w.heap.size w (x1.setCell ⟨w1.heap.size,0,none⟩ (.slice g1 (L0+1) k1)):=h1.trans ((hkb.mono (fun k hk=>⟨by omega,by
    rintro(h|h)
    ·omega
    ·have:=(hown.lt k h).1;omega⟩)).below (fun k hk=>hk))
   obtain⟨Y,hY⟩:∃ Y,x1.setCell ⟨w1.heap.size,0,none⟩ (.slice g1 (L0+1) k1)=Y:=⟨_,rfl⟩;rw[hY] at hownb hr1 hD1b hkob hkb hBb;have hneb:=row_ne hownb hr1 (by decide);have cBb:=hr1.cell (i:=0) (v:=.slice g1 (L0+1) k1) rfl;have hYl:=hr1.lt;have hYd:=hD1b.lt;have hYs:=hkb.size;have HNW2:Hid (∀(j:Nat) (u:Value),([.int .u8 d]:List Value)[j]? = some u->(Y.alloc (.cells #[.int .u8 d] 5)).cell? ((⟨Y.heap.size,0,none⟩:Addr).add j)=some u):=by intro j u hu;have hR:=Row.new Y 5 #[.int .u8 d];have h:=hR.cell (i:=j) (v:=u) (by simpa using hu);rw[Go.WideShapes.add_plain];simpa using h
   have hsz2:w.heap.size<=Y.heap.size:=by omega
   gi_wp2_with (gi_at_builtin;refine wpListIn_append_own2 _ rfl (.tmp 34) (.tmp 36) 63 rfl w.heap.size 5 i0 (.int .u8 0) 1 1 Tryz.underlying63 hi hz0 hz1 hz2 rfl (by decide) _ _ _ rfl (hownb.alloc _) ⟨Y.heap.size,0,none⟩ 1 1 [.int .u8 d] rfl rfl HNW2.out (by simp[Value.oneCell']) (by unfold maxLen;omega) (by omega) (by simp;omega) ?_);intro v2 x2 hown2 hgrow2 hblk2;have hR2:Row x2 w1.heap.size 63 #[.slice g1 (L0+1) k1]:=(hgrow2.block _ (by simp;omega) (fun e=>hneb e.symm)).trans (hr1.alloc _);have hD2:Row x2 (w1.heap.size+1) 125 BX:=(hgrow2.block _ (by simp;omega) (fun e=>(row_ne hownb hD1b (by decide)) e.symm)).trans (hD1b.alloc _);have hko2:KeepsOthers Y x2:=(KeepsOthers.alloc Y _).trans (KeepsOthers.of_grownBy hgrow2 (fun j o hj ho=>owns_cells (hownb.alloc _) j o hj ho));have hk2:Kept (fun k=>k<Y.heap.size/\¬ (k=w1.heap.size\/(Value.slice g1 (L0+1) k1).ownBlock=some k)) Y x2:=((Kept.refl _ Y).alloc (fun k hk=>hk.1) _).grown hgrow2 (fun k hk=>by have:=hk.1;simp;omega) (fun r e hr=>hr.2 (.inr e));obtain⟨g2,k2,rfl⟩:=owns_form hown2;have cB2:=hR2.cell (i:=0) (v:=.slice g1 (L0+1) k1) rfl;have fB2:=hR2.frozen 0;have hr2:=hR2.set 0 (.slice g2 (L0+1+1) k2);have hne2:(Value.slice g2 (L0+1+1) k2).ownBlock≠some w1.heap.size:=row_ne hown2 hR2 (by decide);have hs2:=hk2.size;gi_wp2;refine⟨((hkob.trans hko2).trans (KeepsOthers.setCell _ _ _)).from _,?_,_,.slice g2 (L0+1+1) k2,?_,by simpa using hr2,hD2.off 0 _ (by omega),?_,rfl⟩
   ·refine Kept.setCell (p:=⟨w1.heap.size,0,none⟩) ?_ (fun h=>h.2 (.inl rfl)) _;exact hkb.trans (hk2.mono (fun k hk=>⟨by omega,by
     rintro(h|h)
     ·exact hk.2 (.inl h)
     ·rcases hblk1 k h with hb|hb
      ·exact hk.2 (.inr hb)
      ·omega⟩))
   ·exact(hBb.trans ((hk2.mono (fun k hk=>⟨by omega,by
     rintro(h|h)
     ·omega
     ·have:=(hownb.lt k h).1;omega⟩)).below (fun k hk=>hk))).setCell (p:=⟨w1.heap.size,0,none⟩) (by show w.heap.size<=w1.heap.size;omega) _
   ·rw[HN.out.1,HN.out.2];exact owns_kept hown2 ((Kept.refl (fun k=>k≠w1.heap.size) x2).setCell (p:=⟨w1.heap.size,0,none⟩) (by simp) (.slice g2 (L0+1+1) k2)) (fun k hk e=>hne2 (e ▸ hk))
  ·have HN:Hid (([]++outB (DD.take k++[(pl,d)])).length=([]++outB (DD.take k)).length+1/\([]++outB (DD.take k++[(pl,d)])).map (Value.int .u8)=([]++outB (DD.take k)).map (Value.int .u8)++[.int .u8 d]):=by show (_/\_);rw[HN0.out,if_neg hpl];simp
   generalize ([]++outB (DD.take k)).length=L0 at *;generalize ([]++outB (DD.take k)).map (Value.int .u8)=Z0 at *;have hown:V.ownsRow w.heap.size 5 1 v L0 Z0:=h3;obtain⟨gu,cu,rfl⟩:=owns_form hown;have cB:=h2.cell (i:=0) (v:=.slice gu L0 cu) rfl;have hne:=row_ne hown h2 (by decide);have hblt:=h2.lt;have hdlt:=hD.lt;have hVs:=h1.size;have HNW1:Hid (∀(j:Nat) (u:Value),([.int .u8 d]:List Value)[j]? = some u->(V.alloc (.cells #[.int .u8 d] 5)).cell? ((⟨V.heap.size,0,none⟩:Addr).add j)=some u):=by intro j u hu;have hR:=Row.new V 5 #[.int .u8 d];have h:=hR.cell (i:=j) (v:=u) (by simpa using hu);rw[Go.WideShapes.add_plain];simpa using h
   have hsz1:w.heap.size<=V.heap.size:=by omega
   have gpl:(pl == -1)=false:=by simpa using hpl
   gi_wp2_with (gi_at_builtin;refine wpListIn_append_own2 _ rfl (.tmp 34) (.tmp 36) 63 rfl w.heap.size 5 i0 (.int .u8 0) 1 1 Tryz.underlying63 hi hz0 hz1 hz2 rfl (by decide) _ _ _ rfl (hown.alloc _) ⟨V.heap.size,0,none⟩ 1 1 [.int .u8 d] rfl rfl HNW1.out (by simp[Value.oneCell']) (by unfold maxLen;omega) (by omega) (by simp;omega) ?_);intro v1 x1 hown1 hgrow1 hblk1;have hR1:Row x1 w1.heap.size 63 #[.slice gu L0 cu]:=(hgrow1.block _ (by simp;omega) (fun e=>hne e.symm)).trans (h2.alloc _);have hD1:Row x1 (w1.heap.size+1) 125 BX:=(hgrow1.block _ (by simp;omega) (fun e=>(row_ne hown hD (by decide)) e.symm)).trans (hD.alloc _);have hko1:KeepsOthers V x1:=(KeepsOthers.alloc V _).trans (KeepsOthers.of_grownBy hgrow1 (fun j o hj ho=>owns_cells (hown.alloc _) j o hj ho));have hk1:Kept (fun k=>k<V.heap.size/\¬ (k=w1.heap.size\/(Value.slice gu L0 cu).ownBlock=some k)) V x1:=((Kept.refl _ V).alloc (fun k hk=>hk.1) _).grown hgrow1 (fun k hk=>by have:=hk.1;simp;omega) (fun r e hr=>hr.2 (.inr e));obtain⟨g1,k1,rfl⟩:=owns_form hown1;have cB1:=hR1.cell (i:=0) (v:=.slice gu L0 cu) rfl;have fB1:=hR1.frozen 0;have hr1:=hR1.set 0 (.slice g1 (L0+1) k1);have hne1:(Value.slice g1 (L0+1) k1).ownBlock≠some w1.heap.size:=row_ne hown1 hR1 (by decide);have hs1:=hk1.size;clear cB HNW1;gi_wp2;refine⟨(hko1.trans (KeepsOthers.setCell _ _ _)).from _,hk1.setCell (p:=⟨w1.heap.size,0,none⟩) (fun h=>h.2 (.inl rfl)) _,_,.slice g1 (L0+1) k1,?_,by simpa using hr1,hD1.off 0 _ (by omega),?_,rfl⟩
   ·exact(h1.trans (hk1.mono (fun k hk=>⟨by omega,by
     rintro(h|h)
     ·omega
     ·have:=(hown.lt k h).1;omega⟩)|>.below (fun k hk=>hk))).setCell (p:=⟨w1.heap.size,0,none⟩) (by show w.heap.size<=w1.heap.size;omega) _
   ·rw[HN.out.1,HN.out.2];exact owns_kept hown1 ((Kept.refl (fun k=>k≠w1.heap.size) x1).setCell (p:=⟨w1.heap.size,0,none⟩) (by simp) (.slice g1 (L0+1) k1)) (fun k hk e=>hne1 (e ▸ hk))
 case done =>
  rintro D ys own W hD rfl ⟨v,h1,h2,_,h3,h5⟩ hK;have hge:=outB_ge ys;have hown:W.ownsRow w.heap.size 5 1 v (outB ys).length ((outB ys).map (Value.int .u8)):=h3;rcases hown.2 with ⟨_,hx⟩|⟨g,cap,cur,rfl,_⟩
  ·exfalso;omega
  ·have hcv:(convert 63 9 (.slice (some ⟨g,0,none⟩) (outB ys).length cap)).run Tryz.prog W=.ok (.string SS) W:=by rw[<-HSS.out];exact run_convert_bytes_arg (P:=Tryz.prog) W 63 5 Tryz.underlying63 Tryz.underlying5 g 0 (outB ys).length cap (outB ys) rfl (fun i hi=>by rw[Nat.zero_add,hown.cellAt i (by omega)];simp[List.getElem?_eq_getElem hi]) 9 Tryz.underlying9
   have cB:=h2.cell (i:=0) (v:=.slice (some ⟨g,0,none⟩) (outB ys).length cap) rfl;have hBe:Below w.heap.size w (W.putObj D (.deferred none)):=h1.trans ((Kept.putObj (S:=fun k=>k<w.heap.size) W D (.deferred none) (by show ¬ D<_;omega)).below (fun _ h=>h));clear h3 hown h5 hge;generalize (outB ys).length=LN at *;gi_wp2;refine⟨by simp,.inl ⟨_,_,rfl,run_takeDeferred hK,?_⟩⟩;exact⟨_,results_tmp rfl _ _ _,rfl,hBe⟩
end Go.Proofs.YtoncpcdepemlcaaGreatDoor
namespace Go.Proofs.YtoncpcdepemlcaaGreatDoor
set_option maxRecDepth 100000
set_option maxHeartbeats 4000000
open Go.RowKit Go.Shelf
attribute [local go_sem] Oper.semAt_some
theorem print_neg (c e:Int) (hc:I64 c) (he:within e) (hng:(decW c e).neg=true) (w:World) (htab:PTab w) (SS:ByteArray) (HSS:Hid (strOfNums ([45]++outB (digsW (decW c e)))=SS)):CallsIn Fence.wide 8 Tryz.prog 77 #[dv c e] w fun r w'=>r=.returned (.string SS)/\Below w.heap.size w w':=by
 unfold dv;have hS:=sh_dec c e he.1 he.2 hc.1 hc.2;refine callsIn_of_wp_marks Tryz.func77 rfl trivial ?_ rfl;simp only[Tryz.ntmps77,List.size_toArray,List.length_cons,List.length_nil,Nat.reduceAdd,Nat.reduceSub,Array.replicate_succ,Array.replicate_zero,List.push_toArray,List.append_toArray,List.nil_append,List.cons_append];gi_wp2_with fail;have hK:=Row.new1 w (.cells #[.int .i64 c,.int .i64 e] 38) 38 #[.int .i64 c,.int .i64 e];refine⟨trivial,(callsIn_wide.2 (taken1 c e _ _ hc he hK)).mono ?_⟩;rintro _ w1 ⟨h1,G,hG,rfl,hR⟩;have hB1:=(((Below.refl _ w).alloc (Nat.le_refl _) (.cells #[.int .i64 c,.int .i64 e] 38)).alloc (by simp) (.cells #[.int .i64 c,.int .i64 e] 38)).trans (h1.mono (by simp;omega));generalize decW c e=y at *;rw[box_dec y hS.big] at hR;obtain⟨ng,m,ex⟩:=y;simp only at hng;subst hng;have hGl:=hR.lt;obtain⟨c0,c1,c2,c3⟩:=Row.four (show Row w1 G 125 #[.bool true,.int .u64 0,.int .u64 (m:Int),.int .i64 ex] from hR);have HDC:=fun W=>digitsW_call 7 ⟨true,m,ex⟩ W;clear h1 hK;obtain⟨i0,hi,hzz⟩:=Option.map_eq_some_iff.1 Tryz.info5;simp only[Prod.mk.injEq] at hzz;obtain⟨hz0,hz1,hz2⟩:=hzz;have hwl:w.heap.size<=w1.heap.size:=hB1.size;have hown0:(w1.alloc (.cells #[.slice none 0 0] 63)).ownsRow w.heap.size 5 1 (.slice none 0 0) 0 []:=World.ownsRow_nil _ _ _ _;have h20:Row (w1.alloc (.cells #[.slice none 0 0] 63)) w1.heap.size 63 #[.slice none 0 0]:=Row.new w1 63 _;have hG0:Row (w1.alloc (.cells #[.slice none 0 0] 63)) G 125 #[.bool true,.int .u64 0,.int .u64 (m:Int),.int .i64 ex]:=Row.alloc hR _;have HNW0:Hid (∀(j:Nat) (u:Value),([.int .u8 45]:List Value)[j]? = some u->((w1.alloc (.cells #[.slice none 0 0] 63)).alloc (.cells #[.int .u8 45] 5)).cell? ((⟨w1.heap.size+1,0,none⟩:Addr).add j)=some u):=by intro j u hu;have hR:=Row.new1 w1 (.cells #[.slice none 0 0] 63) 5 #[.int .u8 45];have h:=hR.cell (i:=j) (v:=u) (by simpa using hu);rw[Go.WideShapes.add_plain];simpa using h
 gi_wp2_with (gi_at_builtin;refine wpListIn_append_own2 _ rfl (.tmp 20) (.tmp 21) 63 rfl w.heap.size 5 i0 (.int .u8 0) 1 1 Tryz.underlying63 hi hz0 hz1 hz2 rfl (by decide) _ _ _ rfl (hown0.alloc _) ⟨w1.heap.size+1,0,none⟩ 1 1 [.int .u8 45] rfl rfl HNW0.out (by simp[Value.oneCell']) (by unfold maxLen;omega) (by omega) (by simp;omega) ?_);intro v1 x1 hown1 hgrow1 hblk1;have hR1:Row x1 w1.heap.size 63 #[.slice none 0 0]:=(hgrow1.block _ (by simp;omega) (fun e=>by cases e)).trans (h20.alloc _);have hD1:Row x1 G 125 #[.bool true,.int .u64 0,.int .u64 (m:Int),.int .i64 ex]:=(hgrow1.block _ (by simp;omega) (fun e=>by cases e)).trans (hG0.alloc _);have hk1:Kept (fun k=>k<w.heap.size) w x1:=(((Kept.of_below hB1 (fun k hk=>hk)).alloc (fun k hk=>by have:k<w.heap.size:=hk;omega) _).alloc (fun k hk=>by have:k<w.heap.size:=hk;simp;omega) _).grown hgrow1 (fun k hk=>by have:k<w.heap.size:=hk;simp;omega) (fun r e hr=>by cases e);have hszx:=hgrow1.size;obtain⟨g1,k1,rfl⟩:=owns_form hown1;have hne1:(Value.slice g1 (0+1) k1).ownBlock≠some w1.heap.size:=row_ne hown1 hR1 (by decide);have cB1:=hR1.cell (i:=0) (v:=.slice none 0 0) rfl;have fB1:=hR1.frozen 0;have hr1:Row (x1.setCell ⟨w1.heap.size,0,none⟩ (.slice g1 (0+1) k1)) w1.heap.size 63 #[.slice g1 (0+1) k1]:=by simpa using hR1.set 0 (.slice g1 (0+1) k1)
 have hg2:Row (x1.setCell ⟨w1.heap.size,0,none⟩ (.slice g1 (0+1) k1)) G 125 #[.bool true,.int .u64 0,.int .u64 (m:Int),.int .i64 ex]:=hD1.off 0 _ (by omega);have hownb:(x1.setCell ⟨w1.heap.size,0,none⟩ (.slice g1 (0+1) k1)).ownsRow w.heap.size 5 1 (.slice g1 1 k1) 1 [.int .u8 45]:=owns_kept hown1 ((Kept.refl (fun k=>k≠w1.heap.size) x1).setCell (p:=⟨w1.heap.size,0,none⟩) (by simp) (.slice g1 (0+1) k1)) (fun k hk e=>hne1 (e ▸ hk));have hBy:Below w.heap.size w (x1.setCell ⟨w1.heap.size,0,none⟩ (.slice g1 (0+1) k1)):=below_set (hk1.below (fun k hk=>hk)) 0 _ hwl;obtain⟨YY,hYY⟩:∃ Y,x1.setCell ⟨w1.heap.size,0,none⟩ (.slice g1 (0+1) k1)=Y:=⟨_,rfl⟩;rw[hYY] at hr1 hg2 hownb hBy;have hr1:Row YY w1.heap.size 63 #[.slice g1 1 k1]:=hr1;have hYO:=hr1.lt;have hYG:=hg2.lt;clear c0 c1 c2 c3;obtain⟨c0,c1,c2,c3⟩:=Row.four hg2;clear hown0 h20 hG0 HNW0 hR1 hD1 hk1 hne1 hown1 hgrow1 hblk1 hszx hR;gi_wp2_with fail;refine⟨trivial,(HDC _).mono ?_⟩;rintro _ w2 ⟨rfl,hw2⟩;rw[hw2];clear hw2 w2 cB1 fB1;gi_wp2_with fail;have hRO:Row (YY.alloc (.cells (boxW ⟨true,m,ex⟩) 125)) w1.heap.size 63 #[.slice g1 1 k1]:=hr1.alloc _;have hRD:Row (YY.alloc (.cells (boxW ⟨true,m,ex⟩) 125)) YY.heap.size 125 (boxW ⟨true,m,ex⟩):=Row.new YY 125 _;have hBW:Below w.heap.size w (YY.alloc (.cells (boxW ⟨true,m,ex⟩) 125)):=hBy.alloc (by omega) _;have hWs:(YY.alloc (.cells (boxW ⟨true,m,ex⟩) 125)).heap.size=YY.heap.size+1:=by simp
 have hOW:(YY.alloc (.cells (boxW ⟨true,m,ex⟩) 125)).ownsRow w.heap.size 5 1 (.slice g1 1 k1) 1 [.int .u8 45]:=hownb.alloc _;generalize YY.alloc (.cells (boxW ⟨true,m,ex⟩) 125)=W0 at hRO hRD hBW hWs hOW ⊢;obtain⟨hneD,hlenD⟩:=digsW_len ⟨true,m,ex⟩ hS.big ⟨hS.lo,hS.hi⟩;have hseq:=wdigits_in 7 (by omega) YY.heap.size ⟨true,m,ex⟩ hS.big ⟨hS.lo,hS.hi⟩ W0 hRD (htab.below hBW);generalize digsW ⟨true,m,ex⟩=DD at *;generalize hBX:boxW ⟨true,m,ex⟩=BX at *;clear hBX;refine wpIn_range_own rfl (by omega) (gf:=123) (lb:=#[.pointer (some ⟨YY.heap.size,0,none⟩)]) rfl trivial (enters_of Tryz.func123 (by kernel_rfl) rfl) hseq (fun k h=>h.elim) (fun _=>rfl) (PrW w.heap.size w1.heap.size YY.heap.size BX [45] w) (fun pre own V V' h hm=>by
  obtain⟨v,h1,h2,hD,h3,h4⟩:=h;refine⟨v,h1.trans ((hm.kept (T:=fun k=>k<w.heap.size) (fun k hk=>⟨by omega,fun h=>h,Nat.lt_of_lt_of_le hk h1.size⟩)).below (fun k hk=>hk)),hm.row h2 (fun h=>h),hm.row hD (fun h=>h),owns_mild h3 hm (fun k _ h=>h),h4⟩) (fun pre own V k h hk=>by
  obtain⟨v,h1,h2,hD,h3,rfl⟩:=h;rcases hk with rfl|hk
  ·exact⟨h2.lt,by omega⟩
  ·exact⟨(h3.lt k hk).2,fun e=>row_ne h3 hD (by decide) (e ▸ hk)⟩) ⟨_,_,hBW,hRO,hRD,hOW,rfl⟩ (fun x _=>{ tmps:=#[.agg #[.int .i64 c,.int .i64 e],.pointer (some ⟨w.heap.size,0,none⟩),.string ⟨#[]⟩,.slice (some ⟨G,0,none⟩) 1 1,.int .i64 0,.pointer (some ⟨w1.heap.size,0,none⟩),.int .i64 x.1,.int .u8 x.2,.tuple #[.slice (some ⟨G,0,none⟩) 1 1,.int .i64 0],.agg #[.int .i64 c,.int .i64 e],.slice (some ⟨w.heap.size+1,0,none⟩) 1 1,.tuple #[.slice (some ⟨G,0,none⟩) 1 1,.int .i64 0],.slice (some ⟨G,0,none⟩) 1 1,.int .i64 0,.int .i64 0,.bool false,.slice (some ⟨G,0,none⟩) 1 1,.pointer (some ⟨G,0,none⟩),.pointer (some ⟨G,0,none⟩),.bool true,.slice none 0 0,.slice (some ⟨w1.heap.size+1,0,none⟩) 1 1,.slice g1 1 k1,.slice (some ⟨G,0,none⟩) 1 1,.pointer (some ⟨G,0,none⟩),.agg #[.bool true,.int .u64 0,.int .u64 (m:Int),.int .i64 ex],.func (.func 123) #[] #[.pointer (some ⟨YY.heap.size,0,none⟩)],.int .i64 x.1,.int .u8 x.2,undef,undef,undef,undef,undef,undef,undef,undef,undef,undef,undef],defers:=[] }) (fun _ W=>W) (fun _ W=>Kept.refl _ W) ?assign ?body ?done
 case assign => intro l x W K hK;simp only[encW] at hK ⊢;gi_wp2;exact hK
 case body =>
  rintro l pre x own W V hWs' _ hIV _ ⟨k,hk,rfl,hx⟩;obtain⟨v,h1,h2,hD,h3,rfl⟩:=hIV;obtain⟨pl,d⟩:=x;simp only;have hlo:=outB_len (DD.take k);have hbnd:([45]++outB (DD.take k)).length<=200:=by
   have:(DD.take k).length<=60:=by rw[List.length_take];omega
   simp only[List.length_append,List.length_cons,List.length_nil];omega
  have HN0:Hid (outB (DD.take k++[(pl,d)])=outB (DD.take k)++((if pl = -1 then [46] else [])++[d])):=outB_snoc _ _;have hOl:w1.heap.size<V.heap.size:=h2.lt;clear hlo hx;by_cases hpl:pl = -1
  ·subst hpl;have HN:Hid (([45]++outB (DD.take k++[(-1,d)])).length=([45]++outB (DD.take k)).length+1+1/\([45]++outB (DD.take k++[(-1,d)])).map (Value.int .u8)=([45]++outB (DD.take k)).map (Value.int .u8)++[.int .u8 46,.int .u8 d]):=by show (_/\_);rw[HN0.out];simp
   generalize ([45]++outB (DD.take k)).length=L0 at *;generalize ([45]++outB (DD.take k)).map (Value.int .u8)=Z0 at *;have hown:V.ownsRow w.heap.size 5 1 v L0 Z0:=h3;obtain⟨gu,cu,rfl⟩:=owns_form hown;have cB:=h2.cell (i:=0) (v:=.slice gu L0 cu) rfl;have hne:=row_ne hown h2 (by decide);have hblt:=h2.lt;have hdlt:=hD.lt;have hVs:=h1.size;have HNW1:Hid (∀(j:Nat) (u:Value),([.int .u8 46]:List Value)[j]? = some u->(V.alloc (.cells #[.int .u8 46] 5)).cell? ((⟨V.heap.size,0,none⟩:Addr).add j)=some u):=by intro j u hu;have hR:=Row.new V 5 #[.int .u8 46];have h:=hR.cell (i:=j) (v:=u) (by simpa using hu);rw[Go.WideShapes.add_plain];simpa using h
   have hsz1:w.heap.size<=V.heap.size:=by omega
   gi_wp2_with (gi_at_builtin;refine wpListIn_append_own2 _ rfl (.tmp 31) (.tmp 32) 63 rfl w.heap.size 5 i0 (.int .u8 0) 1 1 Tryz.underlying63 hi hz0 hz1 hz2 rfl (by decide) _ _ _ rfl (hown.alloc _) ⟨V.heap.size,0,none⟩ 1 1 [.int .u8 46] rfl rfl HNW1.out (by simp[Value.oneCell']) (by unfold maxLen;omega) (by omega) (by simp;omega) ?_);intro v1 x1 hown1 hgrow1 hblk1;have hR1:Row x1 w1.heap.size 63 #[.slice gu L0 cu]:=(hgrow1.block _ (by simp;omega) (fun e=>hne e.symm)).trans (h2.alloc _);have hD1:Row x1 YY.heap.size 125 BX:=(hgrow1.block _ (by simp;omega) (fun e=>(row_ne hown hD (by decide)) e.symm)).trans (hD.alloc _);have hko1:KeepsOthers V x1:=(KeepsOthers.alloc V _).trans (KeepsOthers.of_grownBy hgrow1 (fun j o hj ho=>owns_cells (hown.alloc _) j o hj ho));have hk1:Kept (fun k=>k<V.heap.size/\¬ (k=w1.heap.size\/(Value.slice gu L0 cu).ownBlock=some k)) V x1:=((Kept.refl _ V).alloc (fun k hk=>hk.1) _).grown hgrow1 (fun k hk=>by have:=hk.1;simp;omega) (fun r e hr=>hr.2 (.inr e));obtain⟨g1,k1,rfl⟩:=owns_form hown1;have cB1:=hR1.cell (i:=0) (v:=.slice gu L0 cu) rfl;have fB1:=hR1.frozen 0;have hr1:=hR1.set 0 (.slice g1 (L0+1) k1);have hne1:(Value.slice g1 (L0+1) k1).ownBlock≠some w1.heap.size:=row_ne hown1 hR1 (by decide);have hs1:=hk1.size;have hownb:(x1.setCell ⟨w1.heap.size,0,none⟩ (.slice g1 (L0+1) k1)).ownsRow w.heap.size 5 1 (.slice g1 (L0+1) k1) (L0+1) (Z0++[.int .u8 46]):=owns_kept hown1 ((Kept.refl (fun k=>k≠w1.heap.size) x1).setCell (p:=⟨w1.heap.size,0,none⟩) (by simp) (.slice g1 (L0+1) k1)) (fun k hk e=>hne1 (e ▸ hk));have hr1:Row (x1.setCell ⟨w1.heap.size,0,none⟩ (.slice g1 (L0+1) k1)) w1.heap.size 63 #[.slice g1 (L0+1) k1]:=by simpa using hr1
   have hD1b:Row (x1.setCell ⟨w1.heap.size,0,none⟩ (.slice g1 (L0+1) k1)) YY.heap.size 125 BX:=hD1.off 0 _ (by omega);have hkob:=hko1.trans (KeepsOthers.setCell x1 ⟨w1.heap.size,0,none⟩ (.slice g1 (L0+1) k1));have hkb:=hk1.setCell (p:=⟨w1.heap.size,0,none⟩) (fun h=>h.2 (.inl rfl)) (.slice g1 (L0+1) k1);have hBb:Below w.heap.size w (x1.setCell ⟨w1.heap.size,0,none⟩ (.slice g1 (L0+1) k1)):=h1.trans ((hkb.mono (fun k hk=>⟨by omega,by
    rintro(h|h)
    ·omega
    ·have:=(hown.lt k h).1;omega⟩)).below (fun k hk=>hk))
   obtain⟨Y,hY⟩:∃ Y,x1.setCell ⟨w1.heap.size,0,none⟩ (.slice g1 (L0+1) k1)=Y:=⟨_,rfl⟩;rw[hY] at hownb hr1 hD1b hkob hkb hBb;have hneb:=row_ne hownb hr1 (by decide);have cBb:=hr1.cell (i:=0) (v:=.slice g1 (L0+1) k1) rfl;have hYl:=hr1.lt;have hYd:=hD1b.lt;have hYs:=hkb.size;have HNW2:Hid (∀(j:Nat) (u:Value),([.int .u8 d]:List Value)[j]? = some u->(Y.alloc (.cells #[.int .u8 d] 5)).cell? ((⟨Y.heap.size,0,none⟩:Addr).add j)=some u):=by intro j u hu;have hR:=Row.new Y 5 #[.int .u8 d];have h:=hR.cell (i:=j) (v:=u) (by simpa using hu);rw[Go.WideShapes.add_plain];simpa using h
   have hsz2:w.heap.size<=Y.heap.size:=by omega
   gi_wp2_with (gi_at_builtin;refine wpListIn_append_own2 _ rfl (.tmp 34) (.tmp 36) 63 rfl w.heap.size 5 i0 (.int .u8 0) 1 1 Tryz.underlying63 hi hz0 hz1 hz2 rfl (by decide) _ _ _ rfl (hownb.alloc _) ⟨Y.heap.size,0,none⟩ 1 1 [.int .u8 d] rfl rfl HNW2.out (by simp[Value.oneCell']) (by unfold maxLen;omega) (by omega) (by simp;omega) ?_);intro v2 x2 hown2 hgrow2 hblk2;have hR2:Row x2 w1.heap.size 63 #[.slice g1 (L0+1) k1]:=(hgrow2.block _ (by simp;omega) (fun e=>hneb e.symm)).trans (hr1.alloc _);have hD2:Row x2 YY.heap.size 125 BX:=(hgrow2.block _ (by simp;omega) (fun e=>(row_ne hownb hD1b (by decide)) e.symm)).trans (hD1b.alloc _);have hko2:KeepsOthers Y x2:=(KeepsOthers.alloc Y _).trans (KeepsOthers.of_grownBy hgrow2 (fun j o hj ho=>owns_cells (hownb.alloc _) j o hj ho));have hk2:Kept (fun k=>k<Y.heap.size/\¬ (k=w1.heap.size\/(Value.slice g1 (L0+1) k1).ownBlock=some k)) Y x2:=((Kept.refl _ Y).alloc (fun k hk=>hk.1) _).grown hgrow2 (fun k hk=>by have:=hk.1;simp;omega) (fun r e hr=>hr.2 (.inr e));obtain⟨g2,k2,rfl⟩:=owns_form hown2;have cB2:=hR2.cell (i:=0) (v:=.slice g1 (L0+1) k1) rfl;have fB2:=hR2.frozen 0;have hr2:=hR2.set 0 (.slice g2 (L0+1+1) k2);have hne2:(Value.slice g2 (L0+1+1) k2).ownBlock≠some w1.heap.size:=row_ne hown2 hR2 (by decide);have hs2:=hk2.size;gi_wp2;refine⟨((hkob.trans hko2).trans (KeepsOthers.setCell _ _ _)).from _,?_,_,.slice g2 (L0+1+1) k2,?_,by simpa using hr2,hD2.off 0 _ (by omega),?_,rfl⟩
   ·refine Kept.setCell (p:=⟨w1.heap.size,0,none⟩) ?_ (fun h=>h.2 (.inl rfl)) _;exact hkb.trans (hk2.mono (fun k hk=>⟨by omega,by
     rintro(h|h)
     ·exact hk.2 (.inl h)
     ·rcases hblk1 k h with hb|hb
      ·exact hk.2 (.inr hb)
      ·omega⟩))
   ·exact(hBb.trans ((hk2.mono (fun k hk=>⟨by omega,by
     rintro(h|h)
     ·omega
     ·have:=(hownb.lt k h).1;omega⟩)).below (fun k hk=>hk))).setCell (p:=⟨w1.heap.size,0,none⟩) (by show w.heap.size<=w1.heap.size;omega) _
   ·rw[HN.out.1,HN.out.2];exact owns_kept hown2 ((Kept.refl (fun k=>k≠w1.heap.size) x2).setCell (p:=⟨w1.heap.size,0,none⟩) (by simp) (.slice g2 (L0+1+1) k2)) (fun k hk e=>hne2 (e ▸ hk))
  ·have HN:Hid (([45]++outB (DD.take k++[(pl,d)])).length=([45]++outB (DD.take k)).length+1/\([45]++outB (DD.take k++[(pl,d)])).map (Value.int .u8)=([45]++outB (DD.take k)).map (Value.int .u8)++[.int .u8 d]):=by show (_/\_);rw[HN0.out,if_neg hpl];simp
   generalize ([45]++outB (DD.take k)).length=L0 at *;generalize ([45]++outB (DD.take k)).map (Value.int .u8)=Z0 at *;have hown:V.ownsRow w.heap.size 5 1 v L0 Z0:=h3;obtain⟨gu,cu,rfl⟩:=owns_form hown;have cB:=h2.cell (i:=0) (v:=.slice gu L0 cu) rfl;have hne:=row_ne hown h2 (by decide);have hblt:=h2.lt;have hdlt:=hD.lt;have hVs:=h1.size;have HNW1:Hid (∀(j:Nat) (u:Value),([.int .u8 d]:List Value)[j]? = some u->(V.alloc (.cells #[.int .u8 d] 5)).cell? ((⟨V.heap.size,0,none⟩:Addr).add j)=some u):=by intro j u hu;have hR:=Row.new V 5 #[.int .u8 d];have h:=hR.cell (i:=j) (v:=u) (by simpa using hu);rw[Go.WideShapes.add_plain];simpa using h
   have hsz1:w.heap.size<=V.heap.size:=by omega
   have gpl:(pl == -1)=false:=by simpa using hpl
   gi_wp2_with (gi_at_builtin;refine wpListIn_append_own2 _ rfl (.tmp 34) (.tmp 36) 63 rfl w.heap.size 5 i0 (.int .u8 0) 1 1 Tryz.underlying63 hi hz0 hz1 hz2 rfl (by decide) _ _ _ rfl (hown.alloc _) ⟨V.heap.size,0,none⟩ 1 1 [.int .u8 d] rfl rfl HNW1.out (by simp[Value.oneCell']) (by unfold maxLen;omega) (by omega) (by simp;omega) ?_);intro v1 x1 hown1 hgrow1 hblk1;have hR1:Row x1 w1.heap.size 63 #[.slice gu L0 cu]:=(hgrow1.block _ (by simp;omega) (fun e=>hne e.symm)).trans (h2.alloc _);have hD1:Row x1 YY.heap.size 125 BX:=(hgrow1.block _ (by simp;omega) (fun e=>(row_ne hown hD (by decide)) e.symm)).trans (hD.alloc _);have hko1:KeepsOthers V x1:=(KeepsOthers.alloc V _).trans (KeepsOthers.of_grownBy hgrow1 (fun j o hj ho=>owns_cells (hown.alloc _) j o hj ho));have hk1:Kept (fun k=>k<V.heap.size/\¬ (k=w1.heap.size\/(Value.slice gu L0 cu).ownBlock=some k)) V x1:=((Kept.refl _ V).alloc (fun k hk=>hk.1) _).grown hgrow1 (fun k hk=>by have:=hk.1;simp;omega) (fun r e hr=>hr.2 (.inr e));obtain⟨g1,k1,rfl⟩:=owns_form hown1;have cB1:=hR1.cell (i:=0) (v:=.slice gu L0 cu) rfl;have fB1:=hR1.frozen 0;have hr1:=hR1.set 0 (.slice g1 (L0+1) k1);have hne1:(Value.slice g1 (L0+1) k1).ownBlock≠some w1.heap.size:=row_ne hown1 hR1 (by decide);have hs1:=hk1.size;clear cB HNW1;gi_wp2;refine⟨(hko1.trans (KeepsOthers.setCell _ _ _)).from _,hk1.setCell (p:=⟨w1.heap.size,0,none⟩) (fun h=>h.2 (.inl rfl)) _,_,.slice g1 (L0+1) k1,?_,by simpa using hr1,hD1.off 0 _ (by omega),?_,rfl⟩
   ·exact(h1.trans (hk1.mono (fun k hk=>⟨by omega,by
     rintro(h|h)
     ·omega
     ·have:=(hown.lt k h).1;omega⟩)|>.below (fun k hk=>hk))).setCell (p:=⟨w1.heap.size,0,none⟩) (by show w.heap.size<=w1.heap.size;omega) _
   ·rw[HN.out.1,HN.out.2];exact owns_kept hown1 ((Kept.refl (fun k=>k≠w1.heap.size) x1).setCell (p:=⟨w1.heap.size,0,none⟩) (by simp) (.slice g1 (L0+1) k1)) (fun k hk e=>hne1 (e ▸ hk))
 case done =>
  rintro D ys own W hD rfl ⟨v,h1,h2,_,h3,h5⟩ hK;have hge:=outB_ge ys;have hown:W.ownsRow w.heap.size 5 1 v ([45]++outB ys).length (([45]++outB ys).map (Value.int .u8)):=h3;rcases hown.2 with ⟨_,hx⟩|⟨g,cap,cur,rfl,_⟩
  ·exfalso;simp at hx
  ·have hcv:(convert 63 9 (.slice (some ⟨g,0,none⟩) ([45]++outB ys).length cap)).run Tryz.prog W=.ok (.string SS) W:=by
    rw[<-HSS.out];exact run_convert_bytes_arg (P:=Tryz.prog) W 63 5 Tryz.underlying63 Tryz.underlying5 g 0 ([45]++outB ys).length cap ([45]++outB ys) rfl (fun i hi=>by
     rw[Nat.zero_add,hown.cellAt i (by omega)];have key:∀ ZZ:List Int,i<ZZ.length->(ZZ.map (Value.int .u8))[i]? = some (Value.int .u8 (ZZ[i]?.getD 0)):=by intro ZZ h;simp[List.getElem?_eq_getElem h]
     exact key _ hi) 9 Tryz.underlying9
   have cB:=h2.cell (i:=0) (v:=.slice (some ⟨g,0,none⟩) ([45]++outB ys).length cap) rfl;have hBe:Below w.heap.size w (W.putObj D (.deferred none)):=h1.trans ((Kept.putObj (S:=fun k=>k<w.heap.size) W D (.deferred none) (by show ¬ D<_;omega)).below (fun _ h=>h));clear h3 hown h5 hge;generalize ([45]++outB ys).length=LN at *;gi_wp2;refine⟨by simp,.inl ⟨_,_,rfl,run_takeDeferred hK,?_⟩⟩;exact⟨_,results_tmp rfl _ _ _,rfl,hBe⟩
def signL (b : Bool) : List Int := if b then [45] else []
def printS (c e : Int) : ByteArray := strOfNums (signL (decW c e).neg ++ outB (digsW (decW c e)))
theorem print_any (c e:Int) (hc:I64 c) (he:within e) (w:World) (htab:PTab w):Calls Tryz.prog 77 #[dv c e] w fun r w'=>r=.returned (.string (printS c e))/\Below w.heap.size w w':=by
 cases hn:(decW c e).neg
 ·exact callsIn_wide.1 (print_pos c e hc he hn w htab _ (by show _=_;unfold printS signL;rw[hn];rfl))
 ·exact callsIn_wide.1 (print_neg c e hc he hn w htab _ (by show _=_;unfold printS signL;rw[hn];rfl))
end Go.Proofs.YtoncpcdepemlcaaGreatDoor
