import Derived.Test.YtoncpcdepemlcaaGreatDoorWbsM
import Derived.Test.YtoncpcdepemlcaaGreatDoorCox
import Derived.Test.YtoncpcdepemlcaaGreatDoorMem
namespace Go.Proofs.YtoncpcdepemlcaaGreatDoor
set_option maxRecDepth 100000
set_option maxHeartbeats 1000000
open Go.RowKit Go.Shelf
attribute [local go_sem] Oper.semAt_some
theorem fmt5 (w:World):Calls Tryz.prog 124 #[.int .u64 5,.int .i64 10] w fun r w'=>r=.returned (.string ⟨#[53]⟩)/\w'=w:=by
 have h:=Tryz.internal_strconv_small 5 (by omega);rw[show (Lib.decDigits 5).toArray=#[53] by kernel_rfl] at h;simp only[show ((5:Nat):Int)=5 from rfl] at h;go_enter Tryz.func124,Tryz.ntmps124;go_wp2_with (first|(go_at_call 151;refine(h _).mono ?_;rintro _ w1 ⟨rfl,hw1⟩;subst hw1)|go_in);go_ret;exact⟨rfl,rfl⟩
def D4 : List (Int × Int) := [(0, 48), (-1, 48), (-2, 48), (-3, 53)]
def encD (x : Int × Int) : Array Value := #[.int .i64 x.1, .int .u8 x.2]
def boxD : Array Value := #[.bool false, .int .u64 0, .int .u64 5, .int .i64 (-3)]
theorem digits_in (n:Nat) (hn:3<=n) (DB:Nat) (w:World) (hDB:Row w DB 125 boxD):SeqOwn Fence.wide n Tryz.prog 123 #[.pointer (some ⟨DB,0,none⟩)] encD (fun _=>False) (fun k=>k=DB) (fun pre x=>∃k,k<4/\pre=D4.take k/\D4[k]? = some x) (fun xs=>xs=D4) w:=by
 intro l J W hW hJ hO hY ⟨own0,h0⟩;have hR0:Row W DB 125 boxD:=hDB.below hW hDB.lt;obtain⟨c0,c1,c2,c3⟩:=Row.four (show Row W DB 125 #[.bool false,.int .u64 0,.int .u64 5,.int .i64 (-3)] from hR0);refine callsIn_of_wp Tryz.func123 rfl trivial ?_ rfl;simp only[Tryz.ntmps123,List.size_toArray,List.length_cons,List.length_nil,Nat.reduceAdd,Nat.reduceSub,Array.replicate_succ,Array.replicate_zero,List.push_toArray,List.append_toArray,List.nil_append,List.cons_append];gi_wp2_with fail;refine⟨trivial,fun _=>by omega,(callsIn_wide.2 (fmt5 _)).mono ?_⟩;rintro e w' ⟨rfl,hw'⟩;rw[hw'];clear hw' w';gi_wp2;gi_loopw [5] (fun v wr=>∃k:Nat,k<=4/\v=.int .i64 (-(k:Int))/\∃own,J (D4.take k) own wr/\Row wr DB 125 boxD) (fun v _=>((intOf v)+4).toNat)
 case atStart=>exact⟨0,by omega,rfl,own0,h0,hR0⟩
 case round =>
  obtain⟨k,hk,rfl,own,hJs,hRw⟩:=hrel;clear c0 c1 c2 c3 h0;obtain⟨c0,c1,c2,c3⟩:=Row.four (show Row wr DB 125 #[.bool false,.int .u64 0,.int .u64 5,.int .i64 (-3)] from hRw);have h5:k=0\/k=1\/k=2\/k=3\/k=4:=by omega
  rcases h5 with rfl|rfl|rfl|rfl|rfl
  ·obtain⟨fn,tmps,assign,body,hy,hR⟩:=hY _ _ own wr hJs ⟨0,by omega,rfl,rfl⟩;simp only[encD] at hy;clear hY;gi_wp2;refine⟨fun _=>by omega,hR.mono ?_⟩;rintro e W3 ⟨rfl,⟨own',hJ3⟩,hk3⟩;have hB3:Row W3 DB 125 boxD:=hRw.kept hk3 ⟨hRw.lt,fun ho=>(hO _ _ _ _ hJs ho).2 rfl⟩;gi_wp2;go_roundw
   case rel=>exact⟨1,by omega,rfl,own',hJ3,hB3⟩
   case measure=>simp[intOf]
  ·obtain⟨fn,tmps,assign,body,hy,hR⟩:=hY _ _ own wr hJs ⟨1,by omega,rfl,rfl⟩;simp only[encD] at hy;clear hY;gi_wp2;refine⟨fun _=>by omega,hR.mono ?_⟩;rintro e W3 ⟨rfl,⟨own',hJ3⟩,hk3⟩;have hB3:Row W3 DB 125 boxD:=hRw.kept hk3 ⟨hRw.lt,fun ho=>(hO _ _ _ _ hJs ho).2 rfl⟩;gi_wp2;go_roundw
   case rel=>exact⟨2,by omega,rfl,own',hJ3,hB3⟩
   case measure=>simp[intOf]
  ·obtain⟨fn,tmps,assign,body,hy,hR⟩:=hY _ _ own wr hJs ⟨2,by omega,rfl,rfl⟩;simp only[encD] at hy;clear hY;gi_wp2;refine⟨fun _=>by omega,hR.mono ?_⟩;rintro e W3 ⟨rfl,⟨own',hJ3⟩,hk3⟩;have hB3:Row W3 DB 125 boxD:=hRw.kept hk3 ⟨hRw.lt,fun ho=>(hO _ _ _ _ hJs ho).2 rfl⟩;gi_wp2;go_roundw
   case rel=>exact⟨3,by omega,rfl,own',hJ3,hB3⟩
   case measure=>simp[intOf]
  ·obtain⟨fn,tmps,assign,body,hy,hR⟩:=hY _ _ own wr hJs ⟨3,by omega,rfl,rfl⟩;simp only[encD] at hy;rw[show (53:Int)=(((⟨#[53]⟩:ByteArray)[0]'(by decide)).toNat:Int) from rfl] at hy;clear hY;gi_wp2;refine⟨fun _=>by omega,hR.mono ?_⟩;rintro e W3 ⟨rfl,⟨own',hJ3⟩,hk3⟩;have hB3:Row W3 DB 125 boxD:=hRw.kept hk3 ⟨hRw.lt,fun ho=>(hO _ _ _ _ hJs ho).2 rfl⟩;gi_wp2;go_roundw
   case rel=>exact⟨4,by omega,rfl,own',hJ3,hB3⟩
   case measure=>simp[intOf]
  ·clear hY;gi_wp2;go_end0;exact⟨⟨_,rfl⟩,_,own,rfl,hJs⟩
end Go.Proofs.YtoncpcdepemlcaaGreatDoor
namespace Go.Proofs.YtoncpcdepemlcaaGreatDoor
set_option maxRecDepth 100000
set_option maxHeartbeats 1000000
open Go.RowKit Go.Shelf
attribute [local go_sem] Oper.semAt_some
theorem decW5:decW 5 (-3)=⟨false,5,-3⟩:=by
 unfold decW shortW numW;rw[if_neg (by decide),show ((5:Int)).natAbs=5 from rfl,strip_fix 5 (-3) (by decide)];rfl
def outB : List (Int × Int) → List Int
  | [] => []
  | x :: xs => (if x.1 = -1 then [46] else []) ++ [x.2] ++ outB xs
def PrI (N O DB : Nat) (w0 : World) (pre : List (Int × Int)) (own : Nat → Prop) (V : World) : Prop :=
  ∃ v, Below N w0 V ∧ Row V O 63 #[v] ∧ Row V DB 125 boxD ∧ V.ownsRow N 5 1 v (outB pre).length ((outB pre).map (Value.int .u8)) ∧ own = fun k => k = O ∨ v.ownBlock = some k
theorem digits_call (n:Nat) (w:World):CallsIn Fence.wide n Tryz.prog 104 #[.agg boxD] w fun e w'=>e=.returned (.func (.func 123) #[] #[.pointer (some ⟨w.heap.size,0,none⟩)])/\w'=w.alloc (.cells boxD 125):=by
 refine callsIn_wide.2 ?_;unfold boxD;go_enter Tryz.func104,Tryz.ntmps104;go_wp2;go_ret;exact⟨rfl,rfl⟩
theorem print5_in (w:World):CallsIn Fence.wide 8 Tryz.prog 77 #[dv 5 (-3)] w fun e w'=>e=.returned (.string ⟨#[48,46,48,48,53]⟩)/\Below w.heap.size w w':=by
 unfold dv;refine callsIn_of_wp_marks Tryz.func77 rfl trivial ?_ rfl;simp only[Tryz.ntmps77,List.size_toArray,List.length_cons,List.length_nil,Nat.reduceAdd,Nat.reduceSub,Array.replicate_succ,Array.replicate_zero,List.push_toArray,List.append_toArray,List.nil_append,List.cons_append];gi_wp2_with fail;have hK:=Row.new1 w (.cells #[.int .i64 5,.int .i64 (-3)] 38) 38 #[.int .i64 5,.int .i64 (-3)];refine⟨trivial,(callsIn_wide.2 (taken1 5 (-3) _ _ ⟨by decide,by decide⟩ ⟨by decide,by decide⟩ hK)).mono ?_⟩;rintro e w1 ⟨h1,G,hG,rfl,hR⟩;have hB1:=(((Below.refl _ w).alloc (Nat.le_refl _) (.cells #[.int .i64 5,.int .i64 (-3)] 38)).alloc (by simp) (.cells #[.int .i64 5,.int .i64 (-3)] 38)).trans (h1.mono (by simp;omega));rw[decW5] at hR;have hR:Row w1 G 125 boxD:=hR;have hGl:=hR.lt;obtain⟨c0,c1,c2,c3⟩:=Row.four (show Row w1 G 125 #[.bool false,.int .u64 0,.int .u64 5,.int .i64 (-3)] from hR);clear h1 hK;gi_wp2_with fail;refine⟨trivial,(digits_call _ _).mono ?_⟩;rintro e w2 ⟨rfl,hw2⟩;rw[hw2];clear hw2 w2;gi_wp2_with fail;obtain⟨i0,hi,hzz⟩:=Option.map_eq_some_iff.1 Tryz.info5;simp only[Prod.mk.injEq] at hzz;obtain⟨hz0,hz1,hz2⟩:=hzz;have hwl:w.heap.size<=w1.heap.size:=hB1.size;have hRO:Row ((w1.alloc (.cells #[.slice none 0 0] 63)).alloc (.cells boxD 125)) w1.heap.size 63 #[.slice none 0 0]:=(Row.new w1 63 _).alloc _;have hRD:Row ((w1.alloc (.cells #[.slice none 0 0] 63)).alloc (.cells boxD 125)) (w1.heap.size+1) 125 boxD:=Row.new1 w1 _ 125 _;have hBW:Below w.heap.size w ((w1.alloc (.cells #[.slice none 0 0] 63)).alloc (.cells boxD 125)):=(hB1.alloc hwl _).alloc (by simp;omega) _;have hWs:((w1.alloc (.cells #[.slice none 0 0] 63)).alloc (.cells boxD 125)).heap.size=w1.heap.size+2:=by simp
 generalize (w1.alloc (.cells #[.slice none 0 0] 63)).alloc (.cells boxD 125)=W0 at hRO hRD hBW hWs ⊢;refine wpIn_range_own rfl (by omega) (gf:=123) (lb:=#[.pointer (some ⟨w1.heap.size+1,0,none⟩)]) rfl trivial (enters_of Tryz.func123 (by kernel_rfl) rfl) (digits_in 7 (by omega) (w1.heap.size+1) W0 hRD) (fun k h=>h.elim) (fun _=>rfl) (PrI w.heap.size w1.heap.size (w1.heap.size+1) w) (fun pre own V V' h hm=>by
  obtain⟨v,h1,h2,hD,h3,h4⟩:=h;refine⟨v,h1.trans ((hm.kept (T:=fun k=>k<w.heap.size) (fun k hk=>⟨by omega,fun h=>h,Nat.lt_of_lt_of_le hk h1.size⟩)).below (fun k hk=>hk)),hm.row h2 (fun h=>h),hm.row hD (fun h=>h),owns_mild h3 hm (fun k _ h=>h),h4⟩) (fun pre own V k h hk=>by
  obtain⟨v,h1,h2,hD,h3,rfl⟩:=h;rcases hk with rfl|hk
  ·exact⟨h2.lt,by omega⟩
  ·exact⟨(h3.lt k hk).2,fun e=>row_ne h3 hD (by decide) (e ▸ hk)⟩) ⟨_,_,hBW,hRO,hRD,World.ownsRow_nil _ _ _ _,rfl⟩ (fun x _=>{ tmps:=#[.agg #[.int .i64 5,.int .i64 (-3)],.pointer (some ⟨w.heap.size,0,none⟩),.string ⟨#[]⟩,.slice (some ⟨G,0,none⟩) 1 1,.int .i64 0,.pointer (some ⟨w1.heap.size,0,none⟩),.int .i64 x.1,.int .u8 x.2,.tuple #[.slice (some ⟨G,0,none⟩) 1 1,.int .i64 0],.agg #[.int .i64 5,.int .i64 (-3)],.slice (some ⟨w.heap.size+1,0,none⟩) 1 1,.tuple #[.slice (some ⟨G,0,none⟩) 1 1,.int .i64 0],.slice (some ⟨G,0,none⟩) 1 1,.int .i64 0,.int .i64 0,.bool false,.slice (some ⟨G,0,none⟩) 1 1,.pointer (some ⟨G,0,none⟩),.pointer (some ⟨G,0,none⟩),.bool false,undef,undef,undef,.slice (some ⟨G,0,none⟩) 1 1,.pointer (some ⟨G,0,none⟩),.agg #[.bool false,.int .u64 0,.int .u64 5,.int .i64 (-3)],.func (.func 123) #[] #[.pointer (some ⟨w1.heap.size+1,0,none⟩)],.int .i64 x.1,.int .u8 x.2,undef,undef,undef,undef,undef,undef,undef,undef,undef,undef,undef],defers:=[] }) (fun _ W=>W) (fun _ W=>Kept.refl _ W) ?assign ?body ?done
 case assign => intro l x W K hK;simp only[encD] at hK ⊢;gi_wp2;exact hK
 case body =>
  rintro l pre x own W V hWs' _ hIV _ ⟨k,hk,rfl,hx⟩;obtain⟨v,h1,h2,hD,h3,rfl⟩:=hIV;have h5:k=0\/k=1\/k=2\/k=3:=by omega
  rcases h5 with rfl|rfl|rfl|rfl<;>(simp only[D4,List.getElem?_cons_zero,List.getElem?_cons_succ,Option.some.injEq] at hx;subst hx;simp only)
  ·have hown:V.ownsRow w.heap.size 5 1 v 0 []:=h3;obtain⟨gu,cu,rfl⟩:=owns_form hown;have cB:=h2.cell (i:=0) (v:=.slice gu 0 cu) rfl;have hne:=row_ne hown h2 (by decide);have hblt:=h2.lt;have hdlt:=hD.lt;have hVs:=h1.size;have HNW1:Hid (∀(j:Nat) (u:Value),([.int .u8 48]:List Value)[j]? = some u->(V.alloc (.cells #[.int .u8 48] 5)).cell? ((⟨V.heap.size,0,none⟩:Addr).add j)=some u):=by intro j u hu;have hR:=Row.new V 5 #[.int .u8 48];have h:=hR.cell (i:=j) (v:=u) (by simpa using hu);rw[Go.WideShapes.add_plain];simpa using h
   have hsz1:w.heap.size<=V.heap.size:=by omega
   gi_wp2_with (gi_at_builtin;refine wpListIn_append_own2 _ rfl (.tmp 34) (.tmp 36) 63 rfl w.heap.size 5 i0 (.int .u8 0) 1 1 Tryz.underlying63 hi hz0 hz1 hz2 rfl (by decide) _ _ _ rfl (hown.alloc _) ⟨V.heap.size,0,none⟩ 1 1 [.int .u8 48] rfl rfl HNW1.out (by simp[Value.oneCell']) (by unfold maxLen;omega) (by omega) (by simp;omega) ?_);intro v1 x1 hown1 hgrow1 hblk1;have hR1:Row x1 w1.heap.size 63 #[.slice gu 0 cu]:=(hgrow1.block _ (by simp;omega) (fun e=>hne e.symm)).trans (h2.alloc _);have hD1:Row x1 (w1.heap.size+1) 125 boxD:=(hgrow1.block _ (by simp;omega) (fun e=>(row_ne hown hD (by decide)) e.symm)).trans (hD.alloc _);have hko1:KeepsOthers V x1:=(KeepsOthers.alloc V _).trans (KeepsOthers.of_grownBy hgrow1 (fun j o hj ho=>owns_cells (hown.alloc _) j o hj ho));have hk1:Kept (fun k=>k<V.heap.size/\¬ (k=w1.heap.size\/(Value.slice gu 0 cu).ownBlock=some k)) V x1:=((Kept.refl _ V).alloc (fun k hk=>hk.1) _).grown hgrow1 (fun k hk=>by have:=hk.1;simp;omega) (fun r e hr=>hr.2 (.inr e));obtain⟨g1,k1,rfl⟩:=owns_form hown1;have cB1:=hR1.cell (i:=0) (v:=.slice gu 0 cu) rfl;have fB1:=hR1.frozen 0;have hr1:=hR1.set 0 (.slice g1 (0+1) k1);have hne1:(Value.slice g1 (0+1) k1).ownBlock≠some w1.heap.size:=row_ne hown1 hR1 (by decide);have hs1:=hk1.size;clear cB HNW1;gi_wp2;refine⟨(hko1.trans (KeepsOthers.setCell _ _ _)).from _,hk1.setCell (p:=⟨w1.heap.size,0,none⟩) (fun h=>h.2 (.inl rfl)) _,_,.slice g1 (0+1) k1,?_,by simpa using hr1,hD1.off 0 _ (by omega),?_,rfl⟩
   ·exact(h1.trans (hk1.mono (fun k hk=>⟨by omega,by
     rintro(h|h)
     ·omega
     ·have:=(hown.lt k h).1;omega⟩)|>.below (fun k hk=>hk))).setCell (p:=⟨w1.heap.size,0,none⟩) (by show w.heap.size<=w1.heap.size;omega) _
   ·exact owns_kept hown1 ((Kept.refl (fun k=>k≠w1.heap.size) x1).setCell (p:=⟨w1.heap.size,0,none⟩) (by simp) (.slice g1 (0+1) k1)) (fun k hk e=>hne1 (e ▸ hk))
  ·have hown:V.ownsRow w.heap.size 5 1 v 1 [.int .u8 48]:=h3;obtain⟨gu,cu,rfl⟩:=owns_form hown;have cB:=h2.cell (i:=0) (v:=.slice gu 1 cu) rfl;have hne:=row_ne hown h2 (by decide);have hblt:=h2.lt;have hdlt:=hD.lt;have hVs:=h1.size;have HNW1:Hid (∀(j:Nat) (u:Value),([.int .u8 46]:List Value)[j]? = some u->(V.alloc (.cells #[.int .u8 46] 5)).cell? ((⟨V.heap.size,0,none⟩:Addr).add j)=some u):=by intro j u hu;have hR:=Row.new V 5 #[.int .u8 46];have h:=hR.cell (i:=j) (v:=u) (by simpa using hu);rw[Go.WideShapes.add_plain];simpa using h
   have hsz1:w.heap.size<=V.heap.size:=by omega
   gi_wp2_with (gi_at_builtin;refine wpListIn_append_own2 _ rfl (.tmp 31) (.tmp 32) 63 rfl w.heap.size 5 i0 (.int .u8 0) 1 1 Tryz.underlying63 hi hz0 hz1 hz2 rfl (by decide) _ _ _ rfl (hown.alloc _) ⟨V.heap.size,0,none⟩ 1 1 [.int .u8 46] rfl rfl HNW1.out (by simp[Value.oneCell']) (by unfold maxLen;omega) (by omega) (by simp;omega) ?_);intro v1 x1 hown1 hgrow1 hblk1;have hR1:Row x1 w1.heap.size 63 #[.slice gu 1 cu]:=(hgrow1.block _ (by simp;omega) (fun e=>hne e.symm)).trans (h2.alloc _);have hD1:Row x1 (w1.heap.size+1) 125 boxD:=(hgrow1.block _ (by simp;omega) (fun e=>(row_ne hown hD (by decide)) e.symm)).trans (hD.alloc _);have hko1:KeepsOthers V x1:=(KeepsOthers.alloc V _).trans (KeepsOthers.of_grownBy hgrow1 (fun j o hj ho=>owns_cells (hown.alloc _) j o hj ho));have hk1:Kept (fun k=>k<V.heap.size/\¬ (k=w1.heap.size\/(Value.slice gu 1 cu).ownBlock=some k)) V x1:=((Kept.refl _ V).alloc (fun k hk=>hk.1) _).grown hgrow1 (fun k hk=>by have:=hk.1;simp;omega) (fun r e hr=>hr.2 (.inr e));obtain⟨g1,k1,rfl⟩:=owns_form hown1;have cB1:=hR1.cell (i:=0) (v:=.slice gu 1 cu) rfl;have fB1:=hR1.frozen 0;have hr1:=hR1.set 0 (.slice g1 (1+1) k1);have hne1:(Value.slice g1 (1+1) k1).ownBlock≠some w1.heap.size:=row_ne hown1 hR1 (by decide);have hs1:=hk1.size;have hownb:(x1.setCell ⟨w1.heap.size,0,none⟩ (.slice g1 (1+1) k1)).ownsRow w.heap.size 5 1 (.slice g1 2 k1) 2 [.int .u8 48,.int .u8 46]:=owns_kept hown1 ((Kept.refl (fun k=>k≠w1.heap.size) x1).setCell (p:=⟨w1.heap.size,0,none⟩) (by simp) (.slice g1 (1+1) k1)) (fun k hk e=>hne1 (e ▸ hk));have hr1:Row (x1.setCell ⟨w1.heap.size,0,none⟩ (.slice g1 (1+1) k1)) w1.heap.size 63 #[.slice g1 2 k1]:=hr1;have hD1b:Row (x1.setCell ⟨w1.heap.size,0,none⟩ (.slice g1 (1+1) k1)) (w1.heap.size+1) 125 boxD:=hD1.off 0 _ (by omega);have hkob:=hko1.trans (KeepsOthers.setCell x1 ⟨w1.heap.size,0,none⟩ (.slice g1 (1+1) k1));have hkb:=hk1.setCell (p:=⟨w1.heap.size,0,none⟩) (fun h=>h.2 (.inl rfl)) (.slice g1 (1+1) k1);have hBb:Below w.heap.size w (x1.setCell ⟨w1.heap.size,0,none⟩ (.slice g1 (1+1) k1)):=h1.trans ((hkb.mono (fun k hk=>⟨by omega,by
    rintro(h|h)
    ·omega
    ·have:=(hown.lt k h).1;omega⟩)).below (fun k hk=>hk))
   obtain⟨Y,hY⟩:∃ Y,x1.setCell ⟨w1.heap.size,0,none⟩ (.slice g1 (1+1) k1)=Y:=⟨_,rfl⟩;rw[hY] at hownb hr1 hD1b hkob hkb hBb;have hneb:=row_ne hownb hr1 (by decide);have cBb:=hr1.cell (i:=0) (v:=.slice g1 2 k1) rfl;have hYl:=hr1.lt;have hYd:=hD1b.lt;have hYs:=hkb.size;have hY:x1.setCell ⟨w1.heap.size,0,none⟩ (.slice g1 2 k1)=Y:=hY;have HNW2:Hid (∀(j:Nat) (u:Value),([.int .u8 48]:List Value)[j]? = some u->(Y.alloc (.cells #[.int .u8 48] 5)).cell? ((⟨Y.heap.size,0,none⟩:Addr).add j)=some u):=by intro j u hu;have hR:=Row.new Y 5 #[.int .u8 48];have h:=hR.cell (i:=j) (v:=u) (by simpa using hu);rw[Go.WideShapes.add_plain];simpa using h
   have hsz2:w.heap.size<=Y.heap.size:=by omega
   gi_wp2_with (gi_at_builtin;refine wpListIn_append_own2 _ rfl (.tmp 34) (.tmp 36) 63 rfl w.heap.size 5 i0 (.int .u8 0) 1 1 Tryz.underlying63 hi hz0 hz1 hz2 rfl (by decide) _ _ _ rfl (hownb.alloc _) ⟨Y.heap.size,0,none⟩ 1 1 [.int .u8 48] rfl rfl HNW2.out (by simp[Value.oneCell']) (by unfold maxLen;omega) (by omega) (by simp;omega) ?_);intro v2 x2 hown2 hgrow2 hblk2;have hR2:Row x2 w1.heap.size 63 #[.slice g1 2 k1]:=(hgrow2.block _ (by simp;omega) (fun e=>hneb e.symm)).trans (hr1.alloc _);have hD2:Row x2 (w1.heap.size+1) 125 boxD:=(hgrow2.block _ (by simp;omega) (fun e=>(row_ne hownb hD1b (by decide)) e.symm)).trans (hD1b.alloc _);have hko2:KeepsOthers Y x2:=(KeepsOthers.alloc Y _).trans (KeepsOthers.of_grownBy hgrow2 (fun j o hj ho=>owns_cells (hownb.alloc _) j o hj ho));have hk2:Kept (fun k=>k<Y.heap.size/\¬ (k=w1.heap.size\/(Value.slice g1 2 k1).ownBlock=some k)) Y x2:=((Kept.refl _ Y).alloc (fun k hk=>hk.1) _).grown hgrow2 (fun k hk=>by have:=hk.1;simp;omega) (fun r e hr=>hr.2 (.inr e));obtain⟨g2,k2,rfl⟩:=owns_form hown2;have cB2:=hR2.cell (i:=0) (v:=.slice g1 2 k1) rfl;have fB2:=hR2.frozen 0;have hr2:=hR2.set 0 (.slice g2 (2+1) k2);have hne2:(Value.slice g2 (2+1) k2).ownBlock≠some w1.heap.size:=row_ne hown2 hR2 (by decide);have hs2:=hk2.size;gi_wp2;refine⟨((hkob.trans hko2).trans (KeepsOthers.setCell _ _ _)).from _,?_,_,.slice g2 (2+1) k2,?_,by simpa using hr2,hD2.off 0 _ (by omega),?_,rfl⟩
   ·refine Kept.setCell (p:=⟨w1.heap.size,0,none⟩) ?_ (fun h=>h.2 (.inl rfl)) _;exact hkb.trans (hk2.mono (fun k hk=>⟨by omega,by
     rintro(h|h)
     ·exact hk.2 (.inl h)
     ·rcases hblk1 k h with hb|hb
      ·exact hk.2 (.inr hb)
      ·omega⟩))
   ·exact(hBb.trans ((hk2.mono (fun k hk=>⟨by omega,by
     rintro(h|h)
     ·omega
     ·have:=(hownb.lt k h).1;omega⟩)).below (fun k hk=>hk))).setCell (p:=⟨w1.heap.size,0,none⟩) (by show w.heap.size<=w1.heap.size;omega) _
   ·exact owns_kept hown2 ((Kept.refl (fun k=>k≠w1.heap.size) x2).setCell (p:=⟨w1.heap.size,0,none⟩) (by simp) (.slice g2 (2+1) k2)) (fun k hk e=>hne2 (e ▸ hk))
  ·have hown:V.ownsRow w.heap.size 5 1 v 3 [.int .u8 48,.int .u8 46,.int .u8 48]:=h3;obtain⟨gu,cu,rfl⟩:=owns_form hown;have cB:=h2.cell (i:=0) (v:=.slice gu 3 cu) rfl;have hne:=row_ne hown h2 (by decide);have hblt:=h2.lt;have hdlt:=hD.lt;have hVs:=h1.size;have HNW1:Hid (∀(j:Nat) (u:Value),([.int .u8 48]:List Value)[j]? = some u->(V.alloc (.cells #[.int .u8 48] 5)).cell? ((⟨V.heap.size,0,none⟩:Addr).add j)=some u):=by intro j u hu;have hR:=Row.new V 5 #[.int .u8 48];have h:=hR.cell (i:=j) (v:=u) (by simpa using hu);rw[Go.WideShapes.add_plain];simpa using h
   have hsz1:w.heap.size<=V.heap.size:=by omega
   gi_wp2_with (gi_at_builtin;refine wpListIn_append_own2 _ rfl (.tmp 34) (.tmp 36) 63 rfl w.heap.size 5 i0 (.int .u8 0) 1 1 Tryz.underlying63 hi hz0 hz1 hz2 rfl (by decide) _ _ _ rfl (hown.alloc _) ⟨V.heap.size,0,none⟩ 1 1 [.int .u8 48] rfl rfl HNW1.out (by simp[Value.oneCell']) (by unfold maxLen;omega) (by omega) (by simp;omega) ?_);intro v1 x1 hown1 hgrow1 hblk1;have hR1:Row x1 w1.heap.size 63 #[.slice gu 3 cu]:=(hgrow1.block _ (by simp;omega) (fun e=>hne e.symm)).trans (h2.alloc _);have hD1:Row x1 (w1.heap.size+1) 125 boxD:=(hgrow1.block _ (by simp;omega) (fun e=>(row_ne hown hD (by decide)) e.symm)).trans (hD.alloc _);have hko1:KeepsOthers V x1:=(KeepsOthers.alloc V _).trans (KeepsOthers.of_grownBy hgrow1 (fun j o hj ho=>owns_cells (hown.alloc _) j o hj ho));have hk1:Kept (fun k=>k<V.heap.size/\¬ (k=w1.heap.size\/(Value.slice gu 3 cu).ownBlock=some k)) V x1:=((Kept.refl _ V).alloc (fun k hk=>hk.1) _).grown hgrow1 (fun k hk=>by have:=hk.1;simp;omega) (fun r e hr=>hr.2 (.inr e));obtain⟨g1,k1,rfl⟩:=owns_form hown1;have cB1:=hR1.cell (i:=0) (v:=.slice gu 3 cu) rfl;have fB1:=hR1.frozen 0;have hr1:=hR1.set 0 (.slice g1 (3+1) k1);have hne1:(Value.slice g1 (3+1) k1).ownBlock≠some w1.heap.size:=row_ne hown1 hR1 (by decide);have hs1:=hk1.size;clear cB HNW1;gi_wp2;refine⟨(hko1.trans (KeepsOthers.setCell _ _ _)).from _,hk1.setCell (p:=⟨w1.heap.size,0,none⟩) (fun h=>h.2 (.inl rfl)) _,_,.slice g1 (3+1) k1,?_,by simpa using hr1,hD1.off 0 _ (by omega),?_,rfl⟩
   ·exact(h1.trans (hk1.mono (fun k hk=>⟨by omega,by
     rintro(h|h)
     ·omega
     ·have:=(hown.lt k h).1;omega⟩)|>.below (fun k hk=>hk))).setCell (p:=⟨w1.heap.size,0,none⟩) (by show w.heap.size<=w1.heap.size;omega) _
   ·exact owns_kept hown1 ((Kept.refl (fun k=>k≠w1.heap.size) x1).setCell (p:=⟨w1.heap.size,0,none⟩) (by simp) (.slice g1 (3+1) k1)) (fun k hk e=>hne1 (e ▸ hk))
  ·have hown:V.ownsRow w.heap.size 5 1 v 4 [.int .u8 48,.int .u8 46,.int .u8 48,.int .u8 48]:=h3;obtain⟨gu,cu,rfl⟩:=owns_form hown;have cB:=h2.cell (i:=0) (v:=.slice gu 4 cu) rfl;have hne:=row_ne hown h2 (by decide);have hblt:=h2.lt;have hdlt:=hD.lt;have hVs:=h1.size;have HNW1:Hid (∀(j:Nat) (u:Value),([.int .u8 53]:List Value)[j]? = some u->(V.alloc (.cells #[.int .u8 53] 5)).cell? ((⟨V.heap.size,0,none⟩:Addr).add j)=some u):=by intro j u hu;have hR:=Row.new V 5 #[.int .u8 53];have h:=hR.cell (i:=j) (v:=u) (by simpa using hu);rw[Go.WideShapes.add_plain];simpa using h
   have hsz1:w.heap.size<=V.heap.size:=by omega
   gi_wp2_with (gi_at_builtin;refine wpListIn_append_own2 _ rfl (.tmp 34) (.tmp 36) 63 rfl w.heap.size 5 i0 (.int .u8 0) 1 1 Tryz.underlying63 hi hz0 hz1 hz2 rfl (by decide) _ _ _ rfl (hown.alloc _) ⟨V.heap.size,0,none⟩ 1 1 [.int .u8 53] rfl rfl HNW1.out (by simp[Value.oneCell']) (by unfold maxLen;omega) (by omega) (by simp;omega) ?_);intro v1 x1 hown1 hgrow1 hblk1;have hR1:Row x1 w1.heap.size 63 #[.slice gu 4 cu]:=(hgrow1.block _ (by simp;omega) (fun e=>hne e.symm)).trans (h2.alloc _);have hD1:Row x1 (w1.heap.size+1) 125 boxD:=(hgrow1.block _ (by simp;omega) (fun e=>(row_ne hown hD (by decide)) e.symm)).trans (hD.alloc _);have hko1:KeepsOthers V x1:=(KeepsOthers.alloc V _).trans (KeepsOthers.of_grownBy hgrow1 (fun j o hj ho=>owns_cells (hown.alloc _) j o hj ho));have hk1:Kept (fun k=>k<V.heap.size/\¬ (k=w1.heap.size\/(Value.slice gu 4 cu).ownBlock=some k)) V x1:=((Kept.refl _ V).alloc (fun k hk=>hk.1) _).grown hgrow1 (fun k hk=>by have:=hk.1;simp;omega) (fun r e hr=>hr.2 (.inr e));obtain⟨g1,k1,rfl⟩:=owns_form hown1;have cB1:=hR1.cell (i:=0) (v:=.slice gu 4 cu) rfl;have fB1:=hR1.frozen 0;have hr1:=hR1.set 0 (.slice g1 (4+1) k1);have hne1:(Value.slice g1 (4+1) k1).ownBlock≠some w1.heap.size:=row_ne hown1 hR1 (by decide);have hs1:=hk1.size;clear cB HNW1;gi_wp2;refine⟨(hko1.trans (KeepsOthers.setCell _ _ _)).from _,hk1.setCell (p:=⟨w1.heap.size,0,none⟩) (fun h=>h.2 (.inl rfl)) _,_,.slice g1 (4+1) k1,?_,by simpa using hr1,hD1.off 0 _ (by omega),?_,rfl⟩
   ·exact(h1.trans (hk1.mono (fun k hk=>⟨by omega,by
     rintro(h|h)
     ·omega
     ·have:=(hown.lt k h).1;omega⟩)|>.below (fun k hk=>hk))).setCell (p:=⟨w1.heap.size,0,none⟩) (by show w.heap.size<=w1.heap.size;omega) _
   ·exact owns_kept hown1 ((Kept.refl (fun k=>k≠w1.heap.size) x1).setCell (p:=⟨w1.heap.size,0,none⟩) (by simp) (.slice g1 (4+1) k1)) (fun k hk e=>hne1 (e ▸ hk))
 case done =>
  rintro D ys own W hD rfl ⟨v,h1,h2,_,h3,h5⟩ hK;have hown:W.ownsRow w.heap.size 5 1 v 5 [.int .u8 48,.int .u8 46,.int .u8 48,.int .u8 48,.int .u8 53]:=h3;rcases hown.2 with ⟨_,hx⟩|⟨g,cap,cur,rfl,_⟩
  ·cases hx
  ·have hcv:(convert 63 9 (.slice (some ⟨g,0,none⟩) 5 cap)).run Tryz.prog W=.ok (.string ⟨#[48,46,48,48,53]⟩) W:=by
    have:=run_convert_bytes_arg (P:=Tryz.prog) W 63 5 Tryz.underlying63 Tryz.underlying5 g 0 5 cap [48,46,48,48,53] rfl (fun i hi=>by
     rw[Nat.zero_add,hown.cellAt i (by omega)];have:i=0\/i=1\/i=2\/i=3\/i=4:=by omega
     rcases this with rfl|rfl|rfl|rfl|rfl<;>rfl) 9 Tryz.underlying9
    rw[show strOfNums ([48,46,48,48,53]:List Int)=⟨#[48,46,48,48,53]⟩ by rfl] at this;exact this
   have cB:=h2.cell (i:=0) (v:=.slice (some ⟨g,0,none⟩) 5 cap) rfl;have hBe:Below w.heap.size w (W.putObj D (.deferred none)):=h1.trans ((Kept.putObj (S:=fun k=>k<w.heap.size) W D (.deferred none) (by show ¬ D<_;omega)).below (fun _ h=>h));clear h3 hown h5;gi_wp2;refine⟨by simp,.inl ⟨_,_,rfl,run_takeDeferred hK,?_⟩⟩;exact⟨_,results_tmp rfl _ _ _,rfl,hBe⟩
theorem print5 (w:World):Calls Tryz.prog 77 #[dv 5 (-3)] w fun e w'=>e=.returned (.string ⟨#[48,46,48,48,53]⟩)∧Below w.heap.size w w':=callsIn_wide.1 (print5_in w)
end Go.Proofs.YtoncpcdepemlcaaGreatDoor
namespace Go.Proofs.YtoncpcdepemlcaaGreatDoor
open Go.RowKit
theorem dec_fix (c e:Int) (h0:c≠0) (h:c.natAbs % 10≠0\/18<=e):decW c e=⟨decide (c<0),c.natAbs,e⟩:=by
 unfold decW shortW numW;rw[if_neg (by simp;omega),strip_fix c.natAbs e h]
theorem tellW_fix (neg:Bool) (n:Nat) (e:Int) (h0:n≠0) (h:n % 10≠0\/e=18) (hb:n<=9223372036854775807) (h1 : -18<=e) (h2:e<=18):tellW neg n e=some (if neg then -(n:Int) else n,e):=by
 unfold tellW;rw[if_neg h0,strip_fix n e (by omega)];have hr:raise (n,e)=(n,e):=by unfold raise;rw[if_neg (by simp only;omega)]
 rw[hr,if_pos ⟨by simp only;omega,h1⟩]
theorem two_ok (e e2:Int) (o:Option Wd) (h:within e) (h2:within e2):twoV e e2 o=decV (toldW o):=by unfold twoV;rw[if_pos ⟨h,h2⟩]
theorem w0:within 0:=⟨by decide,by decide⟩
theorem w1':within (-1):=⟨by decide,by decide⟩
theorem al_print (w:World):Calls Tryz.prog 77 #[.agg #[.int .i64 5,.int .i64 (-3)]] w fun e w'=>e=.returned (.string ⟨#[48,46,48,48,53]⟩)∧Below w.heap.size w w':=print5 w
set_option maxRecDepth 100000
set_option maxHeartbeats 400000
open Go.RowKit
def rightB (p q : Int) : Bool := if p = 0 then decide (q = 0) else decide (-18 ≤ q ∧ q ≤ 18) && (decide (p % 10 ≠ 0) || decide (q = 18))
theorem tmod_dec (p:Int):decide (p % 10≠0)=(Int.tmod p 10 != 0):=by
 have h:p % 10=0↔Int.tmod p 10=0:=⟨fun h=>Int.tmod_eq_zero_of_dvd (Int.dvd_of_emod_eq_zero h),fun h=>Int.emod_eq_zero_of_dvd (Int.dvd_of_tmod_eq_zero h)⟩;by_cases h1:Int.tmod p 10=0
 ·rw[decide_eq_false (by simpa using h.2 h1),h1];rfl
 ·rw[decide_eq_true (show p % 10≠0 from fun e=>h1 (h.1 e))];simp[h1]
theorem tmod_wrap (p:Int):wrap64 (Int.tmod p 10)=Int.tmod p 10:=by
 have e1:=Int.natAbs_tmod p 10;have e2:(Int.tmod p 10).natAbs<10:=by rw[e1];exact Nat.mod_lt _ (by decide)
 unfold wrap64;omega
theorem right_any (p q:Int) (hp:I64 p) (w:World):Calls Tryz.prog 42 #[.agg #[.int .i64 p,.int .i64 q]] w fun r w'=>r=.returned (.bool (rightB p q))/\Below w.heap.size w w':=by
 have hb0:∀o,Below w.heap.size w (w.alloc o):=fun o=>(Below.refl _ w).alloc (Nat.le_refl _) _;have hp1:=hp.1;have hp2:=hp.2;unfold rightB;by_cases h0:p=0
 ·subst h0;rw[if_pos rfl];clear hp hp1 hp2;by_cases hq:q=0
  ·subst hq;go_enter Tryz.func42,Tryz.ntmps42;go_wp2;go_ret;exact⟨rfl,hb0 _⟩
  ·have hq2:(q==0)=false:=by simpa using hq
   rw[decide_eq_false hq];go_enter Tryz.func42,Tryz.ntmps42;go_wp2;go_ret;exact⟨by first|rfl|simp[hq2],hb0 _⟩
 ·rw[if_neg h0,tmod_dec];have HI:∀b,decide (-18<=q/\q<=18)=b->Hid (decide (-18<=q/\q<=18)=b):=fun _ h=>h;have ht:=tmod_wrap p;clear hp;cases hw:decide (-18<=q/\q<=18) with
  | false =>
   have HI:=HI _ hw;clear hw;go_enter Tryz.func42,Tryz.ntmps42;go_wp2_with (go_at_call 74;refine(within_any _ _).mono ?_;rintro _ w10 ⟨rfl,hw10⟩;rw[hw10,HI.out];clear hw10 w10);go_ret;exact⟨rfl,hb0 _⟩
  | true =>
   have HI:=HI _ hw;clear hw;by_cases h1:Int.tmod p 10=0
   ·by_cases h2:q=18
    ·subst h2;rw[h1];go_enter Tryz.func42,Tryz.ntmps42;go_wp2_with (go_at_call 74;refine(within_any _ _).mono ?_;rintro _ w10 ⟨rfl,hw10⟩;rw[hw10,HI.out];clear hw10 w10);go_ret;exact⟨by first|rfl|simp,hb0 _⟩
    ·have h3:(q==18)=false:=by simpa using h2
     rw[h1,decide_eq_false h2];go_enter Tryz.func42,Tryz.ntmps42;go_wp2_with (go_at_call 74;refine(within_any _ _).mono ?_;rintro _ w10 ⟨rfl,hw10⟩;rw[hw10,HI.out];clear hw10 w10);go_ret;exact⟨by first|rfl|simp[h3],hb0 _⟩
   ·have h3:(Int.tmod p 10 != 0)=true:=by simpa using h1
    have h4:(wrap64 (Int.tmod p 10) != 0)=true:=by rw[ht];exact h3
    rw[h3];go_enter Tryz.func42,Tryz.ntmps42;go_wp2_with (go_at_call 74;refine(within_any _ _).mono ?_;rintro _ w10 ⟨rfl,hw10⟩;rw[hw10,HI.out];clear hw10 w10);go_ret;exact⟨by first|rfl|simp,hb0 _⟩
def Rt (p q : Int) : Prop := p % 10 ≠ 0 ∨ (q = 18 ∧ p ≠ 0) ∨ (p = 0 ∧ q = 0)
theorem tell_rt {c e C E:Int} (h:tell c e=some (C,E)):Rt C E:=by
 obtain⟨_,_,_,_,h5,h6,_⟩:=tell_some h;unfold Rt;by_cases h0:C=0
 ·have hc:=h6.2 h0;subst hc;have:(C,E)=(0,0):=by simpa [tell,tellW_zero] using h.symm
  cases this;exact .inr (.inr ⟨rfl,rfl⟩)
 ·omega
theorem right_rt {p q:Int} (hq:within q) (hr:Rt p q):rightB p q=true:=by
 unfold rightB;have h1 : -18<=q/\q<=18:=hq;unfold Rt at hr;by_cases h0:p=0
 ·rw[if_pos h0];exact decide_eq_true (by omega)
 ·rw[if_neg h0,decide_eq_true h1];by_cases h2:p % 10≠0
  ·rw[decide_eq_true h2];rfl
  ·rw[decide_eq_true (show q=18 by omega)];simp
theorem right_ok (p q:Int) (hp:I64 p) (hq:within q) (hr:Rt p q) (w:World):Calls Tryz.prog 42 #[.agg #[.int .i64 p,.int .i64 q]] w fun r w'=>r=.returned (.bool true)/\Below w.heap.size w w':=by
 have:=right_any p q hp w;rw[right_rt hq hr] at this;exact this
theorem sign_ok (c e:Int) (hc:I64 c) (he:within e) (w:World):Calls Tryz.prog 48 #[.agg #[.int .i64 c,.int .i64 e]] w fun r w'=>r=.returned (.int .i64 (sgW (decW c e)))/\Below w.heap.size w w':=by
 have hT:=fun K w (hK:Row w K 38 #[.int .i64 c,.int .i64 e])=>taken1 c e K w hc he hK;have hs:=sign_W (decW c e);simp only[Wd.val_eq] at hs;obtain⟨y0,y1,y2,y3,hy⟩:∃y0 y1 y2 y3,(decW c e).cells=#[y0,y1,y2,y3]:=⟨_,_,_,_,rfl⟩;simp only[hy] at hT hs;generalize sgW (decW c e)=sg at *;clear hy;go_enter Tryz.func48,Tryz.ntmps48;go_wp2_with fail;have hK:=Row.new1 w (.cells #[.int .i64 c,.int .i64 e] 38) 38 #[.int .i64 c,.int .i64 e];refine(hT _ _ hK).mono ?_;rintro _ W ⟨h1,G,hG,rfl,hR⟩;obtain⟨_,_,hB⟩:=two_rows w W _ _ _ _ h1;obtain⟨x0,x1,x2,x3⟩:=hR.four;clear h1 hG hK hT;go_wp2_with fail;refine(hs _).mono ?_;rintro _ W2 ⟨rfl,h2⟩;go_wp2;go_ret;exact⟨rfl,hB.trans (h2.mono hB.size)⟩
theorem told_fact2 (X m:Int):∃p q v,decV (tell X m)=.tuple #[.agg #[.int .i64 p,.int .i64 q],.int .i64 v]/\(v=0->I64 p/\within q/\Rt p q/\tell X m=some (p,q)):=by
 cases h:tell X m with
 | none=>exact⟨0,0,30,rfl,fun h=>by omega⟩
 | some d =>
  obtain⟨C,E⟩:=d;obtain⟨h1,h2,h3,h4,h5,h6,h7⟩:=tell_some h;exact⟨C,E,0,rfl,fun _=>⟨⟨h3,h4⟩,⟨h1,h2⟩,tell_rt h,rfl⟩⟩
theorem VW_dec' (c e:Int) (he:within e):V (-18) (sc (decW c e)) (decW c e).e=V (-18) c e:=sc_dec (-18) c e he.1
def D2 (p q : Int) : Value := .agg #[.int .i64 p, .int .i64 q]
theorem mul_two (c e c2 e2:Int) (hc:I64 c) (hc2:I64 c2):∃p q v,(∀w,Calls Tryz.prog 82 #[D2 c e,D2 c2 e2] w fun r w'=>r=.returned (.tuple #[D2 p q,.int .i64 v])/\Below w.heap.size w w')/\(∀w,Calls Tryz.prog 82 #[D2 c2 e2,D2 c e] w fun r w'=>r=.returned (.tuple #[D2 p q,.int .i64 v])/\Below w.heap.size w w')/\(v=0->within e/\within e2/\I64 p/\within q/\Rt p q/\V (-36) p q=V (-18) c e*V (-18) c2 e2):=by
 by_cases hw:within e/\within e2
 ·obtain⟨he,he2⟩:=hw;obtain⟨p,q,v,h1,h2⟩:=told_fact2 (V (-18) c e*V (-18) c2 e2) (-36);refine⟨p,q,v,fun w => ?_,fun w => ?_,fun hv => ?_⟩
  ·have h:=mul_any c e c2 e2 hc hc2 w;rw[two_ok _ _ _ he he2,told_prod _ _ (sh_dec c e he.1 he.2 hc.1 hc.2) (sh_dec c2 e2 he2.1 he2.2 hc2.1 hc2.2),VW_dec' c e he,VW_dec' c2 e2 he2,h1] at h;exact h
  ·have h:=mul_any c2 e2 c e hc2 hc w;rw[two_ok _ _ _ he2 he,told_prod _ _ (sh_dec c2 e2 he2.1 he2.2 hc2.1 hc2.2) (sh_dec c e he.1 he.2 hc.1 hc.2),VW_dec' c e he,VW_dec' c2 e2 he2,Int.mul_comm,h1] at h;exact h
  ·obtain⟨i1,i2,i3,i4⟩:=h2 hv;refine⟨he,he2,i1,i2,i3,?_⟩;obtain⟨_,_,_,_,_,_,h7⟩:=tell_some i4;rw[h7 (-36) (Int.le_refl _) (by have:=i2.1;omega)];simp[V]
 ·refine⟨0,0,1,fun w => ?_,fun w => ?_,fun hv=>by omega⟩
  ·have h:=mul_any c e c2 e2 hc hc2 w;unfold twoV at h;rw[if_neg (fun x=>hw ⟨x.1,x.2⟩)] at h;exact h
  ·have h:=mul_any c2 e2 c e hc2 hc w;unfold twoV at h;rw[if_neg (fun x=>hw ⟨x.2,x.1⟩)] at h;exact h
set_option maxHeartbeats 600000
theorem neg_ok (c e:Int) (hc:I64 c) (he:within e) (w:World):Calls Tryz.prog 81 #[dv c e] w fun r w'=>r=.returned (decV (tell (-V (-18) c e) (-18)))/\Below w.heap.size w w':=by
 have hT:=fun K w (hK:Row w K 38 #[.int .i64 c,.int .i64 e])=>taken1 c e K w hc he hK;obtain⟨b1,b2,b3,b4⟩:=dec_bounds hc he;have hs:=turned_W (decW c e);have hTD:=told_true (turnW (decW c e)) b2 b4.2 b4.1;have hv:tellW (turnW (decW c e)).neg (turnW (decW c e)).n (turnW (decW c e)).e=tell (-V (-18) c e) (-18):=by rw[<-tell_sc,sc_turn,show (turnW (decW c e)).e=(decW c e).e from rfl,<-tell_V (-18) _ _ (sh_dec c e he.1 he.2 hc.1 hc.2).lo,V_neg,VW_dec' c e he]
 rw[hv] at hTD;obtain⟨p,q,v,hdv⟩:=decV_form (tell (-V (-18) c e) (-18));rw[hdv] at hTD ⊢;clear hdv hv b1 b2 b3 b4;simp only[Wd.val_eq] at hs hTD;obtain⟨y0,y1,y2,y3,hy⟩:∃y0 y1 y2 y3,(decW c e).cells=#[y0,y1,y2,y3]:=⟨_,_,_,_,rfl⟩;obtain⟨z0,z1,z2,z3,hz⟩:∃y0 y1 y2 y3,(turnW (decW c e)).cells=#[y0,y1,y2,y3]:=⟨_,_,_,_,rfl⟩;simp only[hy,hz] at hT hs hTD;clear hy hz hc he;unfold dv;go_enter Tryz.func81,Tryz.ntmps81;go_wp2_with fail;obtain⟨_,_,hK,_⟩:=three_rows w _ _ _ _ 38 38 38 (Below.refl _ (((w.alloc (.cells #[.int .i64 c,.int .i64 e] 38)).alloc (.cells #[.int .i64 0,.int .i64 0] 38)).alloc (.cells #[.int .i64 c,.int .i64 e] 38)));refine(hT _ _ hK).mono ?_;rintro _ W ⟨h1,G,hG,rfl,hR⟩;obtain⟨_,hZ,_,hB⟩:=three_rows w W _ _ _ _ _ _ h1;obtain⟨x0,x1,x2,x3⟩:=hR.four;clear h1 hG hK hT;go_wp2_with fail;refine(hs _).mono ?_;rintro _ W2 ⟨rfl,h2⟩;have hZ:=hZ.below h2 hZ.lt;have hB:=hB.trans (h2.mono hB.size);clear h2 hs x0 x1 x2 x3;go_wp2_with fail;refine(hTD _).mono ?_;rintro _ W3 ⟨rfl,h3⟩;have hZ:=hZ.below h3 hZ.lt;have hB:=hB.trans (h3.mono hB.size);obtain⟨d0,d1⟩:=hZ.duo;have z:=hZ.frozen;clear h3 hTD;go_wp2;refine bodyPost_ret (ret_two rfl (g:=w.heap.size+1) rfl rfl (load23 (Row.set2 hZ _ _) rfl)) rfl ⟨rfl,?_⟩;repeat (refine below_set ?_ _ _ (by omega))
 exact hB
theorem neg_bad (c e:Int) (he:¬ within e) (w:World):Calls Tryz.prog 81 #[dv c e] w fun r w'=>r=.returned argV/\Below w.heap.size w w':=by
 unfold argV dv;go_enter Tryz.func81,Tryz.ntmps81;go_wp2_with fail;obtain⟨_,_,hK,_⟩:=three_rows w _ _ _ _ 38 38 38 (Below.refl _ (((w.alloc (.cells #[.int .i64 c,.int .i64 e] 38)).alloc (.cells #[.int .i64 0,.int .i64 0] 38)).alloc (.cells #[.int .i64 c,.int .i64 e] 38)));refine(taken1_bad c e _ _ he hK).mono ?_;rintro _ w1 ⟨h1,rfl⟩;obtain⟨_,hZ,_,hB⟩:=three_rows w w1 _ _ _ _ _ _ h1;obtain⟨d0,d1⟩:=hZ.duo;have z:=hZ.frozen;clear h1;go_wp2;refine bodyPost_ret (ret_two rfl (g:=w.heap.size+1) rfl rfl (load23 (Row.set2 hZ _ _) rfl)) rfl ⟨rfl,?_⟩;repeat (refine below_set ?_ _ _ (by omega))
 exact hB
set_option maxHeartbeats 1200000
theorem sign_bad (c e:Int) (he:¬ within e) (w:World):Calls Tryz.prog 48 #[.agg #[.int .i64 c,.int .i64 e]] w fun r w'=>r=.returned (.int .i64 0)/\Below w.heap.size w w':=by
 have hK:=Row.new1 w (.cells #[.int .i64 c,.int .i64 e] 38) 38 #[.int .i64 c,.int .i64 e];have hT:=taken1_bad c e _ _ he hK;clear he;go_enter Tryz.func48,Tryz.ntmps48;go_wp2_with fail;refine hT.mono ?_;rintro _ w1 ⟨h1,rfl⟩;obtain⟨_,_,hB⟩:=two_rows w w1 _ _ _ _ h1;clear h1 hT hK;go_wp2;go_ret;exact⟨rfl,hB⟩
theorem psign_any (c e:Int) (hc:I64 c) (w:World):Calls Tryz.prog 48 #[.agg #[.int .i64 c,.int .i64 e]] w fun r w'=>r=.returned (.int .i64 (if -18<=e/\e<=18 then (V (-18) c e).sign else 0))/\Below w.heap.size w w':=by
 by_cases h : -18<=e/\e<=18
 ·rw[if_pos h];have h1:within e:=h;have:=sign_ok c e hc h1 w;rw[<-VW_sign] at this;unfold VW at this;rw[VW_dec' c e h1] at this;exact this
 ·rw[if_neg h];exact sign_bad c e h w
end Go.Proofs.YtoncpcdepemlcaaGreatDoor
