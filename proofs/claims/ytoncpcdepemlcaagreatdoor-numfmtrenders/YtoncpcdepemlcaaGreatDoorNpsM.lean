import Derived.Test.YtoncpcdepemlcaaGreatDoorNit
import Derived.Test.YtoncpcdepemlcaaGreatDoorNpuM
import Derived.Test.YtoncpcdepemlcaaGreatDoorDpaM
import Derived.Test.YtoncpcdepemlcaaGreatDoorWdgM
import Derived.Test.YtoncpcdepemlcaaGreatDoorNscM
import Derived.Test.YtoncpcdepemlcaaGreatDoorCox
namespace Go.Proofs.YtoncpcdepemlcaaGreatDoor
set_option maxRecDepth 100000
set_option maxHeartbeats 4000000
open Go.RowKit Go.Shelf
attribute [local go_sem] Oper.semAt_some
theorem Tryz.info33:(Tryz.prog.info? 33).map (fun i=>(i.zero,i.size,i.bytes))=some (some (.agg (sec0 false).cells),11,96):=by kernel_rfl
def flatS (xs : List Sec) : List Value := xs.flatMap (fun x => x.cells.toList)
def bigS (x : Sec) : Bool := decide ((20 : Int) < (x.wh : Int)) || (decide ((18 : Int) < (x.pa : Int)) || decide ((4 : Int) < (x.pc : Int)))
def genL : List UInt8 := [71, 101, 110, 101, 114, 97, 108]
def parseS (l : List UInt8) : List Sec × Int :=
  if 64 < l.length then ([], 3) else if l = genL then ([], 0) else if visB l = false then ([], 40) else
  if (secsL 4 l).all (·.2) then (if (secsL 4 l).any (fun y => bigS y.1) then ([], 3) else ((secsL 4 l).map (·.1), 0)) else ([], 40)
theorem flat_snoc (xs:List Sec) (x:Sec):flatS (xs++[x])=flatS xs++x.cells.toList:=by unfold flatS;simp
theorem load22 {W:World} {B:Nat} {g:Option Addr} {n c:Nat} (h:Row W B 22 #[.slice g n c]):(loadVar 22 ⟨B,0,none⟩).run Tryz.prog W=.ok (.slice g n c) W:=by
 have c0:=h.cell (i:=0) (v:=.slice g n c) rfl;go_simp
def ParseR (l : List UInt8) (w : World) (r : Ending) (w' : World) : Prop :=
  ∃ v, r = .returned (.tuple #[v, .int .i64 (parseS l).2]) ∧ w'.ownsRow w.heap.size 33 11 v (parseS l).1.length (flatS (parseS l).1) ∧ Below w.heap.size w w'
def PsI (l : List UInt8) (N : Nat) (w : World) (pre : List (Sec × Bool)) (own : Nat → Prop) (V : World) : Prop :=
  ∃ v, pre.all (·.2) = true ∧ Below N w V ∧ Row V N 22 #[.slice none 0 0] ∧ Row V (N + 1) 23 #[.int .i64 0] ∧ Row V (N + 2) 22 #[v] ∧ Row V (N + 3) 4 #[.bool (pre.any (fun y => bigS y.1))] ∧ Row V (N + 4) 9 #[.string (bs l)] ∧
    V.ownsRow N 33 11 v pre.length (flatS (pre.map (·.1))) ∧ own = fun k => (N ≤ k ∧ k ≤ N + 3) ∨ v.ownBlock = some k
def PsX (l : List UInt8) (N : Nat) (w : World) (c : Code) (V : World) : Prop :=
  c = .ret ∧ (secsL 4 l).all (·.2) = false ∧ Row V N 22 #[.slice none 0 0] ∧ Row V (N + 1) 23 #[.int .i64 40] ∧ Below N w V
theorem secs_most : ∀ k l, (secsL k l).length ≤ k + 1
  | 0, l => by simp [secsL]
  | k + 1, l => by
    rw [secsL]
    split
    · simp
    · have := secs_most k ((secP (k == 0) l).2.2.drop 1)
      rw [List.length_cons]
      omega
theorem nsecs_call (n:Nat) (l:List UInt8) (w:World):CallsIn Fence.wide n Tryz.prog 18 #[.string (bs l)] w fun e w'=>e=.returned (.func (.func 35) #[] #[.pointer (some ⟨w.heap.size,0,none⟩)])/\w'=w.alloc (.cells #[.string (bs l)] 9):=by
 refine callsIn_wide.2 ?_;go_enter Tryz.func18,Tryz.ntmps18;go_wp2;go_ret;exact⟨rfl,rfl⟩
theorem nparse_main (HL:LitsC) (l:List UInt8) (hl:l.length<=64) (hg:l≠genL) (hv:visB l=true) (w:World) (hM:MaxAt w) (h3:2<w.heap.size):CallsIn Fence.wide 8 Tryz.prog 6 #[.string (bs l)] w (ParseR l w):=by
 have hp:parseS l=if (secsL 4 l).all (·.2) then (if (secsL 4 l).any (fun y=>bigS y.1) then ([],3) else ((secsL 4 l).map (·.1),0)) else ([],40):=by unfold parseS;rw[if_neg (by omega),if_neg hg,if_neg (by rw[hv];decide)]
 have HP:Hid (parseS l=_):=hp;clear hp;have HV:∀ V,Hid (Calls Tryz.prog 17 #[.string (bs l)] V fun r w'=>r=.returned (.bool true)/\w'=V):=fun V=>by have:=nvisible_any l hl V;rw[hv] at this;exact this
 have hgl:((bs l).toList==[71,101,110,101,114,97,108])=false:=by rw[bs_toList,beq_eq_false_iff_ne];exact hg
 have hs64:¬ (64:Int)<((bs l).size:Int):=by rw[bs_size];omega
 have HSC:=fun W=>nsecs_call 7 l W;refine callsIn_of_wp_marks Tryz.func6 rfl trivial ?_ rfl;simp only[Tryz.ntmps6,List.size_toArray,List.length_cons,List.length_nil,Nat.reduceAdd,Nat.reduceSub,Array.replicate_succ,Array.replicate_zero,List.push_toArray,List.append_toArray,List.nil_append,List.cons_append];gi_wp2_with fail;refine⟨trivial,(callsIn_wide.2 (HV _).out).mono ?_⟩;rintro e w1 ⟨rfl,hw1⟩;rw[hw1];clear hw1 w1 HV;gi_wp2_with fail;refine⟨trivial,(HSC _).mono ?_⟩;rintro e w2 ⟨rfl,hw2⟩;rw[hw2];clear hw2 w2 HSC;gi_wp2_with fail;have r2:=((((Row.new w 22 #[.slice none 0 0]).alloc (.cells #[.int .i64 0] 23)).alloc (.cells #[.slice none 0 0] 22)).alloc (.cells #[.bool false] 4)).alloc (.cells #[.string (bs l)] 9);have r3:=(((Row.new1 w (.cells #[.slice none 0 0] 22) 23 #[.int .i64 0]).alloc (.cells #[.slice none 0 0] 22)).alloc (.cells #[.bool false] 4)).alloc (.cells #[.string (bs l)] 9);have r4:Row (((((w.alloc (.cells #[.slice none 0 0] 22)).alloc (.cells #[.int .i64 0] 23)).alloc (.cells #[.slice none 0 0] 22)).alloc (.cells #[.bool false] 4)).alloc (.cells #[.string (bs l)] 9)) (w.heap.size+2) 22 #[.slice none 0 0]:=by have:=((Row.new ((w.alloc (.cells #[.slice none 0 0] 22)).alloc (.cells #[.int .i64 0] 23)) 22 #[.slice none 0 0]).alloc (.cells #[.bool false] 4)).alloc (.cells #[.string (bs l)] 9);simpa using this
 have r5:Row (((((w.alloc (.cells #[.slice none 0 0] 22)).alloc (.cells #[.int .i64 0] 23)).alloc (.cells #[.slice none 0 0] 22)).alloc (.cells #[.bool false] 4)).alloc (.cells #[.string (bs l)] 9)) (w.heap.size+3) 4 #[.bool false]:=by have:=(Row.new (((w.alloc (.cells #[.slice none 0 0] 22)).alloc (.cells #[.int .i64 0] 23)).alloc (.cells #[.slice none 0 0] 22)) 4 #[.bool false]).alloc (.cells #[.string (bs l)] 9);simpa using this
 have r6:Row (((((w.alloc (.cells #[.slice none 0 0] 22)).alloc (.cells #[.int .i64 0] 23)).alloc (.cells #[.slice none 0 0] 22)).alloc (.cells #[.bool false] 4)).alloc (.cells #[.string (bs l)] 9)) (w.heap.size+4) 9 #[.string (bs l)]:=by have:=Row.new ((((w.alloc (.cells #[.slice none 0 0] 22)).alloc (.cells #[.int .i64 0] 23)).alloc (.cells #[.slice none 0 0] 22)).alloc (.cells #[.bool false] 4)) 9 #[.string (bs l)];simpa using this
 have hB0:Below w.heap.size w (((((w.alloc (.cells #[.slice none 0 0] 22)).alloc (.cells #[.int .i64 0] 23)).alloc (.cells #[.slice none 0 0] 22)).alloc (.cells #[.bool false] 4)).alloc (.cells #[.string (bs l)] 9)):=below_allocS (below_allocS (below_allocS (below_allocS (below_allocS (Below.refl _ w) (.cells #[.slice none 0 0] 22)) (.cells #[.int .i64 0] 23)) (.cells #[.slice none 0 0] 22)) (.cells #[.bool false] 4)) (.cells #[.string (bs l)] 9);have hs0:(((((w.alloc (.cells #[.slice none 0 0] 22)).alloc (.cells #[.int .i64 0] 23)).alloc (.cells #[.slice none 0 0] 22)).alloc (.cells #[.bool false] 4)).alloc (.cells #[.string (bs l)] 9)).heap.size=w.heap.size+5:=by simp
 have hM0:MaxAt (((((w.alloc (.cells #[.slice none 0 0] 22)).alloc (.cells #[.int .i64 0] 23)).alloc (.cells #[.slice none 0 0] 22)).alloc (.cells #[.bool false] 4)).alloc (.cells #[.string (bs l)] 9)):=hM.kept (Kept.of_below (S:=fun k=>k<w.heap.size) hB0 (fun _ h=>h)) h3;simp only[show w.heap.size+1+1=w.heap.size+2 from rfl,show w.heap.size+2+1=w.heap.size+3 from rfl,show w.heap.size+3+1=w.heap.size+4 from rfl];generalize hWW:((((w.alloc (.cells #[.slice none 0 0] 22)).alloc (.cells #[.int .i64 0] 23)).alloc (.cells #[.slice none 0 0] 22)).alloc (.cells #[.bool false] 4)).alloc (.cells #[.string (bs l)] 9)=W0 at *;clear hWW;have hseq:=nsecs_in HL 7 (by omega) (w.heap.size+4) l hl W0 r6 hM0 (by omega);have hmost:=secs_most 4 l;have hN2:2<w.heap.size:=h3;refine wpIn_range_ob rfl (by omega) (gf:=35) (lb:=#[.pointer (some ⟨w.heap.size+4,0,none⟩)]) rfl trivial (enters_of Tryz.func35 (by kernel_rfl) rfl) hseq (fun k h=>by rcases h with h|h<;>omega) (fun _=>rfl) (PsI l w.heap.size w) (PsX l w.heap.size w) (fun pre own V V' h hk=>by
  obtain⟨v,a1,a2,a3,a4,a5,a6,a7,a8,rfl⟩:=h;exact⟨v,a1,a2.trans ((hk.mono (T:=fun k=>k<w.heap.size) (fun k h=>.inr (by omega))).below (fun k h=>h)),a3.kept hk (.inr (by omega)),a4.kept hk (.inr (by omega)),a5.kept hk (.inr (by omega)),a6.kept hk (.inr (by omega)),a7.kept hk (.inr (by omega)),owns_kept a8 hk (fun k e=>.inl (.inr e)),rfl⟩) (fun pre own V k h hk=>by
  obtain⟨v,a1,a2,a3,a4,a5,a6,a7,a8,rfl⟩:=h;rcases hk with hk|hk
  ·have:=a6.lt;exact⟨by omega,by omega⟩
  ·have h8:=a8.lt k hk;refine⟨h8.2,?_⟩;rintro(e|e)
   ·omega
   ·exact row_ne a8 a7 (by decide) (e ▸ hk)) (fun c s A B row hs hg hr=>by
  obtain⟨y1,y2,y3,y4,y5⟩:=hs;exact⟨y1,y2,row_grownP y3 hg (fun r e=>(hr r e).2),row_grownP y4 hg (fun r e=>(hr r e).2),ownFrom_below (β := Unit) (Nat.le_refl _) hB0.size () A B row y5 hg hr⟩) ⟨_,.slice none 0 0,rfl,hB0,r2,r3,r4,r5,r6,World.ownsRow_nil _ _ _ _,rfl⟩ (fun x W=>{ tmps:=#[.string (bs l),undef,.pointer (some ⟨w.heap.size,0,none⟩),.pointer (some ⟨w.heap.size+1,0,none⟩),.pointer (some ⟨w.heap.size+2,0,none⟩),.pointer (some ⟨w.heap.size+3,0,none⟩),.pointer (some ⟨W.heap.size,0,none⟩),.bool x.2,.string (bs l),.int .i64 ((bs l).size:Int),.bool false,.string (bs l),.bool false,.string (bs l),.bool true,.bool false,.string (bs l),.func (.func 35) #[] #[.pointer (some ⟨w.heap.size+4,0,none⟩)],x.1.v,.bool x.2,undef,undef,undef,undef,undef,undef,undef,undef,undef,undef,undef,undef,undef,undef,undef,undef,undef,undef,undef,undef,undef,undef,undef,undef],defers:=[] }) (fun x W=>W.alloc (.cells x.1.cells 33)) (fun x W=>(Kept.refl _ W).alloc (fun k h=>h) _) ?assign ?body ?done ?stop
 case assign => intro lp x W K hK;obtain⟨⟨bf,af,wh,ze,pt,pa,pz,gr,pc,dg,tx⟩,ok⟩:=x;simp only[encS,Sec.v,Sec.cells] at hK ⊢;gi_wp2;exact hK
 case body =>
  rintro lp pre ⟨x,ok⟩ own W V hWs' hIW hIV hMild ⟨rest,hrest⟩;obtain⟨v,a1,a2,a3,a4,a5,a6,a7,a8,rfl⟩:=hIV;have hvW:∀k,v.ownBlock=some k->k<W.heap.size:=fun k hk=>by
   obtain⟨v',_,_,_,_,_,c6,_,c8,ho⟩:=hIW;have h1:(w.heap.size<=k/\k<=w.heap.size+3)\/v'.ownBlock=some k:=by rw[<-congrFun ho k];exact .inr hk
   rcases h1 with h1|h1
   ·have:=c6.lt;omega
   ·exact(c8.lt k h1).2
  clear hIW;have hone:Row V W.heap.size 33 x.cells:=hMild.row (Row.new W 33 _) (fun h=>h);have honeN:w.heap.size+5<=W.heap.size:=by omega
  have hprel:pre.length<=5:=by have:=congrArg List.length hrest;rw[List.length_append] at this;omega
  dsimp only;have HRE:Hid (secsL 4 l=pre++(x,ok)::rest):=hrest;clear hrest hMild hmost r2 r3 r4 r5 r6 hM0 hseq;unfold Sec.v;obtain⟨t0,t1,n2,n3,b4,n5,n6,b7,n8,b9,b10,hxc⟩:∃(t0 t1:ByteArray) (n2 n3:Int) (b4:Bool) (n5 n6:Int) (b7:Bool) (n8:Int) (b9 b10:Bool),(x.cells=#[.string t0,.string t1,.int .i64 n2,.int .i64 n3,.bool b4,.int .i64 n5,.int .i64 n6,.bool b7,.int .i64 n8,.bool b9,.bool b10]/\bigS x=(decide ((20:Int)<n2)||(decide ((18:Int)<n5)||decide ((4:Int)<n8)))):=⟨_,_,_,_,_,_,_,_,_,_,_,rfl,rfl⟩;obtain⟨hxc,hxb⟩:=hxc;have HXC:Hid (x.cells=#[.string t0,.string t1,.int .i64 n2,.int .i64 n3,.bool b4,.int .i64 n5,.int .i64 n6,.bool b7,.int .i64 n8,.bool b9,.bool b10]):=hxc;have HXB:Hid (bigS x=(decide ((20:Int)<n2)||(decide ((18:Int)<n5)||decide ((4:Int)<n8)))):=hxb;rw[hxc] at hone ⊢;clear hxc hxb;cases ok with
  | false =>
   have HNO:Hid ((secsL 4 l).all (·.2)=false):=by show _=_;rw[HRE.out];simp
   have c2:=a3.cell (i:=0) rfl;have c3:=a4.cell (i:=0) rfl;have z2:=a3.frozen;have z3:=a4.frozen;have l2:=a3.lt;have l3:=a4.lt;gi_wp2;exact⟨(keeps_set _ _ w.heap.size 0 (.slice none 0 0)).trans (keeps_set _ _ (w.heap.size+1) 0 (.int .i64 40)),rfl,HNO.out,(a3.set 0 (.slice none 0 0)).off (B':=w.heap.size+1) 0 (.int .i64 40) (by omega),(a4.off (B':=w.heap.size) 0 (.slice none 0 0) (by omega)).set 0 (.int .i64 40),below_set (below_set a2 (B:=w.heap.size) 0 (.slice none 0 0) (Nat.le_refl _)) (B:=w.heap.size+1) 0 (.int .i64 40) (by omega)⟩
  | true =>
   obtain⟨gu,cu,rfl⟩:=owns_form a8;obtain⟨i0,hi,hzz⟩:=Option.map_eq_some_iff.1 Tryz.info33;simp only[Prod.mk.injEq] at hzz;obtain⟨hz0,hz1,hz2⟩:=hzz;have HFL:Hid (flatS ((pre++[(x,true)]).map (·.1))=flatS (pre.map (·.1))++[.string t0,.string t1,.int .i64 n2,.int .i64 n3,.bool b4,.int .i64 n5,.int .i64 n6,.bool b7,.int .i64 n8,.bool b9,.bool b10]/\(pre++[(x,true)]).length=pre.length+1/\(pre++[(x,true)]).all (·.2)=true):=by refine⟨?_,by simp,by rw[List.all_append,a1];rfl⟩;rw[List.map_append];show flatS (pre.map (·.1)++[x])=_;rw[flat_snoc,HXC.out]
   have HBG:Hid ((pre++[(x,true)]).any (fun y=>bigS y.1)=(pre.any (fun y=>bigS y.1)||(decide ((20:Int)<n2)||(decide ((18:Int)<n5)||decide ((4:Int)<n8))))):=by show _=_;rw[List.any_append,<-HXB.out];simp
   generalize pre.any (fun y=>bigS y.1)=bg at *;generalize flatS (pre.map (·.1))=Z0 at *;generalize pre.length=L0 at *;have c4:=a5.cell (i:=0) rfl;have c5:=a6.cell (i:=0) rfl;obtain⟨o0,o1,o2,o3,o4,o5,o6,o7,o8,o9,o10⟩:=hone.sec;have hVs:w.heap.size<=V.heap.size:=a2.size;have hol:=hone.lt;have HNW:Hid (∀(j:Nat) (u:Value),([.string t0,.string t1,.int .i64 n2,.int .i64 n3,.bool b4,.int .i64 n5,.int .i64 n6,.bool b7,.int .i64 n8,.bool b9,.bool b10]:List Value)[j]? = some u->(V.alloc (.cells #[.string t0,.string t1,.int .i64 n2,.int .i64 n3,.bool b4,.int .i64 n5,.int .i64 n6,.bool b7,.int .i64 n8,.bool b9,.bool b10] 33)).cell? ((⟨V.heap.size,0,none⟩:Addr).add j)=some u):=by intro j u hu;have h:=(Row.new V 33 #[.string t0,.string t1,.int .i64 n2,.int .i64 n3,.bool b4,.int .i64 n5,.int .i64 n6,.bool b7,.int .i64 n8,.bool b9,.bool b10]).cell (i:=j) (v:=u) (by simpa using hu);rw[Go.WideShapes.add_plain];simpa using h
   have ne4:=row_ne a8 a5 (by decide);have ne5:=row_ne a8 a6 (by decide);have ne2:=row_ne a8 a3 (by decide);have ne3:=row_ne a8 a4 (by decide);have ne6:=row_ne a8 a7 (by decide);have hown:=a8.alloc (.cells #[.string t0,.string t1,.int .i64 n2,.int .i64 n3,.bool b4,.int .i64 n5,.int .i64 n6,.bool b7,.int .i64 n8,.bool b9,.bool b10] 33);gi_wp2_with (gi_at_builtin;refine wpListIn_append_own2 _ rfl (.tmp 22) (.tmp 24) 22 rfl w.heap.size 33 i0 _ 11 96 Tryz.underlying22 hi hz0 hz1 hz2 rfl (by decide) _ _ _ rfl hown ⟨V.heap.size,0,none⟩ 1 1 [.string t0,.string t1,.int .i64 n2,.int .i64 n3,.bool b4,.int .i64 n5,.int .i64 n6,.bool b7,.int .i64 n8,.bool b9,.bool b10] rfl rfl HNW.out (by simp[Value.oneCell']) (by unfold maxLen;omega) (by omega) (by simp;omega) ?_);intro v1 x1 hown1 hgrow1 hblk1;have q2:Row x1 w.heap.size 22 _:=(hgrow1.block _ (by simp;omega) (fun e=>ne2 e.symm)).trans (a3.alloc _);have q3:Row x1 (w.heap.size+1) 23 _:=(hgrow1.block _ (by simp;omega) (fun e=>ne3 e.symm)).trans (a4.alloc _);have q4:Row x1 (w.heap.size+2) 22 _:=(hgrow1.block _ (by simp;omega) (fun e=>ne4 e.symm)).trans (a5.alloc _);have q5:Row x1 (w.heap.size+3) 4 _:=(hgrow1.block _ (by simp;omega) (fun e=>ne5 e.symm)).trans (a6.alloc _);have q6:Row x1 (w.heap.size+4) 9 _:=(hgrow1.block _ (by simp;omega) (fun e=>ne6 e.symm)).trans (a7.alloc _);have qo:Row x1 W.heap.size 33 _:=(hgrow1.block _ (by simp;omega) (fun e=>by have:=hvW _ e.symm;omega)).trans (hone.alloc _);have hko1:KeepsOthers V x1:=(KeepsOthers.alloc V _).trans (KeepsOthers.of_grownBy hgrow1 (fun j o hj ho=>owns_cells hown j o hj ho));have hk1:Kept (fun k=>k<V.heap.size/\¬ ((w.heap.size<=k/\k<=w.heap.size+3)\/(Value.slice gu L0 cu).ownBlock=some k)) V x1:=((Kept.refl _ V).alloc (fun k hk=>hk.1) _).grown hgrow1 (fun k hk=>by have:=hk.1;simp;omega) (fun r e hr=>hr.2 (.inr e));have hBx:Below w.heap.size w x1:=a2.trans ((hk1.mono (T:=fun k=>k<w.heap.size) (fun k hk=>⟨by omega,by rintro(h|h);omega;have:=(a8.lt k h).1;omega⟩)).below (fun k hk=>hk));obtain⟨g1,k1,rfl⟩:=owns_form hown1;have hxs:=hk1.size;have nn4:=row_ne hown1 q4 (by decide);have nn5:=row_ne hown1 q5 (by decide);have HFIN:∀(bb:Bool) (ac:Act) (NB:Nat),Hid ((pre++[(x,true)]).any (fun y=>bigS y.1)=bb)->Hid (obPost NB (PsI l w.heap.size w) (PsX l w.heap.size w) (fun k=>(w.heap.size<=k/\k<=w.heap.size+3)\/(Value.slice gu L0 cu).ownBlock=some k) (pre++[(x,true)]) V .normal ac ((x1.setCell ⟨w.heap.size+2,0,none⟩ (.slice g1 (L0+1) k1)).setCell ⟨w.heap.size+3,0,none⟩ (.bool bb))):=fun bb ac NB hbb=>by
    have hS2:∀k,k≠w.heap.size+2/\k≠w.heap.size+3->True:=fun _ _=>trivial;have hkk:Kept (fun k=>k≠w.heap.size+2/\k≠w.heap.size+3) x1 ((x1.setCell ⟨w.heap.size+2,0,none⟩ (.slice g1 (L0+1) k1)).setCell ⟨w.heap.size+3,0,none⟩ (.bool bb)):=((Kept.refl _ x1).setCell (p:=⟨w.heap.size+2,0,none⟩) (fun h=>h.1 rfl) _).setCell (p:=⟨w.heap.size+3,0,none⟩) (fun h=>h.2 rfl) _;refine⟨((hko1.trans (KeepsOthers.setCell _ _ _)).trans (KeepsOthers.setCell _ _ _)).from _,(hk1.setCell (p:=⟨w.heap.size+2,0,none⟩) (fun h=>h.2 (.inl ⟨by show _<=w.heap.size+2;omega,by show w.heap.size+2<=_;omega⟩)) _).setCell (p:=⟨w.heap.size+3,0,none⟩) (fun h=>h.2 (.inl ⟨by show _<=w.heap.size+3;omega,Nat.le_refl _⟩)) _,_,⟨.slice g1 (L0+1) k1,HFL.out.2.2,?_,?_,?_,?_,?_,?_,?_,rfl⟩,?_⟩
    ·exact below_set (below_set hBx (B:=w.heap.size+2) 0 _ (by omega)) (B:=w.heap.size+3) 0 _ (by omega)
    ·exact q2.kept hkk ⟨by omega,by omega⟩
    ·exact q3.kept hkk ⟨by omega,by omega⟩
    ·exact(q4.set 0 (.slice g1 (L0+1) k1)).off (B':=w.heap.size+3) 0 _ (by omega)
    ·rw[hbb.out];exact(q5.off (B':=w.heap.size+2) 0 _ (by omega)).set 0 (.bool bb)
    ·exact q6.kept hkk ⟨by omega,by omega⟩
    ·rw[HFL.out.2.1,HFL.out.1];exact owns_kept hown1 hkk (fun k e=>⟨fun h=>nn4 (h ▸ e),fun h=>nn5 (h ▸ e)⟩)
    ·rintro k (h|h)
     ·exact .inl (.inl h)
     ·rcases hblk1 k h with h|h
      ·exact .inl (.inr h)
      ·exact .inr (by omega)
   clear a3 a4 a5 a6 a7 a8 hown1 hgrow1 hblk1 hk1 hBx hko1 q2 q3 q6 nn4 nn5 ne2 ne3 ne4 ne5 ne6 HNW hown HFL c4 c5 o0 o1 o2 o3 o4 o5 o6 o7 o8 o9 o10 hvW a2 a1;have c4:=q4.cell (i:=0) rfl;have z4:=q4.frozen;have l4:=q4.lt;have q5b:=q5.off (B':=w.heap.size+2) 0 (.slice g1 (L0+1) k1) (by omega);have qob:=qo.off (B':=w.heap.size+2) 0 (.slice g1 (L0+1) k1) (by omega);have c5:=q5b.cell (i:=0) rfl;have z5:=q5b.frozen;have l5:=q5b.lt;obtain⟨o0,o1,o2,o3,o4,o5,o6,o7,o8,o9,o10⟩:=qob.sec;clear o0 o1 o3 o4 o6 o7 o9 o10;cases bg with
   | true =>
    gi_wp2;exact(HFIN true _ _ (by show _=_;rw[HBG.out];rfl)).out
   | false =>
    by_cases g20:(20:Int)<n2
    ·have HB1:Hid ((pre++[(x,true)]).any (fun y=>bigS y.1)=true):=by show _=_;rw[HBG.out,decide_eq_true g20];rfl
     gi_wp2;exact(HFIN true _ _ HB1).out
    ·have d20:decide ((20:Int)<n2)=false:=decide_eq_false g20;by_cases g18:(18:Int)<n5
     ·have HB1:Hid ((pre++[(x,true)]).any (fun y=>bigS y.1)=true):=by show _=_;rw[HBG.out,d20,decide_eq_true g18];rfl
      gi_wp2;exact(HFIN true _ _ HB1).out
     ·have d18:decide ((18:Int)<n5)=false:=decide_eq_false g18;by_cases g4:(4:Int)<n8
      ·have HB1:Hid ((pre++[(x,true)]).any (fun y=>bigS y.1)=true):=by show _=_;rw[HBG.out,d20,d18,decide_eq_true g4];rfl
       gi_wp2;exact(HFIN true _ _ HB1).out
      ·have d4:decide ((4:Int)<n8)=false:=decide_eq_false g4;have HB1:Hid ((pre++[(x,true)]).any (fun y=>bigS y.1)=false):=by show _=_;rw[HBG.out,d20,d18,d4];rfl
       gi_wp2;exact(HFIN false _ _ HB1).out
 case stop =>
  rintro D c W hD ⟨rfl,s1,s2,s3,s4⟩ hK;have hp:parseS l=([],40):=by rw[HP.out,s1];rfl
  have HPP:Hid (parseS l=([],40)):=hp;have hBe:Below w.heap.size w (W.putObj D (.deferred none)):=s4.trans ((Kept.putObj (S:=fun k=>k<w.heap.size) W D (.deferred none) (by show ¬ D<_;have:=hB0.size;omega)).below (fun _ h=>h));clear hp;gi_wp2;refine⟨by simp,.inl ⟨_,_,rfl,run_takeDeferred hK,?_⟩⟩;exact⟨_,ret_cells rfl (g:=w.heap.size) (g2:=w.heap.size+1) rfl rfl (load22 (row_put s2 hK)) (loadE (row_put s3 hK)),.slice none 0 0,by rw[HPP.out],by rw[HPP.out];exact World.ownsRow_nil _ _ _ _,hBe⟩
 case done =>
  rintro D ys own W hD rfl ⟨v,a1,a2,a3,a4,a5,a6,a7,a8,rfl⟩ hnD hK;have hD1:w.heap.size+5<=D:=by omega
  have hBe:∀ V,Below w.heap.size w V->Below w.heap.size w (V.putObj D (.deferred none)):=fun V h=>h.trans ((Kept.putObj (S:=fun k=>k<w.heap.size) V D (.deferred none) (by show ¬ D<_;omega)).below (fun _ h=>h));obtain⟨gu,cu,rfl⟩:=owns_form a8;have ne2:=row_ne a8 a3 (by decide);have ne3:=row_ne a8 a4 (by decide);have neD:(Value.slice gu (secsL 4 l).length cu).ownBlock≠some D:=fun e=>hnD (.inr e);have HPP:Hid (parseS l=if (secsL 4 l).any (fun y=>bigS y.1) then ([],3) else ((secsL 4 l).map (·.1),0)):=by show _=_;rw[HP.out,a1];rfl
  have HLN:Hid (((secsL 4 l).map (·.1)).length=(secsL 4 l).length):=List.length_map ..;clear HP a1;generalize (secsL 4 l).any (fun y=>bigS y.1)=bg at *;generalize (secsL 4 l).length=L0 at *;have c2:=a3.cell (i:=0) rfl;have z2:=a3.frozen;have l2:=a3.lt;have c3:=a4.cell (i:=0) rfl;have z3:=a4.frozen;have l3:=a4.lt;have c4:=a5.cell (i:=0) rfl;have c5:=a6.cell (i:=0) rfl;cases bg with
  | true =>
   have HP2:Hid (parseS l=([],3)):=HPP;have k2:=(a3.set 0 (.slice none 0 0)).off (B':=w.heap.size+1) 0 (.int .i64 3) (by omega);have k3:=(a4.off (B':=w.heap.size) 0 (.slice none 0 0) (by omega)).set 0 (.int .i64 3);have k9:=below_set (below_set a2 (B:=w.heap.size) 0 (.slice none 0 0) (Nat.le_refl _)) (B:=w.heap.size+1) 0 (.int .i64 3) (by omega);have kK:((W.setCell ⟨w.heap.size,0,none⟩ (.slice none 0 0)).setCell ⟨w.heap.size+1,0,none⟩ (.int .i64 3)).heap[D]? = some (.deferred (some [])):=by rw[Below.heap_setCell _ _ _ _ (by show D≠w.heap.size+1;omega),Below.heap_setCell _ _ _ _ (by show D≠w.heap.size;omega)];exact hK
   clear HPP;gi_wp2;refine⟨by simp,.inl ⟨_,_,rfl,run_takeDeferred kK,?_⟩⟩;exact⟨_,ret_cells rfl (g:=w.heap.size) (g2:=w.heap.size+1) rfl rfl (load22 (row_put k2 kK)) (loadE (row_put k3 kK)),.slice none 0 0,by rw[HP2.out],by rw[HP2.out];exact World.ownsRow_nil _ _ _ _,hBe _ k9⟩
  | false =>
   have HP2:Hid (parseS l=((secsL 4 l).map (·.1),0)):=HPP;have k2:=(a3.set 0 (.slice gu L0 cu)).off (B':=w.heap.size+1) 0 (.int .i64 0) (by omega);have k3:=(a4.off (B':=w.heap.size) 0 (.slice gu L0 cu) (by omega)).set 0 (.int .i64 0);have k9:=below_set (below_set a2 (B:=w.heap.size) 0 (.slice gu L0 cu) (Nat.le_refl _)) (B:=w.heap.size+1) 0 (.int .i64 0) (by omega);have kK:((W.setCell ⟨w.heap.size,0,none⟩ (.slice gu L0 cu)).setCell ⟨w.heap.size+1,0,none⟩ (.int .i64 0)).heap[D]? = some (.deferred (some [])):=by rw[Below.heap_setCell _ _ _ _ (by show D≠w.heap.size+1;omega),Below.heap_setCell _ _ _ _ (by show D≠w.heap.size;omega)];exact hK
   have kO:=owns_kept a8 ((((Kept.refl (fun k=>k≠w.heap.size/\k≠w.heap.size+1/\k≠D) W).setCell (p:=⟨w.heap.size,0,none⟩) (fun h=>h.1 rfl) (.slice gu L0 cu)).setCell (p:=⟨w.heap.size+1,0,none⟩) (fun h=>h.2.1 rfl) (.int .i64 0)).trans (Kept.putObj (S:=fun k=>k≠w.heap.size/\k≠w.heap.size+1/\k≠D) _ D (.deferred none) (fun h=>h.2.2 rfl))) (fun k e=>⟨fun h=>ne2 (h ▸ e),fun h=>ne3 (h ▸ e),fun h=>neD (h ▸ e)⟩);clear HPP;gi_wp2;refine⟨by simp,.inl ⟨_,_,rfl,run_takeDeferred kK,?_⟩⟩;exact⟨_,ret_cells rfl (g:=w.heap.size) (g2:=w.heap.size+1) rfl rfl (load22 (row_put k2 kK)) (loadE (row_put k3 kK)),.slice gu L0 cu,by rw[HP2.out],by rw[HP2.out];rw[HLN.out];exact kO,hBe _ k9⟩
end Go.Proofs.YtoncpcdepemlcaaGreatDoor
namespace Go.Proofs.YtoncpcdepemlcaaGreatDoor
open Go.RowKit Go.Shelf
theorem lits_stop (tx : Bool) : ∀ (k : Nat) (l : List UInt8), l.length ≤ k → litStep tx (lits tx l).2.2 = none
  | 0, l, h => by
    obtain rfl : l = [] := List.length_eq_zero_iff.1 (by omega)
    cases tx <;> rfl
  | k + 1, l, h => by
    cases hs : litStep tx l with
    | none => rw [lits_none hs]; exact hs
    | some y =>
      obtain ⟨o, p, j⟩ := y
      have hj := litStep_len hs
      rw [lits_some hs]
      exact lits_stop tx k (l.drop j) (by rw [List.length_drop]; omega)
def SdO (l : List UInt8) (n : Nat) (b : Bool) (o : List UInt8) (n2 : Nat) (b2 : Bool) (p2 : Nat) : Prop :=
  (b = false → o = (lits false (l.drop n)).1 ∧ p2 = (lits false (l.drop n)).2.1 ∧ l.drop n2 = (lits false (l.drop n)).2.2 ∧ b2 = stuckB (atB l n2)) ∧ (b = true → o = [] ∧ p2 = 0 ∧ n2 = n ∧ b2 = true)
theorem side_c (R S:Nat) (l:List UInt8) (n:Nat) (b g:Bool) (x:Sec) (hn:n<=l.length) (hl:l.length<=64) (hne:R≠S) (hpc:x.pc<=100) (w:World) (hR:Rdr w R l n b g) (hS:Row w S 34 x.cells):Calls Tryz.prog 40 #[.pointer (some ⟨R,0,none⟩),.pointer (some ⟨S,0,none⟩)] w fun r w'=>∃(o:List UInt8) (n2:Nat) (b2:Bool) (p2:Nat),r=.returned (.string (bs o))/\Rdr w' R l n2 b2 g/\Row w' S 34 (SecC x p2)/\Kept (fun k=>k<w.heap.size/\k≠R/\k≠S) w w'/\n2<=l.length/\p2<=64/\SdO l n b o n2 b2 p2:=by
 cases b with
 | false =>
  refine(side_any R S l n g x hn hl hne hpc w hR hS).mono ?_;rintro r w' ⟨hr,h1,h2,h3⟩;have hd:=litE_drop false l n hn;have hp:=lits_len false (l.drop n);rw[List.length_drop] at hp;exact⟨_,_,_,_,hr,h1,h2,h3,hd.2.1,by omega,fun _=>⟨rfl,rfl,hd.1.symm,rfl⟩,fun h=>by cases h⟩
 | true =>
  refine(side_bad R S l n g w hR).mono ?_;rintro r w' ⟨hr,rfl⟩;exact⟨[],n,true,0,hr,hR,hS,Kept.refl _ _,hn,Nat.zero_le _,fun h=>(by cases h),fun _=>⟨rfl,rfl,rfl,rfl⟩⟩
def DgO (l : List UInt8) (n : Nat) (b : Bool) (x : Sec) (n2 : Nat) (b2 : Bool) (x2 : Sec) : Prop :=
  (b = true → b2 = true ∧ n2 = n ∧ x2 = x) ∧ (b = false → ((digP (l.drop n) x).1 = true → b2 = false ∧ x2 = (digP (l.drop n) x).2.1 ∧ l.drop n2 = (digP (l.drop n) x).2.2) ∧ ((digP (l.drop n) x).1 = false → b2 = true ∨ (b2 = false ∧ hdB 44 (l.drop n2) = true)))
theorem stuck_plc {c:UInt8} (h:stuckB c=true):plcB c=false:=by
 unfold stuckB at h;simp only[Bool.or_eq_true,decide_eq_true_eq] at h;rcases h with rfl|rfl<;>rfl
theorem dig_c (R S:Nat) (l:List UInt8) (n:Nat) (b g:Bool) (x:Sec) (hn:n<=l.length) (hl:l.length<=64) (hne:R≠S) (hst:b=true->stuckB (atB l n)=true) (hx:SecD x 0 0 false 0 0 false={ x with dg:=true }) (w:World) (hR:Rdr w R l n b g) (hS:Row w S 34 x.cells):Calls Tryz.prog 41 #[.pointer (some ⟨R,0,none⟩),.pointer (some ⟨S,0,none⟩)] w fun r w'=>r=.returned (.tuple #[])/\∃(n2:Nat) (b2:Bool) (x2:Sec),Rdr w' R l n2 b2 g/\Row w' S 34 x2.cells/\Kept (fun k=>k<w.heap.size/\k≠R/\k≠S) w w'/\n2<=l.length/\x2.pc=x.pc/\DgO l n b x n2 b2 x2:=by
 cases b with
 | true =>
  refine(digits_bad R S l n g w (stuck_plc (hst rfl)) hR).mono ?_;rintro r w' ⟨hr,k,rfl⟩;exact⟨hr,n,true,x,hR,hS,(Kept.refl _ _).dN k,hn,rfl,fun _=>⟨rfl,rfl,rfl⟩,fun h=>by cases h⟩
 | false =>
  have:Calls Tryz.prog 41 #[.pointer (some ⟨R,0,none⟩),.pointer (some ⟨S,0,none⟩)] w fun r w'=>r=.returned (.tuple #[])/\DgR R S l n g x w w':=by
   cases hp:plcB (atB l n) with
   | false=>exact digits_none R S l n g x w hn hp hR hS
   | true=>exact digits_some R S l n g x w hn hl hne hp hx hR hS
  refine this.mono ?_;rintro r w' ⟨hr,n2,b2,x2,h1,h2,h3,h4,h5,h6,h7⟩;exact⟨hr,n2,b2,x2,h1,h2,h3,h4,h5,fun h=>(by cases h),fun _=>⟨h6,h7⟩⟩
def okD (l : List UInt8) (n : Nat) (b : Bool) : Bool := !b && (decide (l.length ≤ n) || decide (atB l n = 59))
def okS (D : Sec × Bool × List UInt8) : Bool := D.2.1 && (Lib.hasPrefix D.2.2 [59] || decide (D.2.2 = []))
theorem okS_at {l:List UInt8} {n:Nat} {x:Sec} {ok:Bool}:okS (x,ok,l.drop n)=(ok&&(decide (l.length<=n)||decide (atB l n=59))):=by
 unfold okS;dsimp only;by_cases h:n<l.length
 ·rw[drop_at h,decide_eq_false (show ¬ l.length<=n by omega),decide_eq_false (by simp)];unfold Lib.hasPrefix;by_cases h2:atB l n=59
  ·rw[h2];rfl
  ·rw[decide_eq_false h2];simp[List.isPrefixOf,Ne.symm h2]
 ·rw[List.drop_eq_nil_of_le (by omega),decide_eq_true (show l.length<=n by omega)];simp
theorem stuck_not {l:List UInt8} {n:Nat} (h:stuckB (atB l n)=true):(decide (l.length<=n)||decide (atB l n=59))=false:=by
 have hlt:n<l.length:=at_pos (by intro e;rw[e] at h;cases h);rw[decide_eq_false (show ¬ l.length<=n by omega),decide_eq_false (by intro e;rw[e] at h;cases h)];rfl
def ScO (tx : Bool) (l : List UInt8) (n : Nat) (g : Bool) (n2 : Nat) (b2 g2 : Bool) (x2 : Sec) : Prop :=
  okD l n2 b2 = okS (secP tx (l.drop n)) ∧ (okS (secP tx (l.drop n)) = true → x2 = (secP tx (l.drop n)).1 ∧ l.drop n2 = (secP tx (l.drop n)).2.2) ∧ g2 = (g || bigS x2)
theorem sec_false {l:List UInt8} {n:Nat} {g:Bool} {o1:List UInt8} {n1:Nat} {b1:Bool} {p1:Nat} (h1:SdO l n false o1 n1 b1 p1) {n2:Nat} {b2:Bool} {x2:Sec} (h2:DgO l n1 b1 { sec0 false with bf:=o1,pc:=p1 } n2 b2 x2) {o3:List UInt8} {n3:Nat} {b3:Bool} {p3:Nat} (h3:SdO l n2 b2 o3 n3 b3 p3) {g3:Bool} {x3:Sec} (hx:x3={ x2 with af:=o3,pc:=x2.pc+p3 }) (hg:g3=(g||bigS x3)):ScO false l n g n3 b3 g3 x3:=by
 obtain⟨e1,e2,e3,e4⟩:=h1.1 rfl;refine⟨?_,?_,hg⟩
 ·cases b1 with
  | true =>
   obtain⟨f1,f2,f3⟩:=h2.1 rfl;obtain⟨i1,i2,i3,i4⟩:=h3.2 f1;unfold okD;rw[i4];have hst:=stuck_not e4.symm;unfold secP;simp only[Bool.false_eq_true,if_false];rw[<-e1,<-e2,<-e3];have hd:=digP_near (l.drop n1) { sec0 false with bf:=o1,pc:=p1 } (by rw[hdP_at];exact stuck_plc e4.symm);have h44:hdB 44 (l.drop n1)=false:=by rw[hdB_at (by decide)];refine decide_eq_false ?_;intro e;rw[<-e] at e4;cases e4
   rw[hd.1 h44];dsimp only;have hs:=lits_stop false _ (l.drop n) (Nat.le_refl _);rw[<-e3] at hs;rw[lits_none hs,okS_at,hst];rfl
  | false =>
   have f:=h2.2 rfl;unfold secP;simp only[Bool.false_eq_true,if_false];rw[<-e1,<-e2,<-e3];cases hd:(digP (l.drop n1) { sec0 false with bf:=o1,pc:=p1 }).1 with
   | true =>
    obtain⟨f1,f2,f3⟩:=f.1 hd;obtain⟨i1,i2,i3,i4⟩:=h3.1 f1;rw[<-f3,<-i3,okS_at];unfold okD;rw[i4];cases hst:stuckB (atB l n3) with
    | true=>rw[stuck_not hst];rfl
    | false=>rfl
   | false =>
    have hP:okS ({ (digP (l.drop n1) { sec0 false with bf:=o1,pc:=p1 }).2.1 with af:=(lits false (digP (l.drop n1) { sec0 false with bf:=o1,pc:=p1 }).2.2).1,pc:=(digP (l.drop n1) { sec0 false with bf:=o1,pc:=p1 }).2.1.pc+(lits false (digP (l.drop n1) { sec0 false with bf:=o1,pc:=p1 }).2.2).2.1 },false,(lits false (digP (l.drop n1) { sec0 false with bf:=o1,pc:=p1 }).2.2).2.2)=false:=rfl;rw[hP];rcases f.2 hd with f1|⟨f1,f2⟩
    ·obtain⟨i1,i2,i3,i4⟩:=h3.2 f1;unfold okD;rw[i4];rfl
    ·obtain⟨i1,i2,i3,i4⟩:=h3.1 f1;have hat:atB l n2=44:=by rw[hdB_at (by decide)] at f2;exact(of_decide_eq_true f2).symm
     have hlt:n2<l.length:=at_pos (by rw[hat];decide);have hs:litStep false (l.drop n2)=none:=by rw[drop_at hlt,hat];rfl
     rw[lits_none hs] at i3;have hlen:=congrArg List.length i3;rw[List.length_drop,List.length_drop] at hlen;have hn3:n3=n2:=by omega
     subst hn3;unfold okD;rw[hat,decide_eq_false (show ¬ l.length<=n3 by omega)];simp
 ·intro hok;unfold secP at hok ⊢;simp only[Bool.false_eq_true,if_false] at hok ⊢;rw[<-e1,<-e2,<-e3] at hok ⊢;cases hd:(digP (l.drop n1) { sec0 false with bf:=o1,pc:=p1 }).1 with
  | false=>rw[hd] at hok;cases hok
  | true =>
   cases b1 with
   | true =>
    exfalso;have hd2:=digP_near (l.drop n1) { sec0 false with bf:=o1,pc:=p1 } (by rw[hdP_at];exact stuck_plc e4.symm);have h44:hdB 44 (l.drop n1)=false:=by rw[hdB_at (by decide)];refine decide_eq_false ?_;intro e;rw[<-e] at e4;cases e4
    rw[hd2.1 h44] at hok;dsimp only at hok;have hs:=lits_stop false _ (l.drop n) (Nat.le_refl _);rw[<-e3] at hs;rw[lits_none hs,okS_at,stuck_not e4.symm] at hok;cases hok
   | false =>
    obtain⟨f1,f2,f3⟩:=(h2.2 rfl).1 hd;obtain⟨i1,i2,i3,i4⟩:=h3.1 f1;rw[<-f3,<-i3,<-i1,<-i2,<-f2];exact⟨hx,rfl⟩
theorem lits_text (l:List UInt8):(lits true l).2.1=0:=by
 have:∀k (l:List UInt8),(litsF k true l).2.1=0:=by
  intro k;induction k with
  | zero=>intro l;rfl
  | succ k ih =>
   intro l;cases hs:litStep true l with
   | none=>rw[litsF_none hs]
   | some y =>
    obtain⟨o,p,j⟩:=y;rw[litsF,hs];simp only;rw[ih];have hp:p=0:=by
     cases l with
     | nil=>cases hs
     | cons c r =>
      by_cases h64:c=64
      ·subst h64;cases hs;rfl
      ·by_cases h37:c=37
       ·subst h37;cases hs
       ·rw[step_lit true c r h37 h64] at hs;cases hq:litQ (c::r) with
        | none=>rw[hq] at hs;cases hs
        | some z=>rw[hq] at hs;cases hs;rfl
    omega
 exact this _ l
theorem sec_true {l:List UInt8} {n m:Nat} {g:Bool} {o:List UInt8} {p:Nat} (h:lits true (l.drop n)=(o,p,l.drop m)):ScO true l n g m (stuckB (atB l m)) g { sec0 true with bf:=o }:=by
 have hp:p=0:=by have:=lits_text (l.drop n);rw[h] at this;exact this
 subst hp;unfold ScO secP;simp only[if_true];rw[h,okS_at];refine⟨?_,fun _=>⟨rfl,rfl⟩,by cases g<;>rfl⟩;unfold okD;cases hst:stuckB (atB l m) with
 | true=>rw[stuck_not hst];rfl
 | false=>rfl
set_option maxRecDepth 100000
set_option maxHeartbeats 8000000
open Go.RowKit Go.Shelf
attribute [local go_sem] Oper.semAt_some
theorem Tryz.zero34:(Tryz.prog.info? 34).map (fun i=>(i.zero,i.size))=some (some (.agg (sec0 false).cells),11):=by kernel_rfl
theorem load34 {W:World} {B:Nat} {cs:Array Value} (h:Row W B 34 cs) (hs:cs.size=11):(loadVar 34 ⟨B,0,none⟩).run Tryz.prog W=.ok (.agg cs) W:=by
 exact run_loadVar_row _ _ 34 34 cs (0,0) _ h Tryz.underlying34 rfl (by rw[hs];exact(zero_of_info Tryz.zero34).2)
def SectionR (R : Nat) (tx : Bool) (l : List UInt8) (n : Nat) (g : Bool) (w : World) (r : Ending) (w' : World) : Prop :=
  ∃ (n2 : Nat) (b2 g2 : Bool) (x2 : Sec), r = .returned (.agg x2.cells) ∧ Rdr w' R l n2 b2 g2 ∧ Kept (fun k => k < w.heap.size ∧ k ≠ R) w w' ∧ n2 ≤ l.length ∧ ScO tx l n g n2 b2 g2 x2
theorem section_false (R:Nat) (l:List UInt8) (n:Nat) (g:Bool) (w:World) (hn:n<=l.length) (hl:l.length<=64) (hR:Rdr w R l n false g):Calls Tryz.prog 19 #[.pointer (some ⟨R,0,none⟩),.bool false] w (SectionR R false l n g w):=by
 have hRl:R<w.heap.size:=Row.lt hR;have rZ:Row ((w.alloc (.cells #[.string ⟨#[]⟩,.string ⟨#[]⟩,.int .i64 0,.int .i64 0,.bool false,.int .i64 0,.int .i64 0,.bool false,.int .i64 0,.bool false,.bool false] 34)).alloc (.cells #[.string ⟨#[]⟩,.string ⟨#[]⟩,.int .i64 0,.int .i64 0,.bool false,.int .i64 0,.int .i64 0,.bool false,.int .i64 0,.bool false,.bool false] 34)) w.heap.size 34 #[.string ⟨#[]⟩,.string ⟨#[]⟩,.int .i64 0,.int .i64 0,.bool false,.int .i64 0,.int .i64 0,.bool false,.int .i64 0,.bool false,.bool false]:=(Row.new w 34 _).alloc _;have rS:Row ((w.alloc (.cells #[.string ⟨#[]⟩,.string ⟨#[]⟩,.int .i64 0,.int .i64 0,.bool false,.int .i64 0,.int .i64 0,.bool false,.int .i64 0,.bool false,.bool false] 34)).alloc (.cells #[.string ⟨#[]⟩,.string ⟨#[]⟩,.int .i64 0,.int .i64 0,.bool false,.int .i64 0,.int .i64 0,.bool false,.int .i64 0,.bool false,.bool false] 34)) (w.heap.size+1) 34 (sec0 false).cells:=Row.new1 w _ 34 _;have rR:Rdr ((w.alloc (.cells #[.string ⟨#[]⟩,.string ⟨#[]⟩,.int .i64 0,.int .i64 0,.bool false,.int .i64 0,.int .i64 0,.bool false,.int .i64 0,.bool false,.bool false] 34)).alloc (.cells #[.string ⟨#[]⟩,.string ⟨#[]⟩,.int .i64 0,.int .i64 0,.bool false,.int .i64 0,.int .i64 0,.bool false,.int .i64 0,.bool false,.bool false] 34)) R l n false g:=Row.alloc (Row.alloc hR _) _;have k0:Kept (fun k=>k<w.heap.size/\k≠R) w ((w.alloc (.cells #[.string ⟨#[]⟩,.string ⟨#[]⟩,.int .i64 0,.int .i64 0,.bool false,.int .i64 0,.int .i64 0,.bool false,.int .i64 0,.bool false,.bool false] 34)).alloc (.cells #[.string ⟨#[]⟩,.string ⟨#[]⟩,.int .i64 0,.int .i64 0,.bool false,.int .i64 0,.int .i64 0,.bool false,.int .i64 0,.bool false,.bool false] 34)):=((Kept.refl _ w).alloc (fun k h=>h.1) _).alloc (fun k h=>by simp;omega) _;have hsz:w.heap.size+2<=((w.alloc (.cells #[.string ⟨#[]⟩,.string ⟨#[]⟩,.int .i64 0,.int .i64 0,.bool false,.int .i64 0,.int .i64 0,.bool false,.int .i64 0,.bool false,.bool false] 34)).alloc (.cells #[.string ⟨#[]⟩,.string ⟨#[]⟩,.int .i64 0,.int .i64 0,.bool false,.int .i64 0,.int .i64 0,.bool false,.int .i64 0,.bool false,.bool false] 34)).heap.size:=by simp
 clear hR;have hne:R≠w.heap.size+1:=by omega
 go_enter Tryz.func19,Tryz.ntmps19;go_wp2_with fail;generalize ((w.alloc (.cells #[.string ⟨#[]⟩,.string ⟨#[]⟩,.int .i64 0,.int .i64 0,.bool false,.int .i64 0,.int .i64 0,.bool false,.int .i64 0,.bool false,.bool false] 34)).alloc (.cells #[.string ⟨#[]⟩,.string ⟨#[]⟩,.int .i64 0,.int .i64 0,.bool false,.int .i64 0,.int .i64 0,.bool false,.int .i64 0,.bool false,.bool false] 34))=W0 at *;refine Calls.mono (side_c R (w.heap.size+1) l n false g (sec0 false) hn hl hne (by decide) W0 rR rS) ?_;rintro _ w1 ⟨o1,n1,b1,p1,rfl,hR1,hS1,hk1,hn1,hp1,HO1⟩;have HO1:Hid (SdO l n false o1 n1 b1 p1):=HO1;have hZ1:=rZ.kept hk1 ⟨by omega,by omega,by omega⟩;have hK1:=k0.trans (hk1.mono (fun k h=>⟨by omega,h.2,by omega⟩));have e1:SecC (sec0 false) p1=({ sec0 false with pc:=p1 }:Sec).cells:=by unfold SecC;rw[show (sec0 false).pc+p1=p1 from Nat.zero_add p1]
 rw[e1] at hS1;have q0:w1.cell? ⟨w.heap.size+1,0,none⟩=some (.string (bs [])):=hS1.cell (i:=0) rfl;have zS:=hS1.frozen;have lS:=hS1.lt;have hS2:Row (w1.setCell ⟨w.heap.size+1,0,none⟩ (.string (bs o1))) (w.heap.size+1) 34 ({ sec0 false with bf:=o1,pc:=p1 }:Sec).cells:=hS1.set 0 (.string (bs o1));have hR2:Rdr (w1.setCell ⟨w.heap.size+1,0,none⟩ (.string (bs o1))) R l n1 b1 g:=Row.off hR1 0 (.string (bs o1)) hne;have hZ2:=hZ1.off (B':=w.heap.size+1) 0 (.string (bs o1)) (by omega);have hK2:=hK1.setCell (p:=⟨w.heap.size+1,0,none⟩) (fun h=>by have:=h.1;simp at this;omega) (.string (bs o1));clear hS1 hR1 hZ1 hK1 rZ rS rR hk1 k0 e1;go_wp2_with fail;generalize w1.setCell ⟨w.heap.size+1,0,none⟩ (.string (bs o1))=w2 at *;clear q0 zS lS;refine Calls.mono (dig_c R (w.heap.size+1) l n1 b1 g { sec0 false with bf:=o1,pc:=p1 } hn1 hl hne (fun h=>by have:=(HO1.out.1 rfl).2.2.2;rw[<-this];exact h) rfl w2 hR2 hS2) ?_;rintro _ w3 ⟨rfl,n2,b2,x2,hR3,hS3,hk3,hn2,hx2,HO2⟩;have HO2:Hid (DgO l n1 b1 { sec0 false with bf:=o1,pc:=p1 } n2 b2 x2):=HO2;have hZ3:=hZ2.kept hk3 ⟨hZ2.lt,by omega,by omega⟩;have hK3:=hK2.trans (hk3.mono (fun k h=>⟨Nat.lt_of_lt_of_le h.1 hK2.size,h.2,by omega⟩));clear hS2 hR2 hZ2 hK2 hk3;go_wp2_with fail;refine Calls.mono (side_c R (w.heap.size+1) l n2 b2 g x2 hn2 hl hne (by rw[hx2];show p1<=100;omega) w3 hR3 hS3) ?_;rintro _ w4 ⟨o3,n3,b3,p3,rfl,hR4,hS4,hk4,hn3,hp3,HO3⟩;have HO3:Hid (SdO l n2 b2 o3 n3 b3 p3):=HO3;have hZ4:=hZ3.kept hk4 ⟨hZ3.lt,by omega,by omega⟩;have hK4:=hK3.trans (hk4.mono (fun k h=>⟨Nat.lt_of_lt_of_le h.1 hK3.size,h.2,by omega⟩));clear hS3 hR3 hZ3 hK3 hk4;obtain⟨x3,HX3⟩:∃x3:Sec,Hid (x3={ x2 with af:=o3,pc:=x2.pc+p3 }):=⟨_,rfl⟩;have q1:w4.cell? ⟨w.heap.size+1,1,none⟩=some (.string (bs x2.af)):=hS4.cell (i:=1) rfl;have zS4:=hS4.frozen;have lS4:=hS4.lt;have hS5:Row (w4.setCell ⟨w.heap.size+1,1,none⟩ (.string (bs o3))) (w.heap.size+1) 34 x3.cells:=by rw[HX3.out];exact hS4.set 1 (.string (bs o3))
 have hR5:Rdr (w4.setCell ⟨w.heap.size+1,1,none⟩ (.string (bs o3))) R l n3 b3 g:=Row.off hR4 1 (.string (bs o3)) hne;have hZ5:=hZ4.off (B':=w.heap.size+1) 1 (.string (bs o3)) (by omega);have hK5:=hK4.setCell (p:=⟨w.heap.size+1,1,none⟩) (fun h=>by have:=h.1;simp at this;omega) (.string (bs o3));have HSC:∀g3,g3=(g||bigS x3)->Hid (ScO false l n g n3 b3 g3 x3):=fun g3 hg=>sec_false HO1.out HO2.out HO3.out HX3.out hg;clear hS4 hR4 hZ4 hK4 hx2 HX3;go_upto_region 16 with fail
 generalize w4.setCell ⟨w.heap.size+1,1,none⟩ (.string (bs o3))=w5 at *;clear q1 zS4 lS4 HO1 HO2 HO3 hn hn1 hn2 hp1 hp3;obtain⟨bf,af,wh,ze,pt,pa,pz,gr,pc,dg,tx⟩:=x3;unfold Sec.cells at hS5;simp only at hS5;unfold bigS at HSC;dsimp only at HSC;obtain⟨s0,s1,s2,s3,s4,s5,s6,s7,s8,s9,s10⟩:=hS5.sec;have zS:=hS5.frozen;have lS:=hS5.lt;obtain⟨y0,y1,y2,y3,y4,y5,y6,y7,y8,y9,y10⟩:=hZ5.sec;have zZ:=hZ5.frozen;have lZ:=hZ5.lt;have r3:w5.cell? ⟨R,3,none⟩=some (.bool g):=Row.cell hR5 (i:=3) rfl;have zR:=Row.frozen hR5;have lR:=Row.lt hR5;have hB0:w.heap.size≠R:=by omega
 cases h18:decide ((18:Int)<(pa:Int))<;>cases h20:decide ((20:Int)<(wh:Int))<;>cases h4:decide ((4:Int)<(pc:Int));all_goals rw[h18,h20,h4] at HSC
 ·go_wp2;refine bodyPost_ret (ret_one rfl (g:=w.heap.size) rfl (load34 (Row.set11 hZ5 _ _ _ _ _ _ _ _ _ _ _) rfl)) rfl ?_;exact⟨n3,b3,g,⟨bf,af,wh,ze,pt,pa,pz,gr,pc,dg,tx⟩,rfl,Row.off11 hR5 (by omega) _ _ _ _ _ _ _ _ _ _ _,hK5.set11 (fun h=>by have:=h.1;omega) _ _ _ _ _ _ _ _ _ _ _,hn3,(HSC _ (by cases g<;>rfl)).out⟩
 all_goals
  have hR6:Rdr (w5.setCell ⟨R,3,none⟩ (.bool true)) R l n3 b3 true:=Row.set 3 (.bool true) hR5;have hZ6:=hZ5.off (B':=R) 3 (.bool true) hB0;have hK6:=hK5.setCell (p:=⟨R,3,none⟩) (fun h=>h.2 rfl) (.bool true);clear hR5 hZ5 hK5 hS5;go_wp2;refine bodyPost_ret (ret_one rfl (g:=w.heap.size) rfl (load34 (Row.set11 hZ6 _ _ _ _ _ _ _ _ _ _ _) rfl)) rfl ?_;exact⟨n3,b3,true,⟨bf,af,wh,ze,pt,pa,pz,gr,pc,dg,tx⟩,rfl,Row.off11 hR6 (by omega) _ _ _ _ _ _ _ _ _ _ _,hK6.set11 (fun h=>by have:=h.1;omega) _ _ _ _ _ _ _ _ _ _ _,hn3,(HSC _ (by cases g<;>rfl)).out⟩
def TxI (R B : Nat) (l : List UInt8) (n : Nat) (g : Bool) (w : World) (m : Nat) (o : List UInt8) (p : Nat) (wr : World) : Prop :=
  Lrel true l n m o p ∧ Rdr wr R l m false g ∧ Row wr (B + 1) 34 ({ sec0 true with bf := o } : Sec).cells ∧ Row wr B 34 #[.string ⟨#[]⟩, .string ⟨#[]⟩, .int .i64 0, .int .i64 0, .bool false, .int .i64 0, .int .i64 0, .bool false, .int .i64 0, .bool false, .bool false] ∧ Kept (fun k => k < w.heap.size ∧ k ≠ R) w wr
theorem section_true (R:Nat) (l:List UInt8) (n:Nat) (g:Bool) (w:World) (hn:n<=l.length) (hl:l.length<=64) (hR:Rdr w R l n false g):Calls Tryz.prog 19 #[.pointer (some ⟨R,0,none⟩),.bool true] w (SectionR R true l n g w):=by
 have hRl:R<w.heap.size:=Row.lt hR;have rZ:Row ((w.alloc (.cells #[.string ⟨#[]⟩,.string ⟨#[]⟩,.int .i64 0,.int .i64 0,.bool false,.int .i64 0,.int .i64 0,.bool false,.int .i64 0,.bool false,.bool false] 34)).alloc (.cells #[.string ⟨#[]⟩,.string ⟨#[]⟩,.int .i64 0,.int .i64 0,.bool false,.int .i64 0,.int .i64 0,.bool false,.int .i64 0,.bool false,.bool false] 34)) w.heap.size 34 #[.string ⟨#[]⟩,.string ⟨#[]⟩,.int .i64 0,.int .i64 0,.bool false,.int .i64 0,.int .i64 0,.bool false,.int .i64 0,.bool false,.bool false]:=(Row.new w 34 _).alloc _;have rS:Row ((w.alloc (.cells #[.string ⟨#[]⟩,.string ⟨#[]⟩,.int .i64 0,.int .i64 0,.bool false,.int .i64 0,.int .i64 0,.bool false,.int .i64 0,.bool false,.bool false] 34)).alloc (.cells #[.string ⟨#[]⟩,.string ⟨#[]⟩,.int .i64 0,.int .i64 0,.bool false,.int .i64 0,.int .i64 0,.bool false,.int .i64 0,.bool false,.bool false] 34)) (w.heap.size+1) 34 #[.string ⟨#[]⟩,.string ⟨#[]⟩,.int .i64 0,.int .i64 0,.bool false,.int .i64 0,.int .i64 0,.bool false,.int .i64 0,.bool false,.bool false]:=Row.new1 w _ 34 _;have rR:Rdr ((w.alloc (.cells #[.string ⟨#[]⟩,.string ⟨#[]⟩,.int .i64 0,.int .i64 0,.bool false,.int .i64 0,.int .i64 0,.bool false,.int .i64 0,.bool false,.bool false] 34)).alloc (.cells #[.string ⟨#[]⟩,.string ⟨#[]⟩,.int .i64 0,.int .i64 0,.bool false,.int .i64 0,.int .i64 0,.bool false,.int .i64 0,.bool false,.bool false] 34)) R l n false g:=Row.alloc (Row.alloc hR _) _;have k0:Kept (fun k=>k<w.heap.size/\k≠R) w ((w.alloc (.cells #[.string ⟨#[]⟩,.string ⟨#[]⟩,.int .i64 0,.int .i64 0,.bool false,.int .i64 0,.int .i64 0,.bool false,.int .i64 0,.bool false,.bool false] 34)).alloc (.cells #[.string ⟨#[]⟩,.string ⟨#[]⟩,.int .i64 0,.int .i64 0,.bool false,.int .i64 0,.int .i64 0,.bool false,.int .i64 0,.bool false,.bool false] 34)):=((Kept.refl _ w).alloc (fun k h=>h.1) _).alloc (fun k h=>by simp;omega) _;have hsz:w.heap.size+2<=((w.alloc (.cells #[.string ⟨#[]⟩,.string ⟨#[]⟩,.int .i64 0,.int .i64 0,.bool false,.int .i64 0,.int .i64 0,.bool false,.int .i64 0,.bool false,.bool false] 34)).alloc (.cells #[.string ⟨#[]⟩,.string ⟨#[]⟩,.int .i64 0,.int .i64 0,.bool false,.int .i64 0,.int .i64 0,.bool false,.int .i64 0,.bool false,.bool false] 34)).heap.size:=by simp
 clear hR;have hne:R≠w.heap.size+1:=by omega
 have hneB:R≠w.heap.size:=by omega
 go_enter Tryz.func19,Tryz.ntmps19;go_upto_region 3 with fail
 generalize ((w.alloc (.cells #[.string ⟨#[]⟩,.string ⟨#[]⟩,.int .i64 0,.int .i64 0,.bool false,.int .i64 0,.int .i64 0,.bool false,.int .i64 0,.bool false,.bool false] 34)).alloc (.cells #[.string ⟨#[]⟩,.string ⟨#[]⟩,.int .i64 0,.int .i64 0,.bool false,.int .i64 0,.int .i64 0,.bool false,.int .i64 0,.bool false,.bool false] 34))=W0 at *;have h0:Hid (TxI R w.heap.size l n g w n [] 0 (W0.setCell ⟨w.heap.size+1,10,none⟩ (.bool true))):=⟨Lrel.start true l n hn,Row.off rR 10 (.bool true) hne,rS.set 10 (.bool true),rZ.off (B':=w.heap.size+1) 10 (.bool true) (by omega),k0.setCell (p:=⟨w.heap.size+1,10,none⟩) (fun h=>by have:=h.1;simp at this;omega) (.bool true)⟩;have x10:W0.cell? ⟨w.heap.size+1,10,none⟩=some (.bool false):=rS.cell (i:=10) rfl;have zS:=rS.frozen;have lS:=rS.lt;clear rZ rS rR k0;go_wp2;clear x10 zS lS;generalize W0.setCell ⟨w.heap.size+1,10,none⟩ (.bool true)=W1 at *;go_loopw [] (fun wr=>∃(m:Nat) (o:List UInt8) (p:Nat),Hid (TxI R w.heap.size l n g w m o p wr)) (fun wr=>l.length-rPos R wr)
 case atStart=>exact⟨n,[],0,h0⟩
 case round =>
  clear h0 hsz;obtain⟨m,o,p,H⟩:=hrel;have hRr:=H.out.2.1;have hSr:=H.out.2.2.1;have hZr:=H.out.2.2.2.1;have hKr:=H.out.2.2.2.2;have hm:=H.out.1.2.2.1;have hob:(bs o).size<=64:=by have:=H.out.1.2.2.2.2;rw[bs_size];omega
  have c1:wr.cell? ⟨R,1,none⟩=some (.int .i64 (m:Int)):=Row.cell hRr (i:=1) rfl;have c2:wr.cell? ⟨R,2,none⟩=some (.bool false):=Row.cell hRr (i:=2) rfl;have hrw:=rPos_row hRr;obtain⟨c,hc⟩:∃c,atB l m=c:=⟨_,rfl⟩;have HC:Hid (atB l m=c):=hc;have HH:=here_dn HC hRr;obtain⟨y,hy⟩:∃y:Int,(c.toNat:Int)=y:=⟨_,rfl⟩;rw[hy] at HH;have s0:wr.cell? ⟨w.heap.size+1,0,none⟩=some (.string (bs o)):=hSr.cell (i:=0) rfl;have fR:=Row.frozen hRr;have fS:=hSr.frozen;have lR:=Row.lt hRr;have lS:=hSr.lt;have HA:Hid (Rdr wr R l m false g):=hRr;have HB:Hid (Row wr (w.heap.size+1) 34 ({ sec0 true with bf:=o }:Sec).cells):=hSr;have HZ:Hid (Row wr w.heap.size 34 #[.string ⟨#[]⟩,.string ⟨#[]⟩,.int .i64 0,.int .i64 0,.bool false,.int .i64 0,.int .i64 0,.bool false,.int .i64 0,.bool false,.bool false]):=hZr;have HK:Hid (Kept (fun k=>k<w.heap.size/\k≠R) w wr):=hKr;have HW:Hid (rPos R wr=m):=hrw;clear hc hRr hSr hZr hKr hrw;by_cases h64:c=64
  ·have hy64:y=64:=by rw[<-hy,h64];rfl
   subst hy64;have HST:Hid (litStep true (l.drop m)=some ([0],0,1)):=(step_spec (tx:=true) (HC.out.trans h64)).1;have hml:m<l.length:=(step_spec (tx:=true) (HC.out.trans h64)).2;have HL:Hid _:=H.out.1.go HST.out (Nat.le_refl _);clear hy h64 HC H HST;go_wp2_with fail;refine Calls.mono HH.out ?_;rintro _ _ ⟨rfl,k1,rfl⟩;clear HH;go_wp2;have r1:Rdr (((wr.drewN k1).setCell ⟨R,1,none⟩ (.int .i64 ((m+1:Nat):Int))).setCell ⟨w.heap.size+1,0,none⟩ (.string (bs (o++[0])))) R l (m+1) false g:=Row.off (Row.set 1 (.int .i64 ((m+1:Nat):Int)) HA.out) 0 _ hne;refine⟨⟨m+1,o++[0],p+0,HL.out.1,?_,?_,?_,?_⟩,?_⟩
   ·rw[<-bs_add] at r1;exact r1
   ·have:=Row.set 0 (.string (bs (o++[0]))) (Row.off HB.out 1 (.int .i64 ((m+1:Nat):Int)) hne.symm);rw[<-bs_add] at this;rw[show ({ sec0 true with bf:=o++[0] }:Sec).cells=({ sec0 true with bf:=o }:Sec).cells.setIfInBounds 0 (.string (bs (o++[0]))) from rfl,<-bs_add];exact this
   ·exact Row.off (Row.off HZ.out 1 _ hneB.symm) 0 _ (by omega)
   ·exact((HK.out.dN _).setCell (fun e=>e.2 rfl) _).setCell (p:=⟨w.heap.size+1,0,none⟩) (fun h=>by have:=h.1;simp at this;omega) _
   ·rw[<-bs_add] at r1;have r2:=rPos_row r1;rw[HW.out];show l.length-rPos R (((wr.drewN k1).setCell ⟨R,1,none⟩ (.int .i64 ((m+1:Nat):Int))).setCell ⟨w.heap.size+1,0,none⟩ (.string (bs o++bs [0])))<_;rw[r2];omega
  ·have e64:(y==64)=false:=by rw[<-hy];exact(u8_eq c 64 (by decide)).trans (decide_eq_false h64)
   have HLI:∀ W,Rdr W R l m false g->Hid (Calls Tryz.prog 39 #[.pointer (some ⟨R,0,none⟩)] W (LitR R l m g W)):=fun W h=>literal_any R l m g W hl h;rcases step_other (tx:=true) (l:=l) (m:=m) hl (by rw[HC.out];exact h64) with ⟨o',k,hN,hS',ho1,ho2⟩|⟨hN,hS'⟩
   ·have HL:Hid _:=H.out.1.go hS' ho1;have hob2:(bs o').size<=64:=by rw[bs_size];exact ho2
    unfold LitR at HLI;rw[hN] at HLI;clear hy h64 HC hN hS' H ho1 ho2;go_wp2_with fail;refine Calls.mono HH.out ?_;rintro _ _ ⟨rfl,k1,rfl⟩;clear HH c1 c2;go_wp2_with fail;refine Calls.mono (HLI _ (by exact HA.out)).out ?_;rintro _ w2 ⟨rfl,hR2,hk2⟩;have hk2:Kept (fun k=>k<wr.heap.size/\k≠R) wr w2:=((Kept.refl _ wr).dN k1).trans hk2;have hS2:Row w2 (w.heap.size+1) 34 ({ sec0 true with bf:=o }:Sec).cells:=HB.out.kept hk2 ⟨lS,hne.symm⟩;have HZ2:Hid _:=HZ.out.kept hk2 ⟨by show w.heap.size<wr.heap.size;omega,hneB.symm⟩;have hlt2:=HK.out.size;have HK2:Hid _:=HK.out.trans (hk2.mono (fun k h=>⟨by show k<wr.heap.size;omega,h.2⟩));have HA2:Hid (Rdr w2 R l (m+k) false g):=hR2;have HB2:Hid (Row w2 (w.heap.size+1) 34 ({ sec0 true with bf:=o }:Sec).cells):=hS2;have s02:w2.cell? ⟨w.heap.size+1,0,none⟩=some (.string (bs o)):=hS2.cell (i:=0) rfl;have fS2:=hS2.frozen;have lS2:=hS2.lt;clear HLI hR2 hk2 hS2 HZ HK HA HB s0 fS fR hlt2;go_wp2;have r1:=Row.off HA2.out 0 (.string (bs o++bs o')) hne;refine⟨⟨m+k,o++o',p+0,HL.out.1,r1,?_,?_,?_⟩,?_⟩
    ·have:=Row.set 0 (.string (bs (o++o'))) HB2.out;rw[show ({ sec0 true with bf:=o++o' }:Sec).cells=({ sec0 true with bf:=o }:Sec).cells.setIfInBounds 0 (.string (bs (o++o'))) from rfl];rw[<-bs_add] at this ⊢;exact this
    ·exact Row.off HZ2.out 0 _ (by omega)
    ·exact HK2.out.setCell (p:=⟨w.heap.size+1,0,none⟩) (fun h=>by have:=h.1;simp at this;omega) _
    ·have:=HL.out.2;have:=HL.out.1.2.2.1;rw[HW.out,rPos_row (show Rdr _ R l (m+k) false g from r1)];omega
   ·have HF:Hid _:=H.out.1.fin hS';unfold LitR at HLI;rw[hN] at HLI;clear hy h64 HC hN hS' H;go_wp2_with fail;refine Calls.mono HH.out ?_;rintro _ _ ⟨rfl,k1,rfl⟩;clear HH c1 c2;go_wp2_with fail;refine Calls.mono (HLI _ (by exact HA.out)).out ?_;rintro _ w2 ⟨rfl,hR2,hk2⟩;have hk2:Kept (fun k=>k<wr.heap.size/\k≠R) wr w2:=((Kept.refl _ wr).dN k1).trans hk2;have hS2:Row w2 (w.heap.size+1) 34 ({ sec0 true with bf:=o }:Sec).cells:=HB.out.kept hk2 ⟨lS,hne.symm⟩;have hZ2:=HZ.out.kept hk2 ⟨by show w.heap.size<wr.heap.size;omega,hneB.symm⟩;have hlt2:=HK.out.size;have HK2:Hid _:=HK.out.trans (hk2.mono (fun k h=>⟨by show k<wr.heap.size;omega,h.2⟩));have HA2:Hid (Rdr w2 R l m (stuckB (atB l m)) g):=hR2;have HSC:Hid _:=sec_true (g:=g) HF.out.1;unfold Sec.cells at hS2;simp only at hS2;obtain⟨s0',s1,s2,s3,s4,s5,s6,s7,s8,s9,s10⟩:=hS2.sec;have fS2:=hS2.frozen;have lS2:=hS2.lt;obtain⟨y0,y1,y2,y3,y4,y5,y6,y7,y8,y9,y10⟩:=hZ2.sec;have fZ2:=hZ2.frozen;have lZ2:=hZ2.lt;clear HLI hR2 hk2 hS2 HZ HK HA HB s0 fS fR hlt2 HF;go_wp2;refine bodyPost_ret (ret_one rfl (g:=w.heap.size) rfl (load34 (Row.set11 hZ2 _ _ _ _ _ _ _ _ _ _ _) rfl)) rfl ?_;exact⟨m,stuckB (atB l m),g,{ sec0 true with bf:=o },rfl,Row.off11 HA2.out (by omega) _ _ _ _ _ _ _ _ _ _ _,HK2.out.set11 (fun h=>by have:=h.1;omega) _ _ _ _ _ _ _ _ _ _ _,hm,HSC.out⟩
theorem section_any (R:Nat) (l:List UInt8) (n:Nat) (g tx:Bool) (w:World) (hn:n<=l.length) (hl:l.length<=64) (hR:Rdr w R l n false g):Calls Tryz.prog 19 #[.pointer (some ⟨R,0,none⟩),.bool tx] w (SectionR R tx l n g w):=by
 cases tx
 ·exact section_false R l n g w hn hl hR
 ·exact section_true R l n g w hn hl hR
end Go.Proofs.YtoncpcdepemlcaaGreatDoor
namespace Go.Proofs.YtoncpcdepemlcaaGreatDoor
set_option maxRecDepth 100000
set_option maxHeartbeats 16000000
open Go.RowKit Go.Shelf
attribute [local go_sem] Oper.semAt_some
theorem Tryz.info34:(Tryz.prog.info? 34).map (fun i=>(i.zero,i.size,i.bytes))=some (some (.agg (sec0 false).cells),11,96):=by kernel_rfl
def PdI (l : List UInt8) (n : Nat) (xs : List Sec) (g : Bool) : Prop :=
  xs.length ≤ 3 ∧ n ≤ l.length ∧ secsL 4 l = xs.map (fun x => (x, true)) ++ secsL (4 - xs.length) (l.drop n) ∧ g = xs.any bigS
theorem PdI.start (l:List UInt8):PdI l 0 [] false:=⟨Nat.zero_le _,Nat.zero_le _,rfl,rfl⟩
theorem secs_step {l:List UInt8} {n:Nat} {xs:List Sec} {g:Bool} (h:PdI l n xs g) {n2:Nat} {b2 g2:Bool} {x2:Sec} (hs:ScO (decide (xs.length=3)) l n g n2 b2 g2 x2):(okD l n2 b2=false->(secsL 4 l).all (·.2)=false)/\(okD l n2 b2=true->n2=l.length->secsL 4 l=(xs++[x2]).map (fun x=>(x,true))/\g2=(xs++[x2]).any bigS)/\(okD l n2 b2=true->n2<l.length->xs.length=3->(secsL 4 l).all (·.2)=false)/\(okD l n2 b2=true->n2<l.length->xs.length≠3->PdI l (n2+1) (xs++[x2]) g2):=by
 obtain⟨h1,h2,h3,h4⟩:=h;obtain⟨s1,s2,s3⟩:=hs;obtain⟨k,hk⟩:∃k,k=3-xs.length:=⟨_,rfl⟩;have e4:4-xs.length=k+1:=by omega
 have etx:(k==0)=decide (xs.length=3):=by
  by_cases h:xs.length=3
  ·rw[decide_eq_true h,beq_iff_eq];omega
  ·rw[decide_eq_false h,beq_eq_false_iff_ne];omega
 have e5:secsL (k+1) (l.drop n)=((secP (k==0) (l.drop n)).1,okS (secP (k==0) (l.drop n)))::(if !okS (secP (k==0) (l.drop n)) || !Lib.hasPrefix (secP (k==0) (l.drop n)).2.2 [59] then [] else secsL k ((secP (k==0) (l.drop n)).2.2.drop 1)):=rfl;rw[etx] at e5;rw[e4,e5] at h3;have hany:(xs++[x2]).any bigS=g2:=by rw[List.any_append,<-h4,s3];simp
 refine⟨fun h => ?_,fun h hn => ?_,fun h hn hx => ?_,fun h hn hx => ?_⟩
 ·rw[h] at s1;rw[h3,<-s1];simp
 ·rw[h] at s1;obtain⟨i1,i2⟩:=s2 s1.symm;refine⟨?_,hany.symm⟩;rw[h3,<-s1,<-i2,<-i1,hn,List.drop_length];simp[Lib.hasPrefix,List.isPrefixOf]
 ·rw[h] at s1;obtain⟨i1,i2⟩:=s2 s1.symm;have k0:k=0:=by omega
  subst k0;rw[h3,<-s1,<-i2];have hpre:Lib.hasPrefix (l.drop n2) [59]=true:=by unfold okD at h;rw[decide_eq_false (show ¬ l.length<=n2 by omega)] at h;simp only[Bool.false_or,Bool.and_eq_true,decide_eq_true_eq] at h;rw[drop_at hn,h.2];rfl
  rw[hpre];simp[secsL]
 ·rw[h] at s1;obtain⟨i1,i2⟩:=s2 s1.symm;have hpre:Lib.hasPrefix (l.drop n2) [59]=true:=by unfold okD at h;rw[decide_eq_false (show ¬ l.length<=n2 by omega)] at h;simp only[Bool.false_or,Bool.and_eq_true,decide_eq_true_eq] at h;rw[drop_at hn,h.2];rfl
  refine⟨by simp;omega,hn,?_,hany.symm⟩;rw[h3,<-s1,<-i2,<-i1,hpre,List.drop_drop,List.length_append];have:4-(xs.length+[x2].length)=k:=by simp;omega
  rw[this];simp
def DParseR (l : List UInt8) (w : World) (r : Ending) (w' : World) : Prop :=
  ∃ v, r = .returned (.tuple #[v, .int .i64 (parseS l).2]) ∧ w'.ownsRow w.heap.size 34 11 v (parseS l).1.length (flatS (parseS l).1) ∧ Below w.heap.size w w'
theorem parse_all {l:List UInt8} (hl:l.length<=64) (hg:l≠genL) (hv:visB l=true):((secsL 4 l).all (·.2)=false->parseS l=([],40))/\(∀xs:List Sec,secsL 4 l=xs.map (fun x=>(x,true))->parseS l=if xs.any bigS then ([],3) else (xs,0)):=by
 have hp:parseS l=if (secsL 4 l).all (·.2) then (if (secsL 4 l).any (fun y=>bigS y.1) then ([],3) else ((secsL 4 l).map (·.1),0)) else ([],40):=by unfold parseS;rw[if_neg (by omega),if_neg hg,if_neg (by rw[hv];decide)]
 refine⟨fun h=>by rw[hp,h];rfl,fun xs h => ?_⟩;rw[hp,h];have e1:(xs.map (fun x=>(x,true))).all (·.2)=true:=by simp
 have e2:(xs.map (fun x=>(x,true))).any (fun y=>bigS y.1)=xs.any bigS:=by rw[List.any_map];rfl
 have e3:(xs.map (fun x=>(x,true))).map (·.1)=xs:=by rw[List.map_map];exact List.map_id xs
 rw[e1,e2,e3];rfl
def lenV : Value → Nat
  | .slice _ n _ => n
  | _ => 0
def PaS (l : List UInt8) (w : World) (n : Nat) (xs : List Sec) (g : Bool) (v : Value) (wr : World) : Prop :=
  PdI l n xs g ∧ Rdr wr w.heap.size l n false g ∧ wr.ownsRow w.heap.size 34 11 v xs.length (flatS xs) ∧ Below w.heap.size w wr
theorem dparse_any (l:List UInt8) (w:World):Calls Tryz.prog 7 #[.string (bs l)] w (DParseR l w):=by
 by_cases hl:64<l.length
 ·have HP:Hid (parseS l=([],3)):=by show _=_;unfold parseS;rw[if_pos hl]
  have hs:(64:Int)<((bs l).size:Int):=by rw[bs_size];omega
  clear hl;go_enter Tryz.func7,Tryz.ntmps7;go_wp2;refine bodyPost_ret (results_tmp2 rfl _ _ _) rfl ⟨.slice none 0 0,by rw[HP.out];rfl,by rw[HP.out];exact World.ownsRow_nil _ _ _ _,Below.refl _ _⟩
 have hs:¬ (64:Int)<((bs l).size:Int):=by rw[bs_size];omega
 have hl2:l.length<=64:=by omega
 have HSL:Hid ((bs l).size=l.length):=bs_size l;clear hl;go_enter Tryz.func7,Tryz.ntmps7;go_wp2;go_loop [4] (fun v4=>∃k:Nat,v4=.int .i64 (k:Int)/\k<=(bs l).size/\Hid (∀j (hj:j<l.length),j<k->32<=l[j].toNat/\l[j].toNat<=126)) (fun v4=>(bs l).size-(intOf v4).toNat)
 case atStart=>exact⟨0,rfl,Nat.zero_le _,fun j _ h=>absurd h (by omega)⟩
 case round =>
  obtain⟨k,rfl,hk,HP⟩:=hrel;by_cases hlt:k<(bs l).size
  ·have hlt2:k<l.length:=by rw[<-HSL.out];exact hlt
   obtain⟨c,hc⟩:∃c:Nat,((bs l)[k]'hlt).toNat=c:=⟨_,rfl⟩;have hc2:l[k].toNat=c:=hc;have hk64:(k:Int)<64:=by omega
   have HLT:Hid (k<(bs l).size):=hlt;have hdark:(c<32\/126<c)->Hid (parseS l=([],40)):=fun h=>by have hv:visB l=false:=vis_no hlt2 (by rw[hc2];omega);show _=_;unfold parseS;rw[if_neg (by omega),if_neg (by rintro rfl;cases hv),if_pos hv]
   by_cases h1:c<32
   ·have g1:(c:Int)<32:=by omega
    have HN:=hdark (.inl h1);clear hc2 h1 hdark;go_wp2;refine bodyPost_ret (results_tmp2 rfl _ _ _) rfl ⟨.slice none 0 0,by rw[HN.out];rfl,by rw[HN.out];exact World.ownsRow_nil _ _ _ _,Below.refl _ _⟩
   ·have g1:¬ (c:Int)<32:=by omega
    by_cases h2:126<c
    ·have g2:(126:Int)<(c:Int):=by omega
     have HN:=hdark (.inr h2);clear hc2 h1 h2 hdark;go_wp2;refine bodyPost_ret (results_tmp2 rfl _ _ _) rfl ⟨.slice none 0 0,by rw[HN.out];rfl,by rw[HN.out];exact World.ownsRow_nil _ _ _ _,Below.refl _ _⟩
    ·have g2:¬ (126:Int)<(c:Int):=by omega
     have HQ:Hid (∀j (hj:j<l.length),j<k+1->32<=l[j].toNat/\l[j].toNat<=126):=fun j hj h=>by
      by_cases e:j=k
      ·subst e;rw[hc2];omega
      ·exact HP.out j hj (by omega)
     clear hc2 h1 h2 hdark;go_wp2;go_round
     case rel=>exact⟨k+1,by go_num,HLT.out,HQ⟩
     case measure=>have:=HLT.out;simp[intOf];omega
  ·have HY:Hid (visB l=true):=vis_yes (fun j hj=>HP.out j hj (by have:=HSL.out;omega));have hge:¬ (k:Int)<((bs l).size:Int):=by omega
   clear hlt hk HP;by_cases hg:l=genL
   ·have HP:Hid (parseS l=([],0)):=by show _=_;rw[hg];unfold parseS;rw[if_neg (by decide),if_pos rfl]
    have hgt:(bs l).toList=[71,101,110,101,114,97,108]:=by rw[bs_toList,hg];rfl
    clear hg HY;go_wp2;refine bodyPost_ret (results_tmp2 rfl _ _ _) rfl ⟨.slice none 0 0,by rw[HP.out];rfl,by rw[HP.out];exact World.ownsRow_nil _ _ _ _,Below.refl _ _⟩
   ·have hgl:((bs l).toList==[71,101,110,101,114,97,108])=false:=by rw[bs_toList,beq_eq_false_iff_ne];exact hg
    have HPA:Hid _:=parse_all hl2 hg HY.out;have hs64:(bs l).size<=64:=by rw[HSL.out];exact hl2
    have HL2:Hid (l.length<=64):=hl2;clear hg HY hl2;go_wp2;have h0:Hid (PaS l w 0 [] false (.slice none 0 0) (w.alloc (.cells #[.string (bs l),.int .i64 0,.bool false,.bool false] 53))):=⟨PdI.start l,Row.new w 53 _,World.ownsRow_nil _ _ _ _,(Below.refl _ w).alloc (Nat.le_refl _) _⟩;generalize w.alloc (.cells #[.string (bs l),.int .i64 0,.bool false,.bool false] 53)=W1 at *;clear hgl;obtain⟨i0,hi,hzz⟩:=Option.map_eq_some_iff.1 Tryz.info34;simp only[Prod.mk.injEq] at hzz;obtain⟨hz0,hz1,hz2⟩:=hzz;go_loopw [6] (fun v6 wr=>∃(n:Nat) (xs:List Sec) (g:Bool),Hid (PaS l w n xs g v6 wr)) (fun v6 _=>4-lenV v6)
    case atStart=>exact⟨0,[],false,h0⟩
    case round =>
     clear h0;obtain⟨n,xs,g,H⟩:=hrel;have hRr:=H.out.2.1;have hOr:=H.out.2.2.1;have hBr:=H.out.2.2.2;obtain⟨L0,hL0⟩:∃ L0,xs.length=L0:=⟨_,rfl⟩;rw[hL0] at hOr;obtain⟨gu,cu,hv⟩:=owns_form hOr;subst hv;have hneR:=row_ne hOr hRr (by decide);have hL3:L0<=3:=by rw[<-hL0];exact H.out.1.1
     have HL0:Hid (xs.length=L0):=hL0;obtain⟨tx,htx⟩:∃tx,decide (xs.length=3)=tx:=⟨_,rfl⟩;have e3:((L0:Int)==3)=tx:=by
      rw[<-htx,hL0];by_cases h:L0=3
      ·rw[decide_eq_true h,beq_iff_eq];omega
      ·rw[decide_eq_false h,beq_eq_false_iff_ne];omega
     have HTX:Hid (decide (xs.length=3)=tx):=htx;have HSE:Hid (Calls Tryz.prog 19 #[.pointer (some ⟨w.heap.size,0,none⟩),.bool tx] wr (SectionR w.heap.size tx l n g wr)):=section_any w.heap.size l n g tx wr H.out.1.2.1 HL2.out hRr;have hRl:=Row.lt hRr;have HL3:Hid (L0<=3):=hL3;clear htx hL0 hRr;go_wp2_with fail;refine Calls.mono HSE.out ?_;rintro _ w2 ⟨n2,b2,g2,x2,rfl,hR2,hk2,hn2,HS⟩;clear HSE;have HST:Hid _:=secs_step H.out.1 (by rw[HTX.out];exact HS);have hO2:=owns_kept hOr hk2 (fun k hk=>⟨(hOr.lt k hk).2,fun e=>hneR (by rw[hk,e])⟩);have hB2:Below w.heap.size w w2:=hBr.trans ((hk2.mono (T:=fun k=>k<w.heap.size) (fun k h=>⟨by omega,by omega⟩)).below (fun k h=>h));obtain⟨t0,t1,m2,m3,b4,m5,m6,b7,m8,b9,b10,hxc⟩:∃(t0 t1:ByteArray) (m2 m3:Int) (b4:Bool) (m5 m6:Int) (b7:Bool) (m8:Int) (b9 b10:Bool),x2.cells=#[.string t0,.string t1,.int .i64 m2,.int .i64 m3,.bool b4,.int .i64 m5,.int .i64 m6,.bool b7,.int .i64 m8,.bool b9,.bool b10]:=⟨_,_,_,_,_,_,_,_,_,_,_,rfl⟩;rw[hxc];have HXC:Hid (x2.cells=#[.string t0,.string t1,.int .i64 m2,.int .i64 m3,.bool b4,.int .i64 m5,.int .i64 m6,.bool b7,.int .i64 m8,.bool b9,.bool b10]):=hxc;have HNW:Hid (∀(j:Nat) (u:Value),([.string t0,.string t1,.int .i64 m2,.int .i64 m3,.bool b4,.int .i64 m5,.int .i64 m6,.bool b7,.int .i64 m8,.bool b9,.bool b10]:List Value)[j]? = some u->(w2.alloc (.cells #[.string t0,.string t1,.int .i64 m2,.int .i64 m3,.bool b4,.int .i64 m5,.int .i64 m6,.bool b7,.int .i64 m8,.bool b9,.bool b10] 34)).cell? ((⟨w2.heap.size,0,none⟩:Addr).add j)=some u):=by intro j u hu;have h:=(Row.new w2 34 #[.string t0,.string t1,.int .i64 m2,.int .i64 m3,.bool b4,.int .i64 m5,.int .i64 m6,.bool b7,.int .i64 m8,.bool b9,.bool b10]).cell (i:=j) (v:=u) (by simpa using hu);rw[Go.WideShapes.add_plain];simpa using h
     clear hxc HS hOr hBr hk2 H;have hB2s:=hB2.size;have hR2l:=Row.lt hR2;go_wp2_with (at_builtin;refine wpList_append_own2 _ rfl (.tmp 31) (.tmp 37) 26 rfl w.heap.size 34 i0 _ 11 96 Tryz.underlying26 hi hz0 hz1 hz2 rfl (by decide) _ _ _ rfl (hO2.alloc _) ⟨w2.heap.size,0,none⟩ 1 1 [.string t0,.string t1,.int .i64 m2,.int .i64 m3,.bool b4,.int .i64 m5,.int .i64 m6,.bool b7,.int .i64 m8,.bool b9,.bool b10] rfl rfl HNW.out (by simp[Value.oneCell']) (by unfold maxLen;omega) (by omega) (by simp;omega) ?_);intro v1 x1 hown1 hgrow1 _;have hR3:Rdr x1 w.heap.size l n2 b2 g2:=(hgrow1.block _ (by simp;omega) (fun e=>hneR e.symm)).trans (Row.alloc hR2 _);have hB3:Below w.heap.size w x1:=(hB2.alloc hB2.size _).grown hgrow1 (by rw[World.size_alloc];omega) (fun r e=>(hO2.lt r e).1);obtain⟨g1,k1,rfl⟩:=owns_form hown1;have HOWN:Hid (x1.ownsRow w.heap.size 34 11 (.slice g1 (L0+1) k1) (xs++[x2]).length (flatS (xs++[x2]))):=by rw[flat_snoc,HXC.out,List.length_append,HL0.out];exact hown1
     have HB3:Hid (Below w.heap.size w x1):=hB3;have HR3:Hid (Rdr x1 w.heap.size l n2 b2 g2):=hR3;have c1:x1.cell? ⟨w.heap.size,1,none⟩=some (.int .i64 (n2:Int)):=Row.cell hR3 (i:=1) rfl;have c2:x1.cell? ⟨w.heap.size,2,none⟩=some (.bool b2):=Row.cell hR3 (i:=2) rfl;have c3:x1.cell? ⟨w.heap.size,3,none⟩=some (.bool g2):=Row.cell hR3 (i:=3) rfl;have fR:=Row.frozen hR3;have lR:=Row.lt hR3;clear hown1 hgrow1 hB3 hR3 hR2 hB2 hO2 HNW hneR;cases b2 with
     | true =>
      have HP:Hid (parseS l=([],40)):=HPA.out.1 (HST.out.1 rfl);go_wp2;refine bodyPost_ret (results_tmp2 rfl _ _ _) rfl ⟨.slice none 0 0,by rw[HP.out];rfl,by rw[HP.out];exact World.ownsRow_nil _ _ _ _,HB3.out⟩
     | false =>
      by_cases hn:n2=(bs l).size
      ·have e1:((n2:Int)==((bs l).size:Int))=true:=by rw[beq_iff_eq];omega
       have HST2:Hid _:=HST.out.2.1 (by unfold okD;rw[decide_eq_true (show l.length<=n2 by rw[hn,HSL.out];exact Nat.le_refl _)];rfl) (by rw[hn,HSL.out]);have HP:Hid (parseS l=if g2 then ([],3) else (xs++[x2],0)):=by show _=_;rw[HPA.out.2 _ HST2.out.1,<-HST2.out.2]
       clear hn HST;cases g2 with
       | true =>
        rw[if_pos rfl] at HP;go_wp2;refine bodyPost_ret (results_tmp2 rfl _ _ _) rfl ⟨.slice none 0 0,by rw[HP.out];rfl,by rw[HP.out];exact World.ownsRow_nil _ _ _ _,HB3.out⟩
       | false =>
        rw[if_neg (by decide)] at HP;go_wp2;refine bodyPost_ret (results_tmp2 rfl _ _ _) rfl ⟨.slice g1 (L0+1) k1,by rw[HP.out];rfl,by rw[HP.out];exact HOWN.out,HB3.out⟩
      ·have hlt:n2<l.length:=by have:=HSL.out;omega
       have hltb:n2<(bs l).size:=by have:=HSL.out;omega
       have e1:((n2:Int)==((bs l).size:Int))=false:=by rw[beq_eq_false_iff_ne];omega
       have HAT:Hid ((bs l)[n2]'hltb=atB l n2):=atB_bs hltb;obtain⟨y,hy⟩:∃y:Int,(((bs l)[n2]'hltb).toNat:Int)=y:=⟨_,rfl⟩;have hy2:(y==59)=decide (atB l n2=59):=by rw[<-hy,HAT.out];exact u8_eq _ 59 (by decide)
       have e4:(((L0:Int)+1)==4)=decide (L0=3):=by
        by_cases h:L0=3
        ·rw[decide_eq_true h,beq_iff_eq];omega
        ·rw[decide_eq_false h,beq_eq_false_iff_ne];omega
       have hok:okD l n2 false=decide (atB l n2=59):=by unfold okD;rw[decide_eq_false (show ¬ l.length<=n2 by omega)];rfl
       by_cases h59:atB l n2=59
       ·have n59:(y != 59)=false:=by rw[bne,hy2,decide_eq_true h59];rfl
        rw[decide_eq_true h59] at hok;by_cases h3:L0=3
        ·rw[decide_eq_true h3] at e4;have HP:Hid (parseS l=([],40)):=HPA.out.1 (HST.out.2.2.1 hok hlt (by rw[HL0.out];exact h3));clear hy2 h59 h3 hok HST hn HAT e3 hL3;go_wp2;refine bodyPost_ret (results_tmp2 rfl _ _ _) rfl ⟨.slice none 0 0,by rw[HP.out];rfl,by rw[HP.out];exact World.ownsRow_nil _ _ _ _,below_set HB3.out (B:=w.heap.size) 2 (.bool true) (Nat.le_refl _)⟩
        ·rw[decide_eq_false h3] at e4;have HN:Hid (PdI l (n2+1) (xs++[x2]) g2):=HST.out.2.2.2 hok hlt (by rw[HL0.out];exact h3);clear hy2 h59 h3 hok HST hn HAT e3 hL3 c3;go_wp2;have r1:Rdr (x1.setCell ⟨w.heap.size,1,none⟩ (.int .i64 ((n2+1:Nat):Int))) w.heap.size l (n2+1) false g2:=Row.set 1 _ HR3.out;refine⟨⟨n2+1,xs++[x2],g2,HN.out,r1,?_,below_set HB3.out (B:=w.heap.size) 1 _ (Nat.le_refl _)⟩,?_⟩
         ·exact owns_kept HOWN.out ((Kept.refl (fun k=>k≠w.heap.size) x1).setCell (p:=⟨w.heap.size,1,none⟩) (fun e=>e rfl) _) (fun k hk e=>row_ne HOWN.out HR3.out (by decide) (by rw[hk,e]))
         ·show 4-(L0+1)<4-L0;have:=HL3.out;omega
       ·have n59:(y != 59)=true:=by rw[bne,hy2,decide_eq_false h59];rfl
        rw[decide_eq_false h59] at hok;have HP:Hid (parseS l=([],40)):=HPA.out.1 (HST.out.1 hok);clear hy2 h59 hok HST hn HAT e3 hL3 e4;go_wp2;refine bodyPost_ret (results_tmp2 rfl _ _ _) rfl ⟨.slice none 0 0,by rw[HP.out];rfl,by rw[HP.out];exact World.ownsRow_nil _ _ _ _,below_set HB3.out (B:=w.heap.size) 2 (.bool true) (Nat.le_refl _)⟩
end Go.Proofs.YtoncpcdepemlcaaGreatDoor
namespace Go.Proofs.YtoncpcdepemlcaaGreatDoor
set_option maxRecDepth 100000
set_option maxHeartbeats 1000000
open Go.RowKit Go.Shelf
theorem lits_keep:LitsC:=fun R S l x hl hne h2 hpc w hR hS hM=>nlits_any R S l x hl hne h2 hpc w hR hS hM
theorem nparse_long (l:List UInt8) (hl:64<l.length) (w:World):Calls Tryz.prog 6 #[.string (bs l)] w (ParseR l w):=by
 have hp:parseS l=([],3):=by unfold parseS;rw[if_pos hl]
 have HP:Hid (parseS l=([],3)):=hp;have hs:(64:Int)<((bs l).size:Int):=by rw[bs_size];omega
 have r2:=(Row.new w 22 #[.slice none 0 0]).alloc (.cells #[.int .i64 0] 23);have r3:=Row.new1 w (.cells #[.slice none 0 0] 22) 23 #[.int .i64 0];have hB:Below w.heap.size w ((w.alloc (.cells #[.slice none 0 0] 22)).alloc (.cells #[.int .i64 0] 23)):=below_allocS (below_allocS (Below.refl _ w) _) _;clear hp hl;go_enter Tryz.func6,Tryz.ntmps6;go_upto_region 1 with fail
 generalize (w.alloc (.cells #[.slice none 0 0] 22)).alloc (.cells #[.int .i64 0] 23)=W at *;have c2:=r2.cell (i:=0) rfl;have z2:=r2.frozen;have l2:=r2.lt;have c3:=r3.cell (i:=0) rfl;have z3:=r3.frozen;have l3:=r3.lt;have k2:=(r2.set 0 (.slice none 0 0)).off (B':=w.heap.size+1) 0 (.int .i64 3) (by omega);have k3:=(r3.off (B':=w.heap.size) 0 (.slice none 0 0) (by omega)).set 0 (.int .i64 3);have k9:=below_set (below_set hB (B:=w.heap.size) 0 (.slice none 0 0) (Nat.le_refl _)) (B:=w.heap.size+1) 0 (.int .i64 3) (by omega);go_wp2;refine bodyPost_ret (ret_cells rfl (g:=w.heap.size) (g2:=w.heap.size+1) rfl rfl (load22 k2) (loadE k3)) rfl ⟨.slice none 0 0,by rw[HP.out],by rw[HP.out];exact World.ownsRow_nil _ _ _ _,k9⟩
theorem nparse_gen (w:World):Calls Tryz.prog 6 #[.string (bs genL)] w (ParseR genL w):=by
 have HP:Hid (parseS genL=([],0)):=by show _=_;unfold parseS;rw[if_neg (by decide),if_pos rfl]
 have hg:(bs genL).toList=[71,101,110,101,114,97,108]:=bs_toList genL;have hs:¬ (64:Int)<((bs genL).size:Int):=by rw[bs_size];decide
 have r2:=(Row.new w 22 #[.slice none 0 0]).alloc (.cells #[.int .i64 0] 23);have r3:=Row.new1 w (.cells #[.slice none 0 0] 22) 23 #[.int .i64 0];have hB:Below w.heap.size w ((w.alloc (.cells #[.slice none 0 0] 22)).alloc (.cells #[.int .i64 0] 23)):=below_allocS (below_allocS (Below.refl _ w) _) _;obtain⟨gs,hgs⟩:∃gs,bs genL=gs:=⟨_,rfl⟩;rw[hgs] at hg hs ⊢;clear hgs;go_enter Tryz.func6,Tryz.ntmps6;go_upto_region 1 with fail
 generalize (w.alloc (.cells #[.slice none 0 0] 22)).alloc (.cells #[.int .i64 0] 23)=W at *;have c2:=r2.cell (i:=0) rfl;have z2:=r2.frozen;have l2:=r2.lt;have c3:=r3.cell (i:=0) rfl;have z3:=r3.frozen;have l3:=r3.lt;have k2:=(r2.set 0 (.slice none 0 0)).off (B':=w.heap.size+1) 0 (.int .i64 0) (by omega);have k3:=(r3.off (B':=w.heap.size) 0 (.slice none 0 0) (by omega)).set 0 (.int .i64 0);have k9:=below_set (below_set hB (B:=w.heap.size) 0 (.slice none 0 0) (Nat.le_refl _)) (B:=w.heap.size+1) 0 (.int .i64 0) (by omega);go_wp2;refine bodyPost_ret (ret_cells rfl (g:=w.heap.size) (g2:=w.heap.size+1) rfl rfl (load22 k2) (loadE k3)) rfl ⟨.slice none 0 0,by rw[HP.out],by rw[HP.out];exact World.ownsRow_nil _ _ _ _,k9⟩
theorem nparse_dark (l:List UInt8) (hl:l.length<=64) (hg:l≠genL) (hv:visB l=false) (w:World):Calls Tryz.prog 6 #[.string (bs l)] w (ParseR l w):=by
 have HP:Hid (parseS l=([],40)):=by show _=_;unfold parseS;rw[if_neg (by omega),if_neg hg,if_pos hv]
 have HV:∀ V,Hid (Calls Tryz.prog 17 #[.string (bs l)] V fun r w'=>r=.returned (.bool false)/\w'=V):=fun V=>by have:=nvisible_any l hl V;rw[hv] at this;exact this
 have hgl:((bs l).toList==[71,101,110,101,114,97,108])=false:=by rw[bs_toList,beq_eq_false_iff_ne];exact hg
 have hs:¬ (64:Int)<((bs l).size:Int):=by rw[bs_size];omega
 have r2:=(Row.new w 22 #[.slice none 0 0]).alloc (.cells #[.int .i64 0] 23);have r3:=Row.new1 w (.cells #[.slice none 0 0] 22) 23 #[.int .i64 0];have hB:Below w.heap.size w ((w.alloc (.cells #[.slice none 0 0] 22)).alloc (.cells #[.int .i64 0] 23)):=below_allocS (below_allocS (Below.refl _ w) _) _;clear hl hg hv;go_enter Tryz.func6,Tryz.ntmps6;go_upto_region 1 with fail
 generalize (w.alloc (.cells #[.slice none 0 0] 22)).alloc (.cells #[.int .i64 0] 23)=W at *;have c2:=r2.cell (i:=0) rfl;have z2:=r2.frozen;have l2:=r2.lt;have c3:=r3.cell (i:=0) rfl;have z3:=r3.frozen;have l3:=r3.lt;have k2:=(r2.set 0 (.slice none 0 0)).off (B':=w.heap.size+1) 0 (.int .i64 40) (by omega);have k3:=(r3.off (B':=w.heap.size) 0 (.slice none 0 0) (by omega)).set 0 (.int .i64 40);have k9:=below_set (below_set hB (B:=w.heap.size) 0 (.slice none 0 0) (Nat.le_refl _)) (B:=w.heap.size+1) 0 (.int .i64 40) (by omega);go_wp2_with fail;refine Calls.mono (HV _).out ?_;rintro _ w1 ⟨rfl,rfl⟩;go_wp2;refine bodyPost_ret (ret_cells rfl (g:=w.heap.size) (g2:=w.heap.size+1) rfl rfl (load22 k2) (loadE k3)) rfl ⟨.slice none 0 0,by rw[HP.out],by rw[HP.out];exact World.ownsRow_nil _ _ _ _,k9⟩
theorem nparse_any (l:List UInt8) (w:World) (hM:MaxAt w) (h3:2<w.heap.size):Calls Tryz.prog 6 #[.string (bs l)] w (ParseR l w):=by
 by_cases hl:64<l.length
 ·exact nparse_long l hl w
 ·by_cases hg:l=genL
  ·subst hg;exact nparse_gen w
  ·cases hv:visB l with
   | false=>exact nparse_dark l (by omega) hg hv w
   | true=>exact callsIn_wide.1 (nparse_main lits_keep l (by omega) hg hv w hM h3)
set_option maxRecDepth 100000
set_option maxHeartbeats 2000000
open Go.RowKit
def SecAt (V : World) (g j : Nat) (x : Sec) : Prop := ∀ (i : Nat) (v : Value), x.cells[i]? = some v → V.cell? ⟨g, j * 11 + i, none⟩ = some v
theorem flat_at : ∀ (xs : List Sec) (j : Nat) (x : Sec), xs[j]? = some x → ∀ (i : Nat) (v : Value), x.cells[i]? = some v → (flatS xs)[j * 11 + i]? = some v
  | [], j, x, h, _, _, _ => by simp at h
  | y :: r, 0, x, h, i, v, hv => by
    simp at h
    subst h
    unfold flatS
    rw [List.flatMap_cons, List.getElem?_append_left (by
      have := (Array.getElem?_eq_some_iff.1 hv).1
      simp; omega)]
    simpa using hv
  | y :: r, j + 1, x, h, i, v, hv => by
    have ih := flat_at r j x (by simpa using h) i v hv
    unfold flatS at *
    have hl : y.cells.toList.length = 11 := rfl
    rw [List.flatMap_cons, List.getElem?_append_right (by omega), hl, show (j + 1) * 11 + i - 11 = j * 11 + i by omega]
    exact ih
def SecsIn (V : World) (v : Value) (xs : List Sec) : Prop := ∃ g c, v = .slice (some ⟨g, 0, none⟩) xs.length c ∧ g < V.heap.size ∧ ∀ j x, xs[j]? = some x → SecAt V g j x
theorem secs_of_own {V:World} {N:Nat} {v:Value} {xs:List Sec} (h:V.ownsRow N 33 11 v xs.length (flatS xs)) (hx:xs≠[]):SecsIn V v xs:=by
 rcases h.2 with ⟨rfl,h0⟩|⟨g,c,cur,rfl,hb,hg,_,_,hs,ht⟩
 ·exact absurd (List.length_eq_zero_iff.1 h0) hx
 ·refine⟨g,c,rfl,(Array.getElem?_eq_some_iff.1 hg).1,fun j x hj i v hv => ?_⟩;have hf:=flat_at xs j x hj i v hv;rw[<-ht] at hf;have hf2:cur[j*11+i]? = some v:=by
   rw[List.getElem?_take] at hf;split at hf
   ·simpa using hf
   ·cases hf
  simp[World.cell?,hg,hf2]
theorem SecsIn.below {V V':World} {v:Value} {xs:List Sec} (h:SecsIn V v xs) (b:Below V.heap.size V V'):SecsIn V' v xs:=by
 obtain⟨g,c,e,hg,hs⟩:=h;exact⟨g,c,e,Nat.lt_of_lt_of_le hg b.size,fun j x hj i v hv=>(World.cell?_of_block (w:=V) (b.block g hg)).trans (hs j x hj i v hv)⟩
theorem SecAt.all {V:World} {g j:Nat} {x:Sec} (h:SecAt V g j x):∀(i:Nat) (v:Value),x.cells[i]? = some v→V.cell? ⟨g,j*11+i,none⟩=some v:=h
theorem chosen_one (g n c:Nat) (s:Int) (t0 t1:ByteArray) (n2 n3:Int) (b4:Bool) (n5 n6:Int) (b7:Bool) (n8:Int) (b9 b10:Bool) (hs:s<0) (hn:(1:Int)<(n:Int)) (w:World) (hg:g<w.heap.size) (hx:∀(i:Nat) (v:Value),#[.string t0,.string t1,.int .i64 n2,.int .i64 n3,.bool b4,.int .i64 n5,.int .i64 n6,.bool b7,.int .i64 n8,.bool b9,.bool b10][i]? = some v->w.cell? ⟨g,11+i,none⟩=some v):Calls Tryz.prog 49 #[.slice (some ⟨g,0,none⟩) n c,.int .i64 s] w fun r w'=>r=.returned (.agg #[.string t0,.string t1,.int .i64 n2,.int .i64 n3,.bool b4,.int .i64 n5,.int .i64 n6,.bool b7,.int .i64 n8,.bool b9,.bool b10])/\Below w.heap.size w w':=by
 have rZ:=Row.new w 33 #[.string ⟨#[]⟩,.string ⟨#[]⟩,.int .i64 0,.int .i64 0,.bool false,.int .i64 0,.int .i64 0,.bool false,.int .i64 0,.bool false,.bool false];have hB:Below w.heap.size w (w.alloc (.cells #[.string ⟨#[]⟩,.string ⟨#[]⟩,.int .i64 0,.int .i64 0,.bool false,.int .i64 0,.int .i64 0,.bool false,.int .i64 0,.bool false,.bool false] 33)):=below_allocS (Below.refl _ w) _;have hc:∀(i:Nat) (v:Value),#[.string t0,.string t1,.int .i64 n2,.int .i64 n3,.bool b4,.int .i64 n5,.int .i64 n6,.bool b7,.int .i64 n8,.bool b9,.bool b10][i]? = some v->(w.alloc (.cells #[.string ⟨#[]⟩,.string ⟨#[]⟩,.int .i64 0,.int .i64 0,.bool false,.int .i64 0,.int .i64 0,.bool false,.int .i64 0,.bool false,.bool false] 33)).cell? ⟨g,11+i,none⟩=some v:=fun i v h=>(World.cell?_of_block (w:=w) (hB.block g hg)).trans (hx i v h);have hgn:g≠w.heap.size:=by omega
 have o0:=hc 0 _ rfl;have o1:=hc 1 _ rfl;have o2:=hc 2 _ rfl;have o3:=hc 3 _ rfl;have o4:=hc 4 _ rfl;have o5:=hc 5 _ rfl;have o6:=hc 6 _ rfl;have o7:=hc 7 _ rfl;have o8:=hc 8 _ rfl;have o9:=hc 9 _ rfl;have o10:=hc 10 _ rfl;simp only[Nat.reduceAdd] at o0 o1 o2 o3 o4 o5 o6 o7 o8 o9 o10;clear hx hc;go_enter Tryz.func49,Tryz.ntmps49;go_upto_region 1 with fail
 generalize w.alloc (.cells #[.string ⟨#[]⟩,.string ⟨#[]⟩,.int .i64 0,.int .i64 0,.bool false,.int .i64 0,.int .i64 0,.bool false,.int .i64 0,.bool false,.bool false] 33)=W at *;obtain⟨z0,z1,z2,z3,z4,z5,z6,z7,z8,z9,z10⟩:=rZ.sec;have zf:=rZ.frozen;have zl:=rZ.lt;go_wp2;refine bodyPost_ret (ret_one rfl (g:=w.heap.size) rfl (load33 (Row.set11 rZ _ _ _ _ _ _ _ _ _ _ _) rfl)) rfl ⟨rfl,?_⟩;repeat (refine below_set ?_ _ _ (Nat.le_refl _))
 exact hB
theorem chosen_two (g n c:Nat) (t0 t1:ByteArray) (n2 n3:Int) (b4:Bool) (n5 n6:Int) (b7:Bool) (n8:Int) (b9 b10:Bool) (hn:(2:Int)<(n:Int)) (w:World) (hg:g<w.heap.size) (hx:∀(i:Nat) (v:Value),#[.string t0,.string t1,.int .i64 n2,.int .i64 n3,.bool b4,.int .i64 n5,.int .i64 n6,.bool b7,.int .i64 n8,.bool b9,.bool b10][i]? = some v->w.cell? ⟨g,22+i,none⟩=some v):Calls Tryz.prog 49 #[.slice (some ⟨g,0,none⟩) n c,.int .i64 0] w fun r w'=>r=.returned (.agg #[.string t0,.string t1,.int .i64 n2,.int .i64 n3,.bool b4,.int .i64 n5,.int .i64 n6,.bool b7,.int .i64 n8,.bool b9,.bool b10])/\Below w.heap.size w w':=by
 have rZ:=Row.new w 33 #[.string ⟨#[]⟩,.string ⟨#[]⟩,.int .i64 0,.int .i64 0,.bool false,.int .i64 0,.int .i64 0,.bool false,.int .i64 0,.bool false,.bool false];have hB:Below w.heap.size w (w.alloc (.cells #[.string ⟨#[]⟩,.string ⟨#[]⟩,.int .i64 0,.int .i64 0,.bool false,.int .i64 0,.int .i64 0,.bool false,.int .i64 0,.bool false,.bool false] 33)):=below_allocS (Below.refl _ w) _;have hc:∀(i:Nat) (v:Value),#[.string t0,.string t1,.int .i64 n2,.int .i64 n3,.bool b4,.int .i64 n5,.int .i64 n6,.bool b7,.int .i64 n8,.bool b9,.bool b10][i]? = some v->(w.alloc (.cells #[.string ⟨#[]⟩,.string ⟨#[]⟩,.int .i64 0,.int .i64 0,.bool false,.int .i64 0,.int .i64 0,.bool false,.int .i64 0,.bool false,.bool false] 33)).cell? ⟨g,22+i,none⟩=some v:=fun i v h=>(World.cell?_of_block (w:=w) (hB.block g hg)).trans (hx i v h);have hgn:g≠w.heap.size:=by omega
 have o0:=hc 0 _ rfl;have o1:=hc 1 _ rfl;have o2:=hc 2 _ rfl;have o3:=hc 3 _ rfl;have o4:=hc 4 _ rfl;have o5:=hc 5 _ rfl;have o6:=hc 6 _ rfl;have o7:=hc 7 _ rfl;have o8:=hc 8 _ rfl;have o9:=hc 9 _ rfl;have o10:=hc 10 _ rfl;simp only[Nat.reduceAdd] at o0 o1 o2 o3 o4 o5 o6 o7 o8 o9 o10;clear hx hc;go_enter Tryz.func49,Tryz.ntmps49;go_upto_region 1 with fail
 generalize w.alloc (.cells #[.string ⟨#[]⟩,.string ⟨#[]⟩,.int .i64 0,.int .i64 0,.bool false,.int .i64 0,.int .i64 0,.bool false,.int .i64 0,.bool false,.bool false] 33)=W at *;obtain⟨z0,z1,z2,z3,z4,z5,z6,z7,z8,z9,z10⟩:=rZ.sec;have zf:=rZ.frozen;have zl:=rZ.lt;go_wp2;refine bodyPost_ret (ret_one rfl (g:=w.heap.size) rfl (load33 (Row.set11 rZ _ _ _ _ _ _ _ _ _ _ _) rfl)) rfl ⟨rfl,?_⟩;repeat (refine below_set ?_ _ _ (Nat.le_refl _))
 exact hB
theorem chosen_neg (g c:Nat) (s:Int) (t0 t1:ByteArray) (n2 n3:Int) (b4:Bool) (n5 n6:Int) (b7:Bool) (n8:Int) (b9 b10:Bool) (hs:s<0) (w:World) (hg:g<w.heap.size) (hx:∀(i:Nat) (v:Value),#[.string t0,.string t1,.int .i64 n2,.int .i64 n3,.bool b4,.int .i64 n5,.int .i64 n6,.bool b7,.int .i64 n8,.bool b9,.bool b10][i]? = some v->w.cell? ⟨g,0+i,none⟩=some v):Calls Tryz.prog 49 #[.slice (some ⟨g,0,none⟩) 1 c,.int .i64 s] w fun r w'=>r=.returned (.agg #[.string t0,.string t1,.int .i64 n2,.int .i64 n3,.bool b4,.int .i64 n5,.int .i64 n6,.bool b7,.int .i64 n8,.bool b9,.bool b10])/\Below w.heap.size w w':=by
 have rZ:=Row.new w 33 #[.string ⟨#[]⟩,.string ⟨#[]⟩,.int .i64 0,.int .i64 0,.bool false,.int .i64 0,.int .i64 0,.bool false,.int .i64 0,.bool false,.bool false];have hB:Below w.heap.size w (w.alloc (.cells #[.string ⟨#[]⟩,.string ⟨#[]⟩,.int .i64 0,.int .i64 0,.bool false,.int .i64 0,.int .i64 0,.bool false,.int .i64 0,.bool false,.bool false] 33)):=below_allocS (Below.refl _ w) _;have hc:∀(i:Nat) (v:Value),#[.string t0,.string t1,.int .i64 n2,.int .i64 n3,.bool b4,.int .i64 n5,.int .i64 n6,.bool b7,.int .i64 n8,.bool b9,.bool b10][i]? = some v->(w.alloc (.cells #[.string ⟨#[]⟩,.string ⟨#[]⟩,.int .i64 0,.int .i64 0,.bool false,.int .i64 0,.int .i64 0,.bool false,.int .i64 0,.bool false,.bool false] 33)).cell? ⟨g,0+i,none⟩=some v:=fun i v h=>(World.cell?_of_block (w:=w) (hB.block g hg)).trans (hx i v h);have hgn:g≠w.heap.size:=by omega
 have o0:=hc 0 _ rfl;have o1:=hc 1 _ rfl;have o2:=hc 2 _ rfl;have o3:=hc 3 _ rfl;have o4:=hc 4 _ rfl;have o5:=hc 5 _ rfl;have o6:=hc 6 _ rfl;have o7:=hc 7 _ rfl;have o8:=hc 8 _ rfl;have o9:=hc 9 _ rfl;have o10:=hc 10 _ rfl;simp only[Nat.reduceAdd] at o0 o1 o2 o3 o4 o5 o6 o7 o8 o9 o10;clear hx hc;go_enter Tryz.func49,Tryz.ntmps49;go_upto_region 1 with fail
 generalize w.alloc (.cells #[.string ⟨#[]⟩,.string ⟨#[]⟩,.int .i64 0,.int .i64 0,.bool false,.int .i64 0,.int .i64 0,.bool false,.int .i64 0,.bool false,.bool false] 33)=W at *;obtain⟨z0,z1,z2,z3,z4,z5,z6,z7,z8,z9,z10⟩:=rZ.sec;have zf:=rZ.frozen;have zl:=rZ.lt;go_wp2;refine bodyPost_ret (ret_one rfl (g:=w.heap.size) rfl (load33 (Row.set11 rZ _ _ _ _ _ _ _ _ _ _ _) rfl)) rfl ⟨rfl,?_⟩;repeat (refine below_set ?_ _ _ (Nat.le_refl _))
 exact hB
theorem chosen_pos (g n c:Nat) (s:Int) (t0 t1:ByteArray) (n2 n3:Int) (b4:Bool) (n5 n6:Int) (b7:Bool) (n8:Int) (b9 b10:Bool) (hn:(0:Int)<(n:Int)) (hs1:¬ s<0) (hs2:(s==0)=false) (w:World) (hg:g<w.heap.size) (hx:∀(i:Nat) (v:Value),#[.string t0,.string t1,.int .i64 n2,.int .i64 n3,.bool b4,.int .i64 n5,.int .i64 n6,.bool b7,.int .i64 n8,.bool b9,.bool b10][i]? = some v->w.cell? ⟨g,0+i,none⟩=some v):Calls Tryz.prog 49 #[.slice (some ⟨g,0,none⟩) n c,.int .i64 s] w fun r w'=>r=.returned (.agg #[.string t0,.string t1,.int .i64 n2,.int .i64 n3,.bool b4,.int .i64 n5,.int .i64 n6,.bool b7,.int .i64 n8,.bool b9,.bool b10])/\Below w.heap.size w w':=by
 have rZ:=Row.new w 33 #[.string ⟨#[]⟩,.string ⟨#[]⟩,.int .i64 0,.int .i64 0,.bool false,.int .i64 0,.int .i64 0,.bool false,.int .i64 0,.bool false,.bool false];have hB:Below w.heap.size w (w.alloc (.cells #[.string ⟨#[]⟩,.string ⟨#[]⟩,.int .i64 0,.int .i64 0,.bool false,.int .i64 0,.int .i64 0,.bool false,.int .i64 0,.bool false,.bool false] 33)):=below_allocS (Below.refl _ w) _;have hc:∀(i:Nat) (v:Value),#[.string t0,.string t1,.int .i64 n2,.int .i64 n3,.bool b4,.int .i64 n5,.int .i64 n6,.bool b7,.int .i64 n8,.bool b9,.bool b10][i]? = some v->(w.alloc (.cells #[.string ⟨#[]⟩,.string ⟨#[]⟩,.int .i64 0,.int .i64 0,.bool false,.int .i64 0,.int .i64 0,.bool false,.int .i64 0,.bool false,.bool false] 33)).cell? ⟨g,0+i,none⟩=some v:=fun i v h=>(World.cell?_of_block (w:=w) (hB.block g hg)).trans (hx i v h);have hgn:g≠w.heap.size:=by omega
 have o0:=hc 0 _ rfl;have o1:=hc 1 _ rfl;have o2:=hc 2 _ rfl;have o3:=hc 3 _ rfl;have o4:=hc 4 _ rfl;have o5:=hc 5 _ rfl;have o6:=hc 6 _ rfl;have o7:=hc 7 _ rfl;have o8:=hc 8 _ rfl;have o9:=hc 9 _ rfl;have o10:=hc 10 _ rfl;simp only[Nat.reduceAdd] at o0 o1 o2 o3 o4 o5 o6 o7 o8 o9 o10;clear hx hc;go_enter Tryz.func49,Tryz.ntmps49;go_upto_region 1 with fail
 generalize w.alloc (.cells #[.string ⟨#[]⟩,.string ⟨#[]⟩,.int .i64 0,.int .i64 0,.bool false,.int .i64 0,.int .i64 0,.bool false,.int .i64 0,.bool false,.bool false] 33)=W at *;obtain⟨z0,z1,z2,z3,z4,z5,z6,z7,z8,z9,z10⟩:=rZ.sec;have zf:=rZ.frozen;have zl:=rZ.lt;go_wp2;refine bodyPost_ret (ret_one rfl (g:=w.heap.size) rfl (load33 (Row.set11 rZ _ _ _ _ _ _ _ _ _ _ _) rfl)) rfl ⟨rfl,?_⟩;repeat (refine below_set ?_ _ _ (Nat.le_refl _))
 exact hB
theorem chosen_nought (g n c:Nat) (t0 t1:ByteArray) (n2 n3:Int) (b4:Bool) (n5 n6:Int) (b7:Bool) (n8:Int) (b9 b10:Bool) (hn:(0:Int)<(n:Int)) (hn2:¬ (2:Int)<(n:Int)) (w:World) (hg:g<w.heap.size) (hx:∀(i:Nat) (v:Value),#[.string t0,.string t1,.int .i64 n2,.int .i64 n3,.bool b4,.int .i64 n5,.int .i64 n6,.bool b7,.int .i64 n8,.bool b9,.bool b10][i]? = some v->w.cell? ⟨g,0+i,none⟩=some v):Calls Tryz.prog 49 #[.slice (some ⟨g,0,none⟩) n c,.int .i64 0] w fun r w'=>r=.returned (.agg #[.string t0,.string t1,.int .i64 n2,.int .i64 n3,.bool b4,.int .i64 n5,.int .i64 n6,.bool b7,.int .i64 n8,.bool b9,.bool b10])/\Below w.heap.size w w':=by
 have rZ:=Row.new w 33 #[.string ⟨#[]⟩,.string ⟨#[]⟩,.int .i64 0,.int .i64 0,.bool false,.int .i64 0,.int .i64 0,.bool false,.int .i64 0,.bool false,.bool false];have hB:Below w.heap.size w (w.alloc (.cells #[.string ⟨#[]⟩,.string ⟨#[]⟩,.int .i64 0,.int .i64 0,.bool false,.int .i64 0,.int .i64 0,.bool false,.int .i64 0,.bool false,.bool false] 33)):=below_allocS (Below.refl _ w) _;have hc:∀(i:Nat) (v:Value),#[.string t0,.string t1,.int .i64 n2,.int .i64 n3,.bool b4,.int .i64 n5,.int .i64 n6,.bool b7,.int .i64 n8,.bool b9,.bool b10][i]? = some v->(w.alloc (.cells #[.string ⟨#[]⟩,.string ⟨#[]⟩,.int .i64 0,.int .i64 0,.bool false,.int .i64 0,.int .i64 0,.bool false,.int .i64 0,.bool false,.bool false] 33)).cell? ⟨g,0+i,none⟩=some v:=fun i v h=>(World.cell?_of_block (w:=w) (hB.block g hg)).trans (hx i v h);have hgn:g≠w.heap.size:=by omega
 have o0:=hc 0 _ rfl;have o1:=hc 1 _ rfl;have o2:=hc 2 _ rfl;have o3:=hc 3 _ rfl;have o4:=hc 4 _ rfl;have o5:=hc 5 _ rfl;have o6:=hc 6 _ rfl;have o7:=hc 7 _ rfl;have o8:=hc 8 _ rfl;have o9:=hc 9 _ rfl;have o10:=hc 10 _ rfl;simp only[Nat.reduceAdd] at o0 o1 o2 o3 o4 o5 o6 o7 o8 o9 o10;clear hx hc;go_enter Tryz.func49,Tryz.ntmps49;go_upto_region 1 with fail
 generalize w.alloc (.cells #[.string ⟨#[]⟩,.string ⟨#[]⟩,.int .i64 0,.int .i64 0,.bool false,.int .i64 0,.int .i64 0,.bool false,.int .i64 0,.bool false,.bool false] 33)=W at *;obtain⟨z0,z1,z2,z3,z4,z5,z6,z7,z8,z9,z10⟩:=rZ.sec;have zf:=rZ.frozen;have zl:=rZ.lt;go_wp2;refine bodyPost_ret (ret_one rfl (g:=w.heap.size) rfl (load33 (Row.set11 rZ _ _ _ _ _ _ _ _ _ _ _) rfl)) rfl ⟨rfl,?_⟩;repeat (refine below_set ?_ _ _ (Nat.le_refl _))
 exact hB
open Go.Shelf
attribute [local go_sem] Oper.semAt_some
structure Bti (w : World) : Prop where
  c0 : w.cell? ⟨0, 0, none⟩ = some (.int .i64 0)
  c1 : w.cell? ⟨0, 1, none⟩ = some (.string ⟨#[71, 101, 110, 101, 114, 97, 108]⟩)
  c2 : w.cell? ⟨0, 2, none⟩ = some (.int .i64 1)
  c3 : w.cell? ⟨0, 3, none⟩ = some (.string ⟨#[48]⟩)
  c4 : w.cell? ⟨0, 4, none⟩ = some (.int .i64 2)
  c5 : w.cell? ⟨0, 5, none⟩ = some (.string ⟨#[48, 46, 48, 48]⟩)
  c6 : w.cell? ⟨0, 6, none⟩ = some (.int .i64 3)
  c7 : w.cell? ⟨0, 7, none⟩ = some (.string ⟨#[35, 44, 35, 35, 48]⟩)
  c8 : w.cell? ⟨0, 8, none⟩ = some (.int .i64 4)
  c9 : w.cell? ⟨0, 9, none⟩ = some (.string ⟨#[35, 44, 35, 35, 48, 46, 48, 48]⟩)
  c10 : w.cell? ⟨0, 10, none⟩ = some (.int .i64 9)
  c11 : w.cell? ⟨0, 11, none⟩ = some (.string ⟨#[48, 37]⟩)
  c12 : w.cell? ⟨0, 12, none⟩ = some (.int .i64 10)
  c13 : w.cell? ⟨0, 13, none⟩ = some (.string ⟨#[48, 46, 48, 48, 37]⟩)
theorem Bti.next {w w':World} (h:Bti w) (b:Below w.heap.size w w'):Bti w':=by
 have hl:0<w.heap.size:=World.block_lt_of_cell? _ _ h.c0;have hc:∀i,w'.cell? ⟨0,i,none⟩=w.cell? ⟨0,i,none⟩:=fun i=>World.cell?_of_block (w:=w) (b.block 0 hl);exact⟨(hc 0).trans h.c0,(hc 1).trans h.c1,(hc 2).trans h.c2,(hc 3).trans h.c3,(hc 4).trans h.c4,(hc 5).trans h.c5,(hc 6).trans h.c6,(hc 7).trans h.c7,(hc 8).trans h.c8,(hc 9).trans h.c9,(hc 10).trans h.c10,(hc 11).trans h.c11,(hc 12).trans h.c12,(hc 13).trans h.c13⟩
def bids : List Int := [0, 1, 2, 3, 4, 9, 10]
def bcodes : List (List UInt8) := [[71, 101, 110, 101, 114, 97, 108], [48], [48, 46, 48, 48], [35, 44, 35, 35, 48], [35, 44, 35, 35, 48, 46, 48, 48], [48, 37], [48, 46, 48, 48, 37]]
def biS (id : Int) : List UInt8 := if id = 0 then [71, 101, 110, 101, 114, 97, 108] else if id = 1 then [48] else if id = 2 then [48, 46, 48, 48] else if id = 3 then [35, 44, 35, 35, 48] else if id = 4 then [35, 44, 35, 35, 48, 46, 48, 48] else if id = 9 then [48, 37] else if id = 10 then [48, 46, 48, 48, 37] else []
def biB (id : Int) : Bool := decide (id ∈ bids)
def idOf (l : List UInt8) : Int := if l = [71, 101, 110, 101, 114, 97, 108] then 0 else if l = [48] then 1 else if l = [48, 46, 48, 48] then 2 else if l = [35, 44, 35, 35, 48] then 3 else if l = [35, 44, 35, 35, 48, 46, 48, 48] then 4 else if l = [48, 37] then 9 else if l = [48, 46, 48, 48, 37] then 10 else -1
def noId (i : Nat) (id : Int) : Prop := ∀ t ∈ bids.take i, id ≠ t
def noCd (i : Nat) (l : List UInt8) : Prop := ∀ t ∈ bcodes.take i, l ≠ t
theorem noId.none {id:Int} (h:noId 7 id):biS id=[]/\biB id=false:=by
 have h':∀t ∈ bids,id≠t:=h;refine⟨?_,decide_eq_false (fun hm=>h' id hm rfl)⟩;unfold biS;rw[if_neg (h' 0 (by decide)),if_neg (h' 1 (by decide)),if_neg (h' 2 (by decide)),if_neg (h' 3 (by decide)),if_neg (h' 4 (by decide)),if_neg (h' 9 (by decide)),if_neg (h' 10 (by decide))]
theorem noCd.none {l:List UInt8} (h:noCd 7 l):idOf l = -1:=by
 have h':∀t ∈ bcodes,l≠t:=h;unfold idOf;rw[if_neg (h' [71,101,110,101,114,97,108] (by decide)),if_neg (h' [48] (by decide)),if_neg (h' [48,46,48,48] (by decide)),if_neg (h' [35,44,35,35,48] (by decide)),if_neg (h' [35,44,35,35,48,46,48,48] (by decide)),if_neg (h' [48,37] (by decide)),if_neg (h' [48,46,48,48,37] (by decide))]
theorem ib0 (W:World):(Instr.index 57 (.agg #[.int .i64 0,.string ⟨#[71,101,110,101,114,97,108]⟩,.int .i64 1,.string ⟨#[48]⟩,.int .i64 2,.string ⟨#[48,46,48,48]⟩,.int .i64 3,.string ⟨#[35,44,35,35,48]⟩,.int .i64 4,.string ⟨#[35,44,35,35,48,46,48,48]⟩,.int .i64 9,.string ⟨#[48,37]⟩,.int .i64 10,.string ⟨#[48,46,48,48,37]⟩]) (.int .i64 0)).run Tryz.prog W=.ok (.agg #[.int .i64 0,.string ⟨#[71,101,110,101,114,97,108]⟩]) W:=by simp[Instr.index,run_underlying Tryz.underlying57,asIntOf,go_sem]
theorem ib1 (W:World):(Instr.index 57 (.agg #[.int .i64 0,.string ⟨#[71,101,110,101,114,97,108]⟩,.int .i64 1,.string ⟨#[48]⟩,.int .i64 2,.string ⟨#[48,46,48,48]⟩,.int .i64 3,.string ⟨#[35,44,35,35,48]⟩,.int .i64 4,.string ⟨#[35,44,35,35,48,46,48,48]⟩,.int .i64 9,.string ⟨#[48,37]⟩,.int .i64 10,.string ⟨#[48,46,48,48,37]⟩]) (.int .i64 1)).run Tryz.prog W=.ok (.agg #[.int .i64 1,.string ⟨#[48]⟩]) W:=by simp[Instr.index,run_underlying Tryz.underlying57,asIntOf,go_sem]
theorem ib2 (W:World):(Instr.index 57 (.agg #[.int .i64 0,.string ⟨#[71,101,110,101,114,97,108]⟩,.int .i64 1,.string ⟨#[48]⟩,.int .i64 2,.string ⟨#[48,46,48,48]⟩,.int .i64 3,.string ⟨#[35,44,35,35,48]⟩,.int .i64 4,.string ⟨#[35,44,35,35,48,46,48,48]⟩,.int .i64 9,.string ⟨#[48,37]⟩,.int .i64 10,.string ⟨#[48,46,48,48,37]⟩]) (.int .i64 2)).run Tryz.prog W=.ok (.agg #[.int .i64 2,.string ⟨#[48,46,48,48]⟩]) W:=by simp[Instr.index,run_underlying Tryz.underlying57,asIntOf,go_sem]
theorem ib3 (W:World):(Instr.index 57 (.agg #[.int .i64 0,.string ⟨#[71,101,110,101,114,97,108]⟩,.int .i64 1,.string ⟨#[48]⟩,.int .i64 2,.string ⟨#[48,46,48,48]⟩,.int .i64 3,.string ⟨#[35,44,35,35,48]⟩,.int .i64 4,.string ⟨#[35,44,35,35,48,46,48,48]⟩,.int .i64 9,.string ⟨#[48,37]⟩,.int .i64 10,.string ⟨#[48,46,48,48,37]⟩]) (.int .i64 3)).run Tryz.prog W=.ok (.agg #[.int .i64 3,.string ⟨#[35,44,35,35,48]⟩]) W:=by simp[Instr.index,run_underlying Tryz.underlying57,asIntOf,go_sem]
theorem ib4 (W:World):(Instr.index 57 (.agg #[.int .i64 0,.string ⟨#[71,101,110,101,114,97,108]⟩,.int .i64 1,.string ⟨#[48]⟩,.int .i64 2,.string ⟨#[48,46,48,48]⟩,.int .i64 3,.string ⟨#[35,44,35,35,48]⟩,.int .i64 4,.string ⟨#[35,44,35,35,48,46,48,48]⟩,.int .i64 9,.string ⟨#[48,37]⟩,.int .i64 10,.string ⟨#[48,46,48,48,37]⟩]) (.int .i64 4)).run Tryz.prog W=.ok (.agg #[.int .i64 4,.string ⟨#[35,44,35,35,48,46,48,48]⟩]) W:=by simp[Instr.index,run_underlying Tryz.underlying57,asIntOf,go_sem]
theorem ib5 (W:World):(Instr.index 57 (.agg #[.int .i64 0,.string ⟨#[71,101,110,101,114,97,108]⟩,.int .i64 1,.string ⟨#[48]⟩,.int .i64 2,.string ⟨#[48,46,48,48]⟩,.int .i64 3,.string ⟨#[35,44,35,35,48]⟩,.int .i64 4,.string ⟨#[35,44,35,35,48,46,48,48]⟩,.int .i64 9,.string ⟨#[48,37]⟩,.int .i64 10,.string ⟨#[48,46,48,48,37]⟩]) (.int .i64 5)).run Tryz.prog W=.ok (.agg #[.int .i64 9,.string ⟨#[48,37]⟩]) W:=by simp[Instr.index,run_underlying Tryz.underlying57,asIntOf,go_sem]
theorem ib6 (W:World):(Instr.index 57 (.agg #[.int .i64 0,.string ⟨#[71,101,110,101,114,97,108]⟩,.int .i64 1,.string ⟨#[48]⟩,.int .i64 2,.string ⟨#[48,46,48,48]⟩,.int .i64 3,.string ⟨#[35,44,35,35,48]⟩,.int .i64 4,.string ⟨#[35,44,35,35,48,46,48,48]⟩,.int .i64 9,.string ⟨#[48,37]⟩,.int .i64 10,.string ⟨#[48,46,48,48,37]⟩]) (.int .i64 6)).run Tryz.prog W=.ok (.agg #[.int .i64 10,.string ⟨#[48,46,48,48,37]⟩]) W:=by simp[Instr.index,run_underlying Tryz.underlying57,asIntOf,go_sem]
attribute [local go_sem] ib0 ib1 ib2 ib3 ib4 ib5 ib6
theorem noId.s0 {id:Int} (h:noId 0 id) (h2:id≠0):noId 1 id:=by
 intro t ht;have:t ∈ bids.take 0\/t=0:=by simpa [bids,or_assoc] using ht
 rcases this with h3|rfl
 ·exact h t h3
 ·exact h2
theorem noCd.s0 {l:List UInt8} (h:noCd 0 l) (h2:l≠[71,101,110,101,114,97,108]):noCd 1 l:=by
 intro t ht;have:t ∈ bcodes.take 0\/t=[71,101,110,101,114,97,108]:=by simpa [bcodes,or_assoc] using ht
 rcases this with h3|rfl
 ·exact h t h3
 ·exact h2
theorem noId.s1 {id:Int} (h:noId 1 id) (h2:id≠1):noId 2 id:=by
 intro t ht;have:t ∈ bids.take 1\/t=1:=by simpa [bids,or_assoc] using ht
 rcases this with h3|rfl
 ·exact h t h3
 ·exact h2
theorem noCd.s1 {l:List UInt8} (h:noCd 1 l) (h2:l≠[48]):noCd 2 l:=by
 intro t ht;have:t ∈ bcodes.take 1\/t=[48]:=by simpa [bcodes,or_assoc] using ht
 rcases this with h3|rfl
 ·exact h t h3
 ·exact h2
theorem noId.s2 {id:Int} (h:noId 2 id) (h2:id≠2):noId 3 id:=by
 intro t ht;have:t ∈ bids.take 2\/t=2:=by simpa [bids,or_assoc] using ht
 rcases this with h3|rfl
 ·exact h t h3
 ·exact h2
theorem noCd.s2 {l:List UInt8} (h:noCd 2 l) (h2:l≠[48,46,48,48]):noCd 3 l:=by
 intro t ht;have:t ∈ bcodes.take 2\/t=[48,46,48,48]:=by simpa [bcodes,or_assoc] using ht
 rcases this with h3|rfl
 ·exact h t h3
 ·exact h2
theorem noId.s3 {id:Int} (h:noId 3 id) (h2:id≠3):noId 4 id:=by
 intro t ht;have:t ∈ bids.take 3\/t=3:=by simpa [bids,or_assoc] using ht
 rcases this with h3|rfl
 ·exact h t h3
 ·exact h2
theorem noCd.s3 {l:List UInt8} (h:noCd 3 l) (h2:l≠[35,44,35,35,48]):noCd 4 l:=by
 intro t ht;have:t ∈ bcodes.take 3\/t=[35,44,35,35,48]:=by simpa [bcodes,or_assoc] using ht
 rcases this with h3|rfl
 ·exact h t h3
 ·exact h2
theorem noId.s4 {id:Int} (h:noId 4 id) (h2:id≠4):noId 5 id:=by
 intro t ht;have:t ∈ bids.take 4\/t=4:=by simpa [bids,or_assoc] using ht
 rcases this with h3|rfl
 ·exact h t h3
 ·exact h2
theorem noCd.s4 {l:List UInt8} (h:noCd 4 l) (h2:l≠[35,44,35,35,48,46,48,48]):noCd 5 l:=by
 intro t ht;have:t ∈ bcodes.take 4\/t=[35,44,35,35,48,46,48,48]:=by simpa [bcodes,or_assoc] using ht
 rcases this with h3|rfl
 ·exact h t h3
 ·exact h2
theorem noId.s5 {id:Int} (h:noId 5 id) (h2:id≠9):noId 6 id:=by
 intro t ht;have:t ∈ bids.take 5\/t=9:=by simpa [bids,or_assoc] using ht
 rcases this with h3|rfl
 ·exact h t h3
 ·exact h2
theorem noCd.s5 {l:List UInt8} (h:noCd 5 l) (h2:l≠[48,37]):noCd 6 l:=by
 intro t ht;have:t ∈ bcodes.take 5\/t=[48,37]:=by simpa [bcodes,or_assoc] using ht
 rcases this with h3|rfl
 ·exact h t h3
 ·exact h2
theorem noId.s6 {id:Int} (h:noId 6 id) (h2:id≠10):noId 7 id:=by
 intro t ht;have:t ∈ bids.take 6\/t=10:=by simpa [bids,or_assoc] using ht
 rcases this with h3|rfl
 ·exact h t h3
 ·exact h2
theorem noCd.s6 {l:List UInt8} (h:noCd 6 l) (h2:l≠[48,46,48,48,37]):noCd 7 l:=by
 intro t ht;have:t ∈ bcodes.take 6\/t=[48,46,48,48,37]:=by simpa [bcodes,or_assoc] using ht
 rcases this with h3|rfl
 ·exact h t h3
 ·exact h2
end Go.Proofs.YtoncpcdepemlcaaGreatDoor
