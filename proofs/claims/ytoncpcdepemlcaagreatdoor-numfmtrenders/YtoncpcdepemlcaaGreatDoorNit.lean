import Derived.Test.YtoncpcdepemlcaaGreatDoorNscM
import Derived.Test.YtoncpcdepemlcaaGreatDoorRgb
import Derived.Lib.SmallJoins
import Derived.OwnWalkIn
import Derived.Shelf.Abstract
import Derived.Shelf.RegionOpen
import Derived.TacticsInMore
import Derived.LoopNIn
import Derived.LoopIn
namespace Go.Proofs.YtoncpcdepemlcaaGreatDoor
set_option maxRecDepth 100000
set_option maxHeartbeats 2000000
open Go.RowKit Go.Shelf
attribute [local go_sem] Oper.semAt_some
def secsL : Nat → List UInt8 → List (Sec × Bool)
  | 0, _ => [(sec0 false, false)]
  | k + 1, l => ((secP (k == 0) l).1, (secP (k == 0) l).2.1 && (Lib.hasPrefix (secP (k == 0) l).2.2 [59] || decide ((secP (k == 0) l).2.2 = []))) ::
    (if !((secP (k == 0) l).2.1 && (Lib.hasPrefix (secP (k == 0) l).2.2 [59] || decide ((secP (k == 0) l).2.2 = []))) || !Lib.hasPrefix (secP (k == 0) l).2.2 [59] then [] else secsL k ((secP (k == 0) l).2.2.drop 1))
def encS (x : Sec × Bool) : Array Value := #[x.1.v, .bool x.2]
theorem lits_rest (tx:Bool) (l:List UInt8):(lits tx l).2.2.length≤l.length:=by have:=lits_len tx l;omega
theorem secP_len (tx:Bool) (l:List UInt8):(secP tx l).2.2.length<=l.length:=by
 unfold secP;dsimp only;split
 ·exact lits_rest tx l
 ·have h1:=lits_rest tx l;have h2:=digP_len (lits tx l).2.2 { sec0 tx with bf:=(lits tx l).1,pc:=(lits tx l).2.1 };have h3:=lits_rest tx (digP (lits tx l).2.2 { sec0 tx with bf:=(lits tx l).1,pc:=(lits tx l).2.1 }).2.2;exact Nat.le_trans h3 (Nat.le_trans h2 h1)
theorem nsecs_in (HL:LitsC) (n:Nat) (hn:3<=n) (DB:Nat) (l:List UInt8) (hl:l.length<=64) (w:World) (hDB:Row w DB 9 #[.string (bs l)]) (hM:MaxAt w) (h3:2<w.heap.size):SeqOB Fence.wide n Tryz.prog 35 #[.pointer (some ⟨DB,0,none⟩)] encS (fun k=>k=2\/k=DB) (fun pre y=>∃rest,secsL 4 l=pre++y::rest) (fun xs=>xs=secsL 4 l) w:=by
 intro lp J Jx W hW hJ hO hY h0;obtain⟨own0,h0⟩:=h0;have hR0:Row W DB 9 #[.string (bs l)]:=hDB.below hW hDB.lt;have c0:=hR0.cell (i:=0) rfl;have hM0:MaxAt W:=hM.kept (Kept.of_below (S:=fun k=>k<w.heap.size) hW (fun _ h=>h)) h3;have hWs:=hW.size;obtain⟨SL,hSL⟩:∃ SL,secsL 4 l=SL:=⟨_,rfl⟩;have HSL:Hid (SL=[]++secsL 4 l):=hSL.symm;rw[hSL] at hY ⊢;clear hSL;refine callsIn_of_wp Tryz.func35 rfl trivial ?_ rfl;simp only[Tryz.ntmps35,List.size_toArray,List.length_cons,List.length_nil,Nat.reduceAdd,Nat.reduceSub,Array.replicate_succ,Array.replicate_zero,List.push_toArray,List.append_toArray,List.nil_append,List.cons_append];gi_wp2;have hRr:=Row.new W 78 #[.string (bs l)];have hkW:Kept (fun k=>own0 k\/k<w.heap.size) W (W.alloc (.cells #[.string (bs l)] 78)):=(Kept.refl _ W).alloc (fun k h=>h.elim (fun h=>(hO _ _ _ _ h0 h).1) (fun h=>by omega)) _;have hJ0:=hJ _ _ _ _ h0 hkW;have hno:¬ own0 W.heap.size:=fun h=>by have:=(hO _ _ _ _ h0 h).1;omega
 have hMW:MaxAt (W.alloc (.cells #[.string (bs l)] 78)):=hM0.kept ((Kept.refl (fun k=>k<W.heap.size) W).alloc (fun _ h=>h) _) (by show 2<_;omega);have hWs2:w.heap.size<=(W.alloc (.cells #[.string (bs l)] 78)).heap.size:=by simp;omega
 have hRB:2<W.heap.size:=by omega
 have hRBw:w.heap.size<=W.heap.size:=hWs;clear h0 hkW hR0 c0 hM0 hWs;generalize (W.alloc (.cells #[.string (bs l)] 78))=W1 at *;generalize W.heap.size=RB at *;gi_loopw [4] (fun v4 wr=>∃(k:Nat) (nn:Int) (r:List UInt8) (pre:List (Sec × Bool)) (own:Nat->Prop),k<=4/\v4=.int .i64 nn/\Hid (nn=5-(k:Int))/\r.length<=64/\Hid (SL=pre++secsL k r)/\J pre own wr/\¬ own RB/\Row wr RB 78 #[.string (bs r)]/\MaxAt wr/\w.heap.size<=wr.heap.size) (fun v4 _=>(5-intOf v4).toNat)
 case atStart=>exact⟨4,1,l,[],own0,Nat.le_refl _,rfl,by show _=_;omega,hl,HSL,hJ0,hno,hRr,hMW,hWs2⟩
 case round =>
  clear hJ0 hno hRr hMW hWs2 HSL hl;obtain⟨k,nn,r,pre,own,hk,rfl,HNN,hrl,HS,hJs,hno,hRr,hMr,hws⟩:=hrel;cases k with
  | zero =>
   have hc4:¬ nn<=4:=by have:=HNN.out;omega
   obtain⟨fn,tmps,assign,body,hy,hYR⟩:=hY pre own (sec0 false,false) wr hJs ⟨[],HS.out⟩;have hy:(Instr.yield lp #[.agg #[.string ⟨#[]⟩,.string ⟨#[]⟩,.int .i64 0,.int .i64 0,.bool false,.int .i64 0,.int .i64 0,.bool false,.int .i64 0,.bool false,.bool false],.bool false]).run Tryz.prog wr=_:=hy;have HS2:Hid (SL=pre++[(sec0 false,false)]):=HS;clear hY;gi_wp2;refine⟨fun _=>by omega,hYR.mono ?_⟩;rintro e V3 (⟨rfl,⟨own',hJ3,ho3⟩,hk3⟩|⟨rfl,hJ3⟩)
   ·gi_wp2;go_end0;exact⟨⟨_,rfl⟩,.inl ⟨_,own',HS2.out.symm,hJ3⟩⟩
   ·gi_wp2;go_end0;exact⟨⟨_,rfl⟩,.inr hJ3⟩
  | succ k =>
   have hc4:nn<=4:=by have:=HNN.out;omega
   have hn1:1<=nn:=by have:=HNN.out;omega
   have hg4:(nn==4)=(k==0):=by
    have:=HNN.out;cases k with
    | zero=>simp;omega
    | succ k=>rw[show ((k+1==0)=false) from rfl,beq_eq_false_iff_ne];omega
   have HSEC:=nsection_any HL RB r (k==0) hrl hRB wr hRr hMr;have hql:=secP_len (k==0) r;have HS3:Hid (SL=pre++secsL (k+1) r):=HS;clear HS;rw[secsL] at HS3;generalize (k==0)=tb at *;generalize secP tb r=T at *;obtain⟨x,ok,q⟩:=T;dsimp only at HSEC hql HS3;have HHP:∀ V,Hid (Calls Tryz.prog 37 #[.string (bs q),.string ⟨#[59]⟩] V fun e w'=>e=.returned (.bool (Lib.hasPrefix q [59]))/\w'=V):=fun V=>Tryz.strings_HasPrefix (bs q) (bs [59]) V;have hq0:Lib.hasPrefix q [59]=true->1<=q.length:=fun h=>by cases q with|nil=>cases h|cons a r=>simp
   have hqe:(bs q).toList.isEmpty=decide (q=[]):=by rw[bs_toList];cases q<;>simp
   generalize Lib.hasPrefix q [59]=hp at *;obtain⟨t0,t1,n2,n3,b4,n5,n6,b7,n8,b9,b10,hxc⟩:∃(t0 t1:ByteArray) (n2 n3:Int) (b4:Bool) (n5 n6:Int) (b7:Bool) (n8:Int) (b9 b10:Bool),x.cells=#[.string t0,.string t1,.int .i64 n2,.int .i64 n3,.bool b4,.int .i64 n5,.int .i64 n6,.bool b7,.int .i64 n8,.bool b9,.bool b10]:=⟨_,_,_,_,_,_,_,_,_,_,_,rfl⟩;have HXC:Hid (x.cells=#[.string t0,.string t1,.int .i64 n2,.int .i64 n3,.bool b4,.int .i64 n5,.int .i64 n6,.bool b7,.int .i64 n8,.bool b9,.bool b10]):=hxc;unfold Sec.v at HSEC;rw[hxc] at HSEC;clear hxc;gi_wp2_with fail;refine⟨trivial,fun _=>by omega,(callsIn_wide.2 HSEC).mono ?_⟩;rintro _ w1 ⟨rfl,hR1,hk1⟩;have hws1:w.heap.size<=w1.heap.size:=Nat.le_trans hws hk1.size;have hr2:=hR1.alloc (.cells #[.string t0,.string t1,.int .i64 n2,.int .i64 n3,.bool b4,.int .i64 n5,.int .i64 n6,.bool b7,.int .i64 n8,.bool b9,.bool b10] 33);have ho2:=Row.new w1 33 #[.string t0,.string t1,.int .i64 n2,.int .i64 n3,.bool b4,.int .i64 n5,.int .i64 n6,.bool b7,.int .i64 n8,.bool b9,.bool b10];have hkk:Kept (fun k=>own k\/k<w.heap.size) wr (w1.alloc (.cells #[.string t0,.string t1,.int .i64 n2,.int .i64 n3,.bool b4,.int .i64 n5,.int .i64 n6,.bool b7,.int .i64 n8,.bool b9,.bool b10] 33)):=(hk1.mono (fun j h=>⟨h.elim (fun h=>(hO _ _ _ _ hJs h).1) (fun h=>by omega),fun e=>h.elim (fun h=>hno (e ▸ h)) (fun h=>by omega)⟩)).alloc (fun j h=>h.elim (fun h=>Nat.lt_of_lt_of_le (hO _ _ _ _ hJs h).1 hk1.size) (fun h=>by omega)) _;have hJ2:=hJ _ _ _ _ hJs hkk;have hM2:MaxAt (w1.alloc (.cells #[.string t0,.string t1,.int .i64 n2,.int .i64 n3,.bool b4,.int .i64 n5,.int .i64 n6,.bool b7,.int .i64 n8,.bool b9,.bool b10] 33)):=hMr.kept (hkk.mono (T:=fun k=>k=2) (fun j e=>.inr (by omega))) rfl;have hs2:w1.heap.size<(w1.alloc (.cells #[.string t0,.string t1,.int .i64 n2,.int .i64 n3,.bool b4,.int .i64 n5,.int .i64 n6,.bool b7,.int .i64 n8,.bool b9,.bool b10] 33)).heap.size:=by simp
   have hO2:¬ own 2:=fun h=>(hO _ _ _ _ hJs h).2 (.inl rfl);have cR:=hr2.cell (i:=0) rfl;have cO:=ho2.sec;gi_wp2_with fail;refine⟨trivial,fun _=>by omega,(callsIn_wide.2 (HHP _).out).mono ?_⟩;rintro _ w6 ⟨rfl,hw6⟩;rw[hw6];clear hk1 hkk hRr hMr hJs hR1 HSEC HHP hw6 w6;generalize w1.alloc (.cells #[.string t0,.string t1,.int .i64 n2,.int .i64 n3,.bool b4,.int .i64 n5,.int .i64 n6,.bool b7,.int .i64 n8,.bool b9,.bool b10] 33)=W2 at *;obtain⟨o0,o1,o2,o3,o4,o5,o6,o7,o8,o9,o10⟩:=cO;cases ok with
   | false =>
    have HS2:Hid (SL=pre++[(x,false)]):=HS3;obtain⟨fn,tmps,assign,body,hy,hYR⟩:=hY pre own (x,false) W2 hJ2 ⟨_,HS2.out⟩;unfold encS Sec.v at hy;dsimp only at hy;rw[HXC.out] at hy;clear hY;gi_wp2;refine⟨fun _=>by omega,hYR.mono ?_⟩;rintro e V3 (⟨rfl,⟨own',hJ3,ho3⟩,hk3⟩|⟨rfl,hJ3⟩)
    ·gi_wp2;all_goals refine bodyPost_ret (results_none rfl _ _ _) rfl ⟨⟨_,rfl⟩,.inl ⟨_,own',HS2.out.symm,hJ3⟩⟩
    ·gi_wp2;all_goals exact bodyPost_ret (results_none rfl _ _ _) rfl ⟨⟨_,rfl⟩,.inr hJ3⟩
   | true =>
    cases hp with
    | false =>
     have HS2:Hid (SL=pre++[(x,decide (q=[]))]):=by show _=_;rw[HS3.out];simp
     generalize decide (q=[])=qe at *;obtain⟨fn,tmps,assign,body,hy,hYR⟩:=hY pre own (x,qe) W2 hJ2 ⟨_,HS2.out⟩;unfold encS Sec.v at hy;dsimp only at hy;rw[HXC.out] at hy;clear hY;gi_wp2;refine⟨fun _=>by omega,hYR.mono ?_⟩;rintro e V3 (⟨rfl,⟨own',hJ3,ho3⟩,hk3⟩|⟨rfl,hJ3⟩)
     ·gi_wp2;all_goals refine bodyPost_ret (results_none rfl _ _ _) rfl ⟨⟨_,rfl⟩,.inl ⟨_,own',HS2.out.symm,hJ3⟩⟩
     ·gi_wp2;all_goals exact bodyPost_ret (results_none rfl _ _ _) rfl ⟨⟨_,rfl⟩,.inr hJ3⟩
    | true =>
     have hq1:=hq0 rfl;have HS2:Hid (SL=pre++(x,true)::secsL k (q.drop 1)):=by show _=_;rw[HS3.out];simp
     obtain⟨fn,tmps,assign,body,hy,hYR⟩:=hY pre own (x,true) W2 hJ2 ⟨_,HS2.out⟩;unfold encS Sec.v at hy;dsimp only at hy;rw[HXC.out] at hy;clear hY;have HS4:Hid (SL=(pre++[(x,true)])++secsL k (q.drop 1)):=by show _=_;rw[HS2.out];simp
     have hx1:(bs q).extract 1 (bs q).size=bs (q.drop 1):=bs_drop q 1;have sq:(1:Int)<=((bs q).size:Int):=by rw[bs_size];omega
     have hdl:(q.drop 1).length<=64:=by simp;omega
     generalize q.drop 1=qd at *;gi_wp2;refine⟨fun _=>by omega,hYR.mono ?_⟩;rintro e V3 (⟨rfl,⟨own',hJ3,ho3⟩,hk3⟩|⟨rfl,hJ3⟩)
     ·have hR3:=hr2.kept hk3 ⟨hr2.lt,hno⟩;have hM3:=hM2.kept hk3 ⟨by omega,hO2⟩;have hno3:¬ own' RB:=fun h=>(ho3 _ h).elim hno (fun h=>by have:=hr2.lt;omega)
      have cR3:=hR3.cell (i:=0) rfl;have zR3:=hR3.frozen;have lR3:=hR3.lt;have hkf:=(Kept.refl (fun k=>own' k\/k<w.heap.size) V3).setCell (p:=⟨RB,0,none⟩) (fun h=>h.elim hno3 (fun h=>absurd (show RB<w.heap.size from h) (by omega))) (.string (bs qd));have hJ4:=hJ _ _ _ _ hJ3 hkf;have hR4:=hR3.set 0 (.string (bs qd));have hM4:MaxAt (V3.setCell ⟨RB,0,none⟩ (.string (bs qd))):=hM3.kept (hkf.mono (T:=fun k=>k=2) (fun j e=>.inr (by rw[e];exact h3))) rfl;have hws4:w.heap.size<=(V3.setCell ⟨RB,0,none⟩ (.string (bs qd))).heap.size:=Nat.le_trans hws1 (Nat.le_trans (Nat.le_of_lt hs2) (Nat.le_trans hk3.size hkf.size));have HN1:Hid (nn+1=5-(k:Int)):=by show _=_;have:=HNN.out;omega
      have hkb:k<=4:=by omega
      clear hk3 hkf hJ3 ho3;gi_wp2;go_roundw
      case rel=>exact⟨k,nn+1,qd,_,own',hkb,rfl,HN1,hdl,HS4,hJ4,hno3,hR4,hM4,hws4⟩
      case measure=>simp[intOf];omega
     ·gi_wp2;exact bodyPost_ret (results_none rfl _ _ _) rfl ⟨⟨_,rfl⟩,.inr hJ3⟩
end Go.Proofs.YtoncpcdepemlcaaGreatDoor
