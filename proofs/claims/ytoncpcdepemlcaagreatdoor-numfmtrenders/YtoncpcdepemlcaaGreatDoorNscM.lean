import Derived.Test.YtoncpcdepemlcaaGreatDoorNdg
import Derived.Lib.AppendStr
import Derived.Test.YtoncpcdepemlcaaGreatDoorDpuM
import Derived.Test.YtoncpcdepemlcaaGreatDoorMem
import Derived.Laws.OwnMore
import Derived.WalkMore
namespace Go.Proofs.YtoncpcdepemlcaaGreatDoor
set_option maxRecDepth 100000
set_option maxHeartbeats 2000000
open Go.RowKit Go.Shelf
theorem Tryz.zero33:(Tryz.prog.info? 33).map (fun i=>(i.zero,i.size))=some (some (.agg (sec0 false).cells),11):=by kernel_rfl
theorem load33 {W:World} {B:Nat} {cs:Array Value} (h:Row W B 33 cs) (hs:cs.size=11):(loadVar 33 ⟨B,0,none⟩).run Tryz.prog W=.ok (.agg cs) W:=by
 exact run_loadVar_row _ _ 33 33 cs (0,0) _ h Tryz.underlying33 rfl (by rw[hs];exact(zero_of_info Tryz.zero33).2)
theorem Row.set11 {W:World} {B:Nat} {t:TypeId} {a b c d e f g h i j k:Value} (hr:Row W B t #[a,b,c,d,e,f,g,h,i,j,k]) (a' b' c' d' e' f' g' h' i' j' k':Value):Row (((((((((((W.setCell ⟨B,0,none⟩ a').setCell ⟨B,1,none⟩ b').setCell ⟨B,2,none⟩ c').setCell ⟨B,3,none⟩ d').setCell ⟨B,4,none⟩ e').setCell ⟨B,5,none⟩ f').setCell ⟨B,6,none⟩ g').setCell ⟨B,7,none⟩ h').setCell ⟨B,8,none⟩ i').setCell ⟨B,9,none⟩ j').setCell ⟨B,10,none⟩ k') B t #[a',b',c',d',e',f',g',h',i',j',k']:=by
 have h0:Row (W.setCell ⟨B,0,none⟩ a') B t #[a',b,c,d,e,f,g,h,i,j,k]:=Row.set 0 a' hr;have h1:Row ((W.setCell ⟨B,0,none⟩ a').setCell ⟨B,1,none⟩ b') B t #[a',b',c,d,e,f,g,h,i,j,k]:=Row.set 1 b' h0;have h2:Row (((W.setCell ⟨B,0,none⟩ a').setCell ⟨B,1,none⟩ b').setCell ⟨B,2,none⟩ c') B t #[a',b',c',d,e,f,g,h,i,j,k]:=Row.set 2 c' h1;have h3:Row ((((W.setCell ⟨B,0,none⟩ a').setCell ⟨B,1,none⟩ b').setCell ⟨B,2,none⟩ c').setCell ⟨B,3,none⟩ d') B t #[a',b',c',d',e,f,g,h,i,j,k]:=Row.set 3 d' h2;have h4:Row (((((W.setCell ⟨B,0,none⟩ a').setCell ⟨B,1,none⟩ b').setCell ⟨B,2,none⟩ c').setCell ⟨B,3,none⟩ d').setCell ⟨B,4,none⟩ e') B t #[a',b',c',d',e',f,g,h,i,j,k]:=Row.set 4 e' h3;have h5:Row ((((((W.setCell ⟨B,0,none⟩ a').setCell ⟨B,1,none⟩ b').setCell ⟨B,2,none⟩ c').setCell ⟨B,3,none⟩ d').setCell ⟨B,4,none⟩ e').setCell ⟨B,5,none⟩ f') B t #[a',b',c',d',e',f',g,h,i,j,k]:=Row.set 5 f' h4;have h6:Row (((((((W.setCell ⟨B,0,none⟩ a').setCell ⟨B,1,none⟩ b').setCell ⟨B,2,none⟩ c').setCell ⟨B,3,none⟩ d').setCell ⟨B,4,none⟩ e').setCell ⟨B,5,none⟩ f').setCell ⟨B,6,none⟩ g') B t #[a',b',c',d',e',f',g',h,i,j,k]:=Row.set 6 g' h5;have h7:Row ((((((((W.setCell ⟨B,0,none⟩ a').setCell ⟨B,1,none⟩ b').setCell ⟨B,2,none⟩ c').setCell ⟨B,3,none⟩ d').setCell ⟨B,4,none⟩ e').setCell ⟨B,5,none⟩ f').setCell ⟨B,6,none⟩ g').setCell ⟨B,7,none⟩ h') B t #[a',b',c',d',e',f',g',h',i,j,k]:=Row.set 7 h' h6;have h8:Row (((((((((W.setCell ⟨B,0,none⟩ a').setCell ⟨B,1,none⟩ b').setCell ⟨B,2,none⟩ c').setCell ⟨B,3,none⟩ d').setCell ⟨B,4,none⟩ e').setCell ⟨B,5,none⟩ f').setCell ⟨B,6,none⟩ g').setCell ⟨B,7,none⟩ h').setCell ⟨B,8,none⟩ i') B t #[a',b',c',d',e',f',g',h',i',j,k]:=Row.set 8 i' h7;have h9:Row ((((((((((W.setCell ⟨B,0,none⟩ a').setCell ⟨B,1,none⟩ b').setCell ⟨B,2,none⟩ c').setCell ⟨B,3,none⟩ d').setCell ⟨B,4,none⟩ e').setCell ⟨B,5,none⟩ f').setCell ⟨B,6,none⟩ g').setCell ⟨B,7,none⟩ h').setCell ⟨B,8,none⟩ i').setCell ⟨B,9,none⟩ j') B t #[a',b',c',d',e',f',g',h',i',j',k]:=Row.set 9 j' h8;have h10:Row (((((((((((W.setCell ⟨B,0,none⟩ a').setCell ⟨B,1,none⟩ b').setCell ⟨B,2,none⟩ c').setCell ⟨B,3,none⟩ d').setCell ⟨B,4,none⟩ e').setCell ⟨B,5,none⟩ f').setCell ⟨B,6,none⟩ g').setCell ⟨B,7,none⟩ h').setCell ⟨B,8,none⟩ i').setCell ⟨B,9,none⟩ j').setCell ⟨B,10,none⟩ k') B t #[a',b',c',d',e',f',g',h',i',j',k']:=Row.set 10 k' h9;exact h10
theorem Row.off11 {W:World} {B B':Nat} {t:TypeId} {cs:Array Value} (h:Row W B t cs) (hn:B≠B') (a' b' c' d' e' f' g' h' i' j' k':Value):Row (((((((((((W.setCell ⟨B',0,none⟩ a').setCell ⟨B',1,none⟩ b').setCell ⟨B',2,none⟩ c').setCell ⟨B',3,none⟩ d').setCell ⟨B',4,none⟩ e').setCell ⟨B',5,none⟩ f').setCell ⟨B',6,none⟩ g').setCell ⟨B',7,none⟩ h').setCell ⟨B',8,none⟩ i').setCell ⟨B',9,none⟩ j').setCell ⟨B',10,none⟩ k') B t cs:=((((((((((h.off (B':=B') 0 a' hn).off (B':=B') 1 b' hn).off (B':=B') 2 c' hn).off (B':=B') 3 d' hn).off (B':=B') 4 e' hn).off (B':=B') 5 f' hn).off (B':=B') 6 g' hn).off (B':=B') 7 h' hn).off (B':=B') 8 i' hn).off (B':=B') 9 j' hn).off (B':=B') 10 k' hn
theorem Kept.set11 {S:Nat→Prop} {a0 W:World} (h0:Kept S a0 W) {B:Nat} (hB:¬ S B) (a' b' c' d' e' f' g' h' i' j' k':Value):Kept S a0 (((((((((((W.setCell ⟨B,0,none⟩ a').setCell ⟨B,1,none⟩ b').setCell ⟨B,2,none⟩ c').setCell ⟨B,3,none⟩ d').setCell ⟨B,4,none⟩ e').setCell ⟨B,5,none⟩ f').setCell ⟨B,6,none⟩ g').setCell ⟨B,7,none⟩ h').setCell ⟨B,8,none⟩ i').setCell ⟨B,9,none⟩ j').setCell ⟨B,10,none⟩ k'):=((((((((((h0.setCell (p:=⟨B,0,none⟩) hB a').setCell (p:=⟨B,1,none⟩) hB b').setCell (p:=⟨B,2,none⟩) hB c').setCell (p:=⟨B,3,none⟩) hB d').setCell (p:=⟨B,4,none⟩) hB e').setCell (p:=⟨B,5,none⟩) hB f').setCell (p:=⟨B,6,none⟩) hB g').setCell (p:=⟨B,7,none⟩) hB h').setCell (p:=⟨B,8,none⟩) hB i').setCell (p:=⟨B,9,none⟩) hB j').setCell (p:=⟨B,10,none⟩) hB k'
theorem litStep_len {tx:Bool} {l:List UInt8} {o:List UInt8} {p k:Nat} (h:litStep tx l=some (o,p,k)):p<=k/\1<=k/\k<=l.length:=by
 cases l with
 | nil=>cases h
 | cons c r =>
  simp only[litStep] at h;split at h
  ·split at h
   ·rename_i hf;have hcl:(Lib.cut r [34]).1.length+1<=r.length:=by
     unfold Lib.cut at hf ⊢;split at hf
     ·rename_i hi;rw[if_pos hi];have:=Lib.index_room r [34] hi;simp at this ⊢;omega
     ·cases hf
    simp only[Option.some.injEq,Prod.mk.injEq] at h;obtain⟨rfl,rfl,rfl⟩:=h;simp;omega
   ·cases h
  ·split at h
   ·cases r with
    | nil=>cases h
    | cons d r=>simp only[Option.some.injEq,Prod.mk.injEq] at h;obtain⟨rfl,rfl,rfl⟩:=h;simp
   ·split at h
    ·split at h
     ·cases h
     ·simp only[Option.some.injEq,Prod.mk.injEq] at h;obtain⟨rfl,rfl,rfl⟩:=h;simp
    ·split at h
     ·split at h
      ·simp only[Option.some.injEq,Prod.mk.injEq] at h;obtain⟨rfl,rfl,rfl⟩:=h;simp
      ·cases h
     ·split at h
      ·simp only[Option.some.injEq,Prod.mk.injEq] at h;obtain⟨rfl,rfl,rfl⟩:=h;simp
      ·cases h
theorem litsF_len (tx : Bool) : ∀ n l, (litsF n tx l).2.1 + (litsF n tx l).2.2.length ≤ l.length
  | 0, l => by simp [litsF]
  | n + 1, l => by
    rw [litsF]
    cases h : litStep tx l with
    | none => simp
    | some a =>
      obtain ⟨o, p, k⟩ := a
      have h1 := litStep_len h
      have h2 := litsF_len tx n (l.drop k)
      simp only [List.length_drop] at h2 ⊢
      omega
theorem lits_len (tx:Bool) (l:List UInt8):(lits tx l).2.1+(lits tx l).2.2.length≤l.length:=litsF_len tx _ l
theorem digP_keep (l:List UInt8) (x:Sec):(digP l x).2.1.tx=x.tx/\(digP l x).2.1.pc=x.pc:=by
 unfold digP;simp only;split
 ·exact⟨rfl,rfl⟩
 ·split<;>exact⟨rfl,rfl⟩
def LitsC : Prop := ∀ (R S : Nat) (l : List UInt8) (x : Sec), l.length ≤ 64 → R ≠ S → 2 < R ∧ 2 < S → x.pc ≤ 100 → ∀ (w : World), Row w R 78 #[.string (bs l)] → Row w S 33 x.cells → MaxAt w →
    Calls Tryz.prog 70 #[.pointer (some ⟨R, 0, none⟩), .pointer (some ⟨S, 0, none⟩)] w fun r w' => r = .returned (.string (bs (lits x.tx l).1)) ∧ Row w' R 78 #[.string (bs (lits x.tx l).2.2)] ∧ Row w' S 33 { x with pc := x.pc + (lits x.tx l).2.1 }.cells ∧ Kept (fun k => k < w.heap.size ∧ k ≠ R ∧ k ≠ S) w w'
theorem nsection_any (HL:LitsC) (R:Nat) (l:List UInt8) (tx:Bool) (hl:l.length<=64) (h2:2<R) (w:World) (hR:Row w R 78 #[.string (bs l)]) (hM:MaxAt w):Calls Tryz.prog 36 #[.pointer (some ⟨R,0,none⟩),.bool tx] w fun r w'=>r=.returned (.tuple #[(secP tx l).1.v,.bool (secP tx l).2.1])/\Row w' R 78 #[.string (bs (secP tx l).2.2)]/\Kept (fun k=>k<w.heap.size/\k≠R) w w':=by
 have hRl:=hR.lt;have hwl:2<w.heap.size:=by omega
 obtain⟨D,hD⟩:∃ D,secP tx l=D:=⟨_,rfl⟩;rw[hD];have rZ:=(Row.new w 33 #[.string ⟨#[]⟩,.string ⟨#[]⟩,.int .i64 0,.int .i64 0,.bool false,.int .i64 0,.int .i64 0,.bool false,.int .i64 0,.bool false,.bool false]).alloc (.cells #[.string ⟨#[]⟩,.string ⟨#[]⟩,.int .i64 0,.int .i64 0,.bool false,.int .i64 0,.int .i64 0,.bool false,.int .i64 0,.bool false,.bool tx] 33);have rS:Row ((w.alloc (.cells #[.string ⟨#[]⟩,.string ⟨#[]⟩,.int .i64 0,.int .i64 0,.bool false,.int .i64 0,.int .i64 0,.bool false,.int .i64 0,.bool false,.bool false] 33)).alloc (.cells #[.string ⟨#[]⟩,.string ⟨#[]⟩,.int .i64 0,.int .i64 0,.bool false,.int .i64 0,.int .i64 0,.bool false,.int .i64 0,.bool false,.bool tx] 33)) (w.heap.size+1) 33 (sec0 tx).cells:=Row.new1 w (.cells #[.string ⟨#[]⟩,.string ⟨#[]⟩,.int .i64 0,.int .i64 0,.bool false,.int .i64 0,.int .i64 0,.bool false,.int .i64 0,.bool false,.bool false] 33) 33 #[.string ⟨#[]⟩,.string ⟨#[]⟩,.int .i64 0,.int .i64 0,.bool false,.int .i64 0,.int .i64 0,.bool false,.int .i64 0,.bool false,.bool tx];have rR:=(hR.alloc (.cells #[.string ⟨#[]⟩,.string ⟨#[]⟩,.int .i64 0,.int .i64 0,.bool false,.int .i64 0,.int .i64 0,.bool false,.int .i64 0,.bool false,.bool false] 33)).alloc (.cells #[.string ⟨#[]⟩,.string ⟨#[]⟩,.int .i64 0,.int .i64 0,.bool false,.int .i64 0,.int .i64 0,.bool false,.int .i64 0,.bool false,.bool tx] 33);have k0:=((Kept.refl (fun k=>k<w.heap.size/\k≠R) w).alloc (fun k h=>h.1) (.cells #[.string ⟨#[]⟩,.string ⟨#[]⟩,.int .i64 0,.int .i64 0,.bool false,.int .i64 0,.int .i64 0,.bool false,.int .i64 0,.bool false,.bool false] 33)).alloc (fun k h=>by simp;omega) (.cells #[.string ⟨#[]⟩,.string ⟨#[]⟩,.int .i64 0,.int .i64 0,.bool false,.int .i64 0,.int .i64 0,.bool false,.int .i64 0,.bool false,.bool tx] 33);have hsz:((w.alloc (.cells #[.string ⟨#[]⟩,.string ⟨#[]⟩,.int .i64 0,.int .i64 0,.bool false,.int .i64 0,.int .i64 0,.bool false,.int .i64 0,.bool false,.bool false] 33)).alloc (.cells #[.string ⟨#[]⟩,.string ⟨#[]⟩,.int .i64 0,.int .i64 0,.bool false,.int .i64 0,.int .i64 0,.bool false,.int .i64 0,.bool false,.bool tx] 33)).heap.size=w.heap.size+2:=by simp
 have hM0:=hM.kept k0 ⟨hwl,by omega⟩;have HD:Hid (secP tx l=D):=hD;clear hD;unfold secP at HD;dsimp only at HD;have hszl:w.heap.size+2<=((w.alloc (.cells #[.string ⟨#[]⟩,.string ⟨#[]⟩,.int .i64 0,.int .i64 0,.bool false,.int .i64 0,.int .i64 0,.bool false,.int .i64 0,.bool false,.bool false] 33)).alloc (.cells #[.string ⟨#[]⟩,.string ⟨#[]⟩,.int .i64 0,.int .i64 0,.bool false,.int .i64 0,.int .i64 0,.bool false,.int .i64 0,.bool false,.bool tx] 33)).heap.size:=Nat.le_of_eq hsz.symm;clear hsz;go_enter Tryz.func36,Tryz.ntmps36;go_wp2_with fail;generalize (w.alloc (.cells #[.string ⟨#[]⟩,.string ⟨#[]⟩,.int .i64 0,.int .i64 0,.bool false,.int .i64 0,.int .i64 0,.bool false,.int .i64 0,.bool false,.bool false] 33)).alloc (.cells #[.string ⟨#[]⟩,.string ⟨#[]⟩,.int .i64 0,.int .i64 0,.bool false,.int .i64 0,.int .i64 0,.bool false,.int .i64 0,.bool false,.bool tx] 33)=W0 at *;have H1:=HL R (w.heap.size+1) l (sec0 tx) hl (by omega) ⟨h2,by omega⟩ (Nat.zero_le _) W0 rR rS hM0;simp only[show (sec0 tx).tx=tx from rfl,show (sec0 tx).pc=0 from rfl,Nat.zero_add] at H1;have hl1:=lits_len tx l;generalize lits tx l=T1 at *;obtain⟨b1,p1,r1⟩:=T1;dsimp only at H1 HD hl1;refine Calls.mono H1 ?_;rintro _ w1 ⟨rfl,hR1,hS1,hk1⟩;have hZ1:=rZ.kept hk1 ⟨by omega,by omega,by omega⟩;have hK1:=k0.trans (hk1.mono (fun k h=>⟨by omega,h.2,by omega⟩));clear H1 rZ rS rR k0 hM0 hk1;have hl1z:w.heap.size+1<w1.heap.size:=hS1.lt;have hSx:=hS1.set 0 (.string (bs b1));have hRx:=hR1.off (B':=w.heap.size+1) 0 (.string (bs b1)) (by omega);have hZx:=hZ1.off (B':=w.heap.size+1) 0 (.string (bs b1)) (by omega);have hKx:=hK1.setCell (p:=⟨w.heap.size+1,0,none⟩) (fun h=>by have:=h.1;simp at this;omega) (.string (bs b1));have zS0:=hS1.frozen;obtain⟨q0,q1,q2,q3,q4,q5,q6,q7,q8,q9,q10⟩:=hS1.sec;clear hS1 hR1 hZ1 hK1;cases tx with
 | true =>
  rw[if_pos rfl] at HD;go_upto_region 3 with fail
  generalize (w1.setCell ⟨w.heap.size+1,0,none⟩ (.string (bs b1)))=w2 at *;clear q0 q1 q2 q3 q4 q5 q6 q7 q8 q9 q10 zS0;obtain⟨s0,s1,s2,s3,s4,s5,s6,s7,s8,s9,s10⟩:=hSx.sec;have zS:=hSx.frozen;have lS:=hSx.lt;obtain⟨y0,y1,y2,y3,y4,y5,y6,y7,y8,y9,y10⟩:=hZx.sec;have zZ:=hZx.frozen;have lZ:=hZx.lt;go_wp2;refine bodyPost_ret (ret_two rfl (g:=w.heap.size) rfl rfl (load33 (Row.set11 hZx _ _ _ _ _ _ _ _ _ _ _) rfl)) rfl ?_;rw[<-HD.out];exact⟨rfl,hRx.off11 (by omega) _ _ _ _ _ _ _ _ _ _ _,hKx.set11 (fun h=>by have:=h.1;omega) _ _ _ _ _ _ _ _ _ _ _⟩
 | false =>
  rw[if_neg (by decide)] at HD;go_upto_region 3 with fail
  have hMx:=hM.kept hKx ⟨hwl,by omega⟩;generalize (w1.setCell ⟨w.heap.size+1,0,none⟩ (.string (bs b1)))=w2 at *;clear q0 q1 q2 q3 q4 q5 q6 q7 q8 q9 q10 zS0;have hSx:Row w2 (w.heap.size+1) 33 (Sec.cells { sec0 false with bf:=b1,pc:=p1 }):=hSx;have H2:=ndigits_any R (w.heap.size+1) r1 { sec0 false with bf:=b1,pc:=p1 } (by omega) (by omega) ⟨h2,by omega⟩ w2 hRx hSx hMx;have hdl:=digP_len r1 { sec0 false with bf:=b1,pc:=p1 };have hdt:=digP_keep r1 { sec0 false with bf:=b1,pc:=p1 };generalize digP r1 { sec0 false with bf:=b1,pc:=p1 }=DG at *;obtain⟨ok,⟨bf,af,wh,ze,pt,pa,pz,gr,pc,dg,tx⟩,r2⟩:=DG;dsimp only at H2 HD hdl hdt;obtain⟨hxt,hxp⟩:tx=false/\pc=p1:=hdt;subst hxt;subst hxp;go_wp2_with fail;refine Calls.mono H2 ?_;rintro _ w3 ⟨rfl,hR3,hS3,hk3⟩;have hZ3:=hZx.kept hk3 ⟨hZx.lt,by omega,by omega⟩;have hK3:=hKx.trans (hk3.mono (fun k h=>⟨Nat.lt_of_lt_of_le h.1 hKx.size,h.2,by omega⟩));have hM3:=hM.kept hK3 ⟨hwl,by omega⟩;clear H2 hSx hRx hZx hKx hk3;have H3:=HL R (w.heap.size+1) r2 ⟨bf,af,wh,ze,pt,pa,pz,gr,pc,dg,false⟩ (by omega) (by omega) ⟨h2,by omega⟩ (by show pc<=100;omega) w3 hR3 hS3 hM3;dsimp only at H3;generalize lits false r2=T2 at *;obtain⟨b2,p2,r3⟩:=T2;dsimp only at H3 HD;go_wp2_with fail;refine Calls.mono H3 ?_;rintro _ w4 ⟨rfl,hR4,hS4,hk4⟩;have hZ4:=hZ3.kept hk4 ⟨hZ3.lt,by omega,by omega⟩;have hK4:=hK3.trans (hk4.mono (fun k h=>⟨Nat.lt_of_lt_of_le h.1 hK3.size,h.2,by omega⟩));clear H3 hS3 hR3 hZ3 hK3 hk4 hM3;unfold Sec.cells at hS4;simp only at hS4;have zS4:=hS4.frozen;have lS4:=hS4.lt;obtain⟨q0,q1,q2,q3,q4,q5,q6,q7,q8,q9,q10⟩:=hS4.sec;have hSx:=hS4.set 1 (.string (bs b2));have hRx:=hR4.off (B':=w.heap.size+1) 1 (.string (bs b2)) (by omega);have hZx:=hZ4.off (B':=w.heap.size+1) 1 (.string (bs b2)) (by omega);have hKx:=hK4.setCell (p:=⟨w.heap.size+1,1,none⟩) (fun h=>by have:=h.1;simp at this;omega) (.string (bs b2));have HSX:Hid (Row (w4.setCell ⟨w.heap.size+1,1,none⟩ (.string (bs b2))) (w.heap.size+1) 33 (Sec.cells ⟨bf,b2,wh,ze,pt,pa,pz,gr,pc+p2,dg,false⟩)):=hSx;clear hS4 hR4 hZ4 hK4;go_upto_region 7 with fail
  generalize (w4.setCell ⟨w.heap.size+1,1,none⟩ (.string (bs b2)))=w5 at *;clear q0 q1 q2 q3 q4 q5 q6 q7 q8 q9 q10 zS4 lS4 hSx;have hSx:=HSX.out;unfold Sec.cells at hSx;simp only at hSx;obtain⟨pcx,hpcx⟩:∃pcx,((pc+p2:Nat):Int)=pcx:=⟨_,rfl⟩;rw[hpcx] at hSx;have HPC:Hid (((pc+p2:Nat):Int)=pcx):=hpcx;clear hpcx;obtain⟨s0,s1,s2,s3,s4,s5,s6,s7,s8,s9,s10⟩:=hSx.sec;have zS:=hSx.frozen;have lS:=hSx.lt;obtain⟨y0,y1,y2,y3,y4,y5,y6,y7,y8,y9,y10⟩:=hZx.sec;have zZ:=hZx.frozen;have lZ:=hZx.lt;go_wp2;refine bodyPost_ret (ret_two rfl (g:=w.heap.size) rfl rfl (load33 (Row.set11 hZx _ _ _ _ _ _ _ _ _ _ _) rfl)) rfl ?_;rw[<-HD.out];exact⟨by unfold Sec.v Sec.cells;simp only;rw[HPC.out];rfl,hRx.off11 (by omega) _ _ _ _ _ _ _ _ _ _ _,hKx.set11 (fun h=>by have:=h.1;omega) _ _ _ _ _ _ _ _ _ _ _⟩
def atB (l : List UInt8) (i : Nat) : UInt8 := (l[i]?).getD 0
theorem atB_lt {l:List UInt8} {i:Nat} (h:i<l.length):atB l i=l[i]:=by
 unfold atB;rw[List.getElem?_eq_getElem h];rfl
theorem atB_bs {l:List UInt8} {i:Nat} (h:i<(bs l).size):(bs l)[i]=atB l i:=by
 rw[atB_lt (by rw[bs_size] at h;exact h)];rfl
theorem atB_ge {l:List UInt8} {i:Nat} (h:l.length<=i):atB l i=0:=by
 unfold atB;rw[List.getElem?_eq_none h];rfl
theorem drop_at {l:List UInt8} {i:Nat} (h:i<l.length):l.drop i=atB l i::l.drop (i+1):=by
 rw[atB_lt h];exact List.drop_eq_getElem_cons h
theorem at_pos {l:List UInt8} {i:Nat} (h:atB l i≠0):i<l.length:=by
 by_cases hl:i<l.length
 ·exact hl
 ·exact absurd (atB_ge (by omega)) h
def quoteN (l : List UInt8) : Nat := (l.takeWhile (· != 34)).length
theorem quoteN_le (l:List UInt8):quoteN l<=l.length:=by
 unfold quoteN;have:=congrArg List.length (List.takeWhile_append_dropWhile (p:=(· != 34)) (l:=l));rw[List.length_append] at this;omega
theorem quoteN_cons (c:UInt8) (r:List UInt8):quoteN (c::r)=if c=34 then 0 else quoteN r+1:=by
 unfold quoteN;rw[List.takeWhile_cons];by_cases h:c=34
 ·simp[h]
 ·simp[h]
theorem index34 : ∀ r : List UInt8, Lib.index r [34] = if quoteN r < r.length then (quoteN r : Int) else -1
  | [] => rfl
  | c :: r => by
    rw [quoteN_cons]
    unfold Lib.index
    by_cases h : c = 34
    · subst h; simp
    · have h2 : ([34] : List UInt8).isPrefixOf (c :: r) = false := by simp [List.isPrefixOf, Ne.symm h]
      have h5 : (quoteN r + 1 < (c :: r).length) ↔ (quoteN r < r.length) := by rw [List.length_cons]; omega
      have h6 : (if c = 34 then 0 else quoteN r + 1) = quoteN r + 1 := if_neg h
      rw [h2, index34 r, h6]
      by_cases h3 : quoteN r < r.length
      · rw [if_pos h3, if_pos (h5.2 h3)]
        have : (((quoteN r : Nat) : Int) == -1) = false := by rw [beq_eq_false_iff_ne]; omega
        rw [this]
        rfl
      · rw [if_neg h3, if_neg (fun e => h3 (h5.1 e))]
        rfl
theorem cut34 (r:List UInt8):Lib.cut r [34]=if quoteN r<r.length then (r.take (quoteN r),r.drop (quoteN r+1),true) else (r,[],false):=by
 unfold Lib.cut;rw[index34];by_cases h:quoteN r<r.length
 ·rw[if_pos h,if_pos h,if_pos (by omega)];rfl
 ·rw[if_neg h,if_neg h,if_neg (by omega)]
def litQ : List UInt8 → Option (List UInt8 × Nat)
  | [] => none
  | c :: r =>
    if litC c then some ([c], 1)
    else if c = 92 then (match r with | [] => none | d :: _ => some ([d], 2))
    else if c = 34 then (if quoteN r < r.length then some (r.take (quoteN r), quoteN r + 2) else none)
    else none
def stuckB (c : UInt8) : Bool := decide (c = 92) || decide (c = 34)
theorem litQ_no {c:UInt8} {r:List UInt8} (h1:litC c=false) (h2:c≠92) (h3:c≠34):litQ (c::r)=none:=by
 simp only[litQ,h1,if_neg h2,if_neg h3];rfl
theorem lit_c_ne {c:UInt8} (h:litC c=true):c≠34/\c≠92/\c≠37/\c≠64:=by
 refine⟨?_,?_,?_,?_⟩<;>(rintro rfl;revert h;decide)
theorem step_lit (tx:Bool) (c:UInt8) (r:List UInt8) (h37:c≠37) (h64:c≠64):litStep tx (c::r)=(litQ (c::r)).map (fun y=>(y.1,0,y.2)):=by
 unfold litStep litQ;dsimp only;by_cases hl:litC c=true
 ·obtain⟨n1,n2,n3,n4⟩:=lit_c_ne hl;simp[hl,n1,n2,n3,n4]
 ·by_cases h92:c=92
  ·subst h92;cases r with
   | nil=>simp[hl]
   | cons d r=>simp[hl]
  ·by_cases h34:c=34
   ·subst h34;rw[cut34];by_cases hq:quoteN r<r.length
    ·simp[hl,hq,Nat.min_eq_left (quoteN_le r)]
    ·simp[hl,hq]
   ·simp[hl,h92,h34,h37,h64]
theorem litQ_len {l o:List UInt8} {k:Nat} (h:litQ l=some (o,k)):1<=k/\k<=l.length/\o.length<=k:=by
 cases l with
 | nil=>cases h
 | cons c r =>
  unfold litQ at h;dsimp only at h;have hq:=quoteN_le r;by_cases hl:litC c=true
  ·rw[if_pos hl] at h;cases h;simp
  ·rw[if_neg hl] at h;by_cases h92:c=92
   ·rw[if_pos h92] at h;cases r with
    | nil=>cases h
    | cons d r=>cases h;simp
   ·rw[if_neg h92] at h;by_cases h34:c=34
    ·rw[if_pos h34] at h;by_cases hq2:quoteN r<r.length
     ·rw[if_pos hq2] at h;cases h;simp;omega
     ·rw[if_neg hq2] at h;cases h
    ·rw[if_neg h34] at h;cases h
theorem litsF_fuel (tx : Bool) : ∀ n m l, l.length ≤ n → l.length ≤ m → litsF n tx l = litsF m tx l
  | 0, m, l, h, _ => by
    have : l = [] := List.length_eq_zero_iff.1 (by omega)
    subst this
    rw [litsF_none (by cases tx <;> rfl) m]; rfl
  | n + 1, m, l, h, hm => by
    cases hs : litStep tx l with
    | none => rw [litsF_none hs, litsF_none hs]
    | some y =>
      obtain ⟨o, p, k⟩ := y
      have hk := litStep_len hs
      cases m with
      | zero => omega
      | succ m =>
        rw [litsF, litsF, hs]
        simp only
        rw [litsF_fuel tx n m (l.drop k) (by rw [List.length_drop]; omega) (by rw [List.length_drop]; omega)]
theorem lits_none {tx:Bool} {l:List UInt8} (h:litStep tx l=none):lits tx l=([],0,l):=litsF_none h _
theorem lits_some {tx:Bool} {l o:List UInt8} {p k:Nat} (h:litStep tx l=some (o,p,k)):lits tx l=(o++(lits tx (l.drop k)).1,p+(lits tx (l.drop k)).2.1,(lits tx (l.drop k)).2.2):=by
 have hk:=litStep_len h;have e:lits tx l=litsF ((l.length-1)+1) tx l:=litsF_fuel tx _ _ l (Nat.le_refl _) (by omega);rw[e,litsF,h];simp only;rw[litsF_fuel tx (l.length-1) (l.drop k).length (l.drop k) (by rw[List.length_drop];omega) (Nat.le_refl _)];rfl
theorem lits_drop (tx:Bool) (l:List UInt8):∃k,k<=l.length/\(lits tx l).2.2=l.drop k:=by
 unfold lits;have:∀n (l:List UInt8),∃k,k<=l.length/\(litsF n tx l).2.2=l.drop k:=by
  intro n;induction n with
  | zero=>intro l;exact⟨0,Nat.zero_le _,rfl⟩
  | succ n ih =>
   intro l;cases hs:litStep tx l with
   | none=>rw[litsF_none hs];exact⟨0,Nat.zero_le _,rfl⟩
   | some y =>
    obtain⟨o,p,k⟩:=y;have hk:=litStep_len hs;obtain⟨k2,h2,e2⟩:=ih (l.drop k);rw[List.length_drop] at h2;refine⟨k+k2,by omega,?_⟩;rw[litsF,hs];simp only;rw[e2,List.drop_drop]
 exact this _ l
def litE (tx : Bool) (l : List UInt8) (n : Nat) : Nat := l.length - (lits tx (l.drop n)).2.2.length
theorem litE_drop (tx:Bool) (l:List UInt8) (n:Nat) (hn:n<=l.length):(lits tx (l.drop n)).2.2=l.drop (litE tx l n)/\litE tx l n<=l.length/\n<=litE tx l n:=by
 obtain⟨k,hk,e⟩:=lits_drop tx (l.drop n);rw[List.drop_drop] at e;rw[List.length_drop] at hk;unfold litE;rw[e,List.length_drop];have:l.length-(l.length-(n+k))=n+k:=by omega
 rw[this];exact⟨rfl,by omega,by omega⟩
attribute [local go_sem] Oper.semAt_some
def plcB (c : UInt8) : Bool := decide (c = 48) || decide (c = 35)
theorem u8_eq (c:UInt8) (k:Nat) (hk:k<256):(((c.toNat:Int))==(k:Int))=decide (c=UInt8.ofNat k):=by
 by_cases h:c=UInt8.ofNat k
 ·subst h;simp[Nat.mod_eq_of_lt hk]
 ·rw[decide_eq_false h,beq_eq_false_iff_ne];intro e;exact h (UInt8.toNat_inj.1 (by rw[UInt8.toNat_ofNat',Nat.mod_eq_of_lt hk];omega))
theorem place_any (c:UInt8) (w:World):Calls Tryz.prog 73 #[.int .u8 (c.toNat:Int)] w fun e w'=>e=.returned (.bool (plcB c))/\w'=w:=by
 have h0:(((c.toNat:Int))==48)=decide (c=48):=u8_eq c 48 (by decide);have h1:(((c.toNat:Int))==35)=decide (c=35):=u8_eq c 35 (by decide);unfold plcB;generalize decide (c=48)=p at *;generalize decide (c=35)=q at *;generalize (c.toNat:Int)=x at *;cases p
 ·go_enter Tryz.func73,Tryz.ntmps73;go_wp2;go_ret;exact⟨by cases q<;>rfl,rfl⟩
 ·go_enter Tryz.func73,Tryz.ntmps73;go_wp2;go_ret;exact⟨by cases q<;>rfl,rfl⟩
def Rdr (W : World) (R : Nat) (l : List UInt8) (n : Nat) (b g : Bool) : Prop := Row W R 53 #[.string (bs l), .int .i64 (n : Int), .bool b, .bool g]
theorem here_any (R:Nat) (l:List UInt8) (n:Nat) (b g:Bool) (w:World) (hR:Rdr w R l n b g):Calls Tryz.prog 38 #[.pointer (some ⟨R,0,none⟩)] w fun r w'=>r=.returned (.int .u8 ((atB l n).toNat:Int))/\Kept (fun _=>True) w w':=by
 have c0:w.cell? ⟨R,0,none⟩=some (.string (bs l)):=Row.cell hR (i:=0) rfl;have c1:w.cell? ⟨R,1,none⟩=some (.int .i64 (n:Int)):=Row.cell hR (i:=1) rfl;by_cases h:n<(bs l).size
 ·have HG:Hid ((bs l)[n]=atB l n):=atB_bs h;have t:(n:Int)<((bs l).size:Int):=by omega
  clear hR;go_enter Tryz.func38,Tryz.ntmps38;go_upto_region 1 with fail
  go_quiet (fail);go_upto_region 2 with fail
  go_quiet (fail);go_wp2;go_ret;exact⟨by rw[<-HG.out];rfl,((Kept.refl _ _).dN _).dN _⟩
 ·rw[atB_ge (by rw[bs_size] at h;omega)];have t:¬ ((n:Int)<((bs l).size:Int)):=by omega
  clear hR;go_enter Tryz.func38,Tryz.ntmps38;go_upto_region 1 with fail
  go_quiet (fail);go_wp2;go_ret;exact⟨rfl,(Kept.refl _ _).dN _⟩
end Go.Proofs.YtoncpcdepemlcaaGreatDoor
namespace Go.Proofs.YtoncpcdepemlcaaGreatDoor
set_option maxRecDepth 100000
set_option maxHeartbeats 4000000
open Go.RowKit Go.Shelf
attribute [local go_sem] Oper.semAt_some
def litN (l : List UInt8) (n : Nat) : List UInt8 × Bool × Nat × Bool := match litQ (l.drop n) with
  | some (o, k) => (o, true, n + k, false)
  | none => ([], false, n, stuckB (atB l n))
theorem conv1 (W:World) (x:Int):(convert 63 9 (.slice (some ⟨W.heap.size,0,none⟩) 1 1)).run Tryz.prog (W.alloc (.cells #[.int .u8 x] 5))=.ok (.string (bs [UInt8.ofNat x.toNat])) (W.alloc (.cells #[.int .u8 x] 5)):=by
 have:=run_convert_bytes_arg (P:=Tryz.prog) (W.alloc (.cells #[.int .u8 x] 5)) 63 5 Tryz.underlying63 Tryz.underlying5 W.heap.size 0 1 1 [x] rfl (fun i hi=>by
  obtain rfl:i=0:=by omega
  exact(Row.new W 5 #[.int .u8 x]).cell rfl) 9 Tryz.underlying9
 exact this
theorem lit_eight {c:UInt8} (h:litC c=true):c=32\/c=36\/c=45\/c=43\/c=40\/c=41\/c=47\/c=58:=by
 unfold litC at h;simp only[Bool.or_eq_true,beq_iff_eq] at h;rcases h with ((((((h|h)|h)|h)|h)|h)|h)|h<;>simp[h]
def LitR (R : Nat) (l : List UInt8) (n : Nat) (g : Bool) (w : World) (r : Ending) (w' : World) : Prop :=
  r = .returned (.tuple #[.string (bs (litN l n).1), .bool (litN l n).2.1]) ∧ Rdr w' R l (litN l n).2.2.1 (litN l n).2.2.2 g ∧ Kept (fun k => k < w.heap.size ∧ k ≠ R) w w'
theorem literal_sign (R:Nat) (l:List UInt8) (n:Nat) (g:Bool) (w:World) (hl:l.length<=64) (c:UInt8) (HC:Hid (atB l n=c)) (h1:litC c=true) (hR:Rdr w R l n false g):Calls Tryz.prog 39 #[.pointer (some ⟨R,0,none⟩)] w (LitR R l n g w):=by
 have HH:Hid (Calls Tryz.prog 38 #[.pointer (some ⟨R,0,none⟩)] w fun r w'=>r=.returned (.int .u8 (c.toNat:Int))/\Kept (fun _=>True) w w'):=by rw[<-HC.out];exact here_any R l n false g w hR
 have hlt:n<l.length:=at_pos (by rw[HC.out];rintro rfl;revert h1;decide);have hQ:litN l n=([c],true,n+1,false):=by unfold litN;rw[drop_at hlt,HC.out];unfold litQ;dsimp only;rw[if_pos h1]
 unfold LitR;rw[hQ];have h8:=lit_eight h1;clear HC hQ h1;rcases h8 with rfl|rfl|rfl|rfl|rfl|rfl|rfl|rfl;all_goals
  go_enter Tryz.func39,Tryz.ntmps39;go_wp2_with fail;refine Calls.mono HH.out ?_;rintro _ w1 ⟨rfl,hk⟩;clear HH;have hR1:Rdr w1 R l n false g:=Row.kept hR hk trivial;have c1:w1.cell? ⟨R,1,none⟩=some (.int .i64 (n:Int)):=Row.cell hR1 (i:=1) rfl;have fz:=Row.frozen hR1;have lR:=Row.lt hR1;have hK:Kept (fun k=>k<w.heap.size/\k≠R) w w1:=hk.mono (fun _ _=>trivial);have hws:=hk.size;have cv:∀(m x:Int),(convert 63 9 (.slice (some ⟨w1.heap.size,0,none⟩) 1 1)).run Tryz.prog ((w1.setCell ⟨R,1,none⟩ (.int .i64 m)).alloc (.cells #[.int .u8 x] 5))=.ok (.string (bs [UInt8.ofNat x.toNat])) ((w1.setCell ⟨R,1,none⟩ (.int .i64 m)).alloc (.cells #[.int .u8 x] 5)):=fun m x=>by simpa using conv1 (w1.setCell ⟨R,1,none⟩ (.int .i64 m)) x
  clear hR hk;go_wp2;refine bodyPost_ret (results_tmp2 rfl _ _ _) rfl ?_;exact⟨rfl,Row.alloc (Row.set 1 (.int .i64 ((n+1:Nat):Int)) hR1) _,(hK.setCell (fun e=>e.2 rfl) _).alloc (fun k h=>by simp;omega) _⟩
theorem bs_cut (l:List UInt8) (a b:Nat):(bs l).extract a b=bs ((l.drop a).take (b-a)):=bs_ext (by rw[Lib.extract_data];simp[bs])
theorem here_at {R:Nat} {l:List UInt8} {n:Nat} {g:Bool} {w:World} {c:UInt8} (HC:Hid (atB l n=c)) (hR:Rdr w R l n false g):Hid (Calls Tryz.prog 38 #[.pointer (some ⟨R,0,none⟩)] w fun r w'=>r=.returned (.int .u8 (c.toNat:Int))∧Kept (fun _=>True) w w'):=by rw[←HC.out];exact here_any R l n false g w hR
theorem litQ_back {l:List UInt8} {n:Nat} (hc:atB l n=92):litN l n=if n+1<l.length then ([atB l (n+1)],true,n+2,false) else ([],false,n,true):=by
 have hlt:n<l.length:=at_pos (by rw[hc];decide);unfold litN;rw[drop_at hlt,hc];unfold litQ;dsimp only;by_cases h:n+1<l.length
 ·rw[if_neg (by decide),if_pos rfl,drop_at h,if_pos h]
 ·rw[if_neg (by decide),if_pos rfl,List.drop_eq_nil_of_le (by omega),if_neg h];rfl
theorem litQ_quote {l:List UInt8} {n:Nat} (hc:atB l n=34):litN l n=if quoteN (l.drop (n+1))<l.length-(n+1) then ((l.drop (n+1)).take (quoteN (l.drop (n+1))),true,n+(quoteN (l.drop (n+1))+2),false) else ([],false,n,true):=by
 have hlt:n<l.length:=at_pos (by rw[hc];decide);unfold litN;rw[drop_at hlt,hc];unfold litQ;dsimp only;rw[if_neg (by decide),if_neg (by decide),if_pos rfl,List.length_drop];by_cases h:quoteN (l.drop (n+1))<l.length-(n+1)
 ·rw[if_pos h,if_pos h]
 ·rw[if_neg h,if_neg h];rfl
theorem litQ_other {l:List UInt8} {n:Nat} (h1:litC (atB l n)=false) (h2:atB l n≠92) (h3:atB l n≠34):litN l n=([],false,n,false):=by
 unfold litN;have hs:stuckB (atB l n)=false:=by unfold stuckB;rw[decide_eq_false h2,decide_eq_false h3];rfl
 by_cases hlt:n<l.length
 ·rw[drop_at hlt,litQ_no h1 h2 h3,hs]
 ·rw[List.drop_eq_nil_of_le (by omega)];show ([],false,n,stuckB (atB l n))=_;rw[hs]
theorem literal_back (R:Nat) (l:List UInt8) (n:Nat) (g:Bool) (w:World) (hl:l.length<=64) (HC:Hid (atB l n=92)) (hR:Rdr w R l n false g):Calls Tryz.prog 39 #[.pointer (some ⟨R,0,none⟩)] w (LitR R l n g w):=by
 have HH:=here_at HC hR;have hQ:=litQ_back HC.out;have hlt:n<l.length:=at_pos (by rw[HC.out];decide);have hsz:(bs l).size=l.length:=bs_size l;have hsz64:(bs l).size<=64:=by omega
 have hn64:n<(bs l).size:=by omega
 unfold LitR;by_cases h:n+1<l.length
 ·have t:¬ (((bs l).size:Int)<=(n:Int)+1):=by omega
  have hcut:(bs l).extract (n+2-1) (n+2)=bs [atB l (n+1)]:=by rw[bs_cut,show n+2-1=n+1 by omega,drop_at h];simp
  have hb:n+2<=(bs l).size:=by omega
  rw[if_pos h] at hQ;rw[hQ];clear hQ HC h hlt hsz hl;go_enter Tryz.func39,Tryz.ntmps39;go_wp2_with fail;refine Calls.mono HH.out ?_;rintro _ w1 ⟨rfl,hk⟩;clear HH;have hR1:Rdr w1 R l n false g:=Row.kept hR hk trivial;have c0:w1.cell? ⟨R,0,none⟩=some (.string (bs l)):=Row.cell hR1 (i:=0) rfl;have c1:w1.cell? ⟨R,1,none⟩=some (.int .i64 (n:Int)):=Row.cell hR1 (i:=1) rfl;have fz:=Row.frozen hR1;have lR:=Row.lt hR1;have hK:Kept (fun k=>k<w.heap.size/\k≠R) w w1:=hk.mono (fun _ _=>trivial);clear hR hk;go_upto_region 14 with fail
  go_quiet (fail);go_upto_region 18 with fail
  go_quiet (fail);go_wp2;refine bodyPost_ret (results_tmp2 rfl _ _ _) rfl ?_;exact⟨by rw[<-hcut];rfl,Row.set 1 (.int .i64 ((n+2:Nat):Int)) hR1,((hK.dN _).setCell (fun e=>e.2 rfl) _).dN _⟩
 ·have t:((bs l).size:Int)<=(n:Int)+1:=by omega
  rw[if_neg h] at hQ;rw[hQ];clear hQ HC h hlt hsz hl;go_enter Tryz.func39,Tryz.ntmps39;go_wp2_with fail;refine Calls.mono HH.out ?_;rintro _ w1 ⟨rfl,hk⟩;clear HH;have hR1:Rdr w1 R l n false g:=Row.kept hR hk trivial;have c0:w1.cell? ⟨R,0,none⟩=some (.string (bs l)):=Row.cell hR1 (i:=0) rfl;have c1:w1.cell? ⟨R,1,none⟩=some (.int .i64 (n:Int)):=Row.cell hR1 (i:=1) rfl;have c2:w1.cell? ⟨R,2,none⟩=some (.bool false):=Row.cell hR1 (i:=2) rfl;have fz:=Row.frozen hR1;have lR:=Row.lt hR1;have hK:Kept (fun k=>k<w.heap.size/\k≠R) w w1:=hk.mono (fun _ _=>trivial);clear hR hk;go_upto_region 14 with fail
  go_quiet (fail);go_wp2;refine bodyPost_ret (results_tmp2 rfl _ _ _) rfl ?_;exact⟨rfl,Row.set 2 (.bool true) hR1,(hK.dN _).setCell (fun e=>e.2 rfl) _⟩
theorem literal_none (R:Nat) (l:List UInt8) (n:Nat) (g:Bool) (w:World) (h1:litC (atB l n)=false) (h2:atB l n≠92) (h3:atB l n≠34) (hR:Rdr w R l n false g):Calls Tryz.prog 39 #[.pointer (some ⟨R,0,none⟩)] w (LitR R l n g w):=by
 have HH:=here_at (c:=atB l n) rfl hR;unfold LitR;rw[litQ_other h1 h2 h3];unfold litC at h1;simp only[Bool.or_eq_false_iff] at h1;obtain⟨⟨⟨⟨⟨⟨⟨a1,a2⟩,a3⟩,a4⟩,a5⟩,a6⟩,a7⟩,a8⟩:=h1;generalize atB l n=c at *;have q1:((c.toNat:Int)==32)=false:=(u8_eq c 32 (by decide)).trans (decide_eq_false (by rintro rfl;cases a1));have q2:((c.toNat:Int)==36)=false:=(u8_eq c 36 (by decide)).trans (decide_eq_false (by rintro rfl;cases a2));have q3:((c.toNat:Int)==45)=false:=(u8_eq c 45 (by decide)).trans (decide_eq_false (by rintro rfl;cases a3));have q4:((c.toNat:Int)==43)=false:=(u8_eq c 43 (by decide)).trans (decide_eq_false (by rintro rfl;cases a4));have q5:((c.toNat:Int)==40)=false:=(u8_eq c 40 (by decide)).trans (decide_eq_false (by rintro rfl;cases a5));have q6:((c.toNat:Int)==41)=false:=(u8_eq c 41 (by decide)).trans (decide_eq_false (by rintro rfl;cases a6));have q7:((c.toNat:Int)==47)=false:=(u8_eq c 47 (by decide)).trans (decide_eq_false (by rintro rfl;cases a7));have q8:((c.toNat:Int)==58)=false:=(u8_eq c 58 (by decide)).trans (decide_eq_false (by rintro rfl;cases a8));have q9:((c.toNat:Int)==92)=false:=(u8_eq c 92 (by decide)).trans (decide_eq_false h2);have q0:((c.toNat:Int)==34)=false:=(u8_eq c 34 (by decide)).trans (decide_eq_false h3);generalize (c.toNat:Int)=x at *;clear a1 a2 a3 a4 a5 a6 a7 a8 h2 h3;go_enter Tryz.func39,Tryz.ntmps39;go_wp2_with fail;refine Calls.mono HH.out ?_;rintro _ w1 ⟨rfl,hk⟩;clear HH;have hR1:Rdr w1 R l n false g:=Row.kept hR hk trivial;have hK:Kept (fun k=>k<w.heap.size/\k≠R) w w1:=hk.mono (fun _ _=>trivial);clear hR hk;go_wp2;refine bodyPost_ret (results_tmp2 rfl _ _ _) rfl ?_;exact⟨rfl,hR1,hK⟩
end Go.Proofs.YtoncpcdepemlcaaGreatDoor
namespace Go.Proofs.YtoncpcdepemlcaaGreatDoor
set_option maxRecDepth 100000
set_option maxHeartbeats 4000000
open Go.RowKit Go.Shelf
attribute [local go_sem] Oper.semAt_some
theorem quoteN_step : ∀ (r : List UInt8) (k : Nat), k < r.length → k ≤ quoteN r → (atB r k = 34 → quoteN r = k) ∧ (atB r k ≠ 34 → k + 1 ≤ quoteN r)
  | [], k, h, _ => absurd h (Nat.not_lt_zero _)
  | c :: r, 0, _, _ => by
    rw [quoteN_cons]
    refine ⟨fun e => if_pos e, fun e => ?_⟩
    rw [if_neg (show ¬ c = 34 from e)]
    omega
  | c :: r, k + 1, h, hk => by
    rw [quoteN_cons] at hk ⊢
    by_cases hc : c = 34
    · rw [if_pos hc] at hk; omega
    · rw [if_neg hc] at hk ⊢
      have := quoteN_step r k (by simpa using h) (by omega)
      exact ⟨fun e => by rw [this.1 e], fun e => by have := this.2 e; omega⟩
theorem atB_drop (l:List UInt8) (i k:Nat):atB (l.drop i) k=atB l (i+k):=by
 unfold atB;rw[List.getElem?_drop]
theorem quoteN_at {l:List UInt8} {n j:Nat} (h1:n+1<=j) (hj:j<l.length) (hq:j-(n+1)<=quoteN (l.drop (n+1))):(atB l j=34->quoteN (l.drop (n+1))=j-(n+1))/\(atB l j≠34->j+1-(n+1)<=quoteN (l.drop (n+1))):=by
 have:=quoteN_step (l.drop (n+1)) (j-(n+1)) (by rw[List.length_drop];omega) hq;rw[atB_drop,show n+1+(j-(n+1))=j by omega] at this;exact⟨this.1,fun e=>by have:=this.2 e;omega⟩
theorem literal_quote (R:Nat) (l:List UInt8) (n:Nat) (g:Bool) (w:World) (hl:l.length<=64) (HC:Hid (atB l n=34)) (hR:Rdr w R l n false g):Calls Tryz.prog 39 #[.pointer (some ⟨R,0,none⟩)] w (LitR R l n g w):=by
 have HH:=here_at HC hR;have HQ:Hid (litN l n=_):=litQ_quote HC.out;have hlt:n<l.length:=at_pos (by rw[HC.out];decide);have HSZ:Hid ((bs l).size=l.length):=bs_size l;have hsz64:(bs l).size<=64:=by rw[bs_size];omega
 have hn64:n<(bs l).size:=by rw[bs_size];omega
 clear HC hl hlt;unfold LitR;obtain⟨LN,hLN⟩:∃ LN,litN l n=LN:=⟨_,rfl⟩;rw[hLN];have HLN:Hid (litN l n=LN):=hLN;clear hLN;go_enter Tryz.func39,Tryz.ntmps39;go_wp2_with fail;refine Calls.mono HH.out ?_;rintro _ w1 ⟨rfl,hk⟩;clear HH;have hR1:Rdr w1 R l n false g:=Row.kept hR hk trivial;have c0:w1.cell? ⟨R,0,none⟩=some (.string (bs l)):=Row.cell hR1 (i:=0) rfl;have c1:w1.cell? ⟨R,1,none⟩=some (.int .i64 (n:Int)):=Row.cell hR1 (i:=1) rfl;have c2:w1.cell? ⟨R,2,none⟩=some (.bool false):=Row.cell hR1 (i:=2) rfl;have fz:=Row.frozen hR1;have lR:=Row.lt hR1;have hK:Kept (fun k=>k<w.heap.size/\k≠R) w w1:=hk.mono (fun _ _=>trivial);clear hR hk;go_wp2;go_loopw [5] (fun v5 wr=>∃j:Nat,n+1<=j/\j<=(bs l).size/\v5=.int .i64 (j:Int)/\Hid (j-(n+1)<=quoteN (l.drop (n+1)))/\wr=w1) (fun v5 _=>(bs l).size-(intOf v5).toNat)
 case atStart=>exact⟨n+1,Nat.le_refl _,hn64,by go_num,by show _<=_;omega,rfl⟩
 case round =>
  obtain⟨j,hj1,hj2,rfl,HJ,rfl⟩:=hrel;by_cases hj:j<(bs l).size
  ·have hjl:j<l.length:=by rw[<-HSZ.out];exact hj
   have HST:=quoteN_at hj1 hjl HJ.out;have HAT:Hid ((bs l)[j]'hj=atB l j):=atB_bs hj;obtain⟨d,hd⟩:∃d,atB l j=d:=⟨_,rfl⟩;rw[hd] at HST HAT;obtain⟨y,hy⟩:∃y:Int,(((bs l)[j]'hj).toNat:Int)=y:=⟨_,rfl⟩;have hyd:y=(d.toNat:Int):=by rw[<-hy,HAT.out]
   by_cases h34:d=34
   ·have e1:y=34:=by rw[hyd,h34];rfl
    rw[e1] at hy;have HQN:Hid (quoteN (l.drop (n+1))=j-(n+1)):=HST.1 h34;have hcut:(bs l).extract (n+1) j=bs ((l.drop (n+1)).take (j-(n+1))):=bs_cut l (n+1) j;have HF:Hid (LN=((l.drop (n+1)).take (j-(n+1)),true,j+1,false)):=by show _=_;rw[<-HLN.out,HQ.out,HQN.out,if_pos (by rw[<-HSZ.out];omega),show n+(j-(n+1)+2)=j+1 by omega]
    clear HST hd hyd h34 e1 HJ HQ HLN hjl HAT;go_upto_region 24 with fail
    go_quiet (fail);go_wp2;refine bodyPost_ret (results_tmp2 rfl _ _ _) rfl ?_;rw[HF.out];exact⟨by rw[<-hcut];rfl,Row.set 1 (.int .i64 ((j+1:Nat):Int)) hR1,(hK.dN _).setCell (fun e=>e.2 rfl) _⟩
   ·have e1:(y==34)=false:=by rw[hyd];exact(u8_eq d 34 (by decide)).trans (decide_eq_false h34)
    have HJ2:Hid (j+1-(n+1)<=quoteN (l.drop (n+1))):=HST.2 h34;clear HST hd hyd h34 HJ HQ HLN hjl HAT;go_wp2;exact⟨⟨j+1,by omega,by omega,by go_num,HJ2,trivial⟩,by simp[intOf];omega⟩
  ·have HF:Hid (LN=([],false,n,true)):=by show _=_;have:=HJ.out;have hs:=HSZ.out;rw[<-HLN.out,HQ.out,if_neg (by omega)]
   clear HJ HQ HLN;have hj':j=(bs l).size:=by omega
   subst hj';clear hj hj1 hj2;go_wp2;refine bodyPost_ret (results_tmp2 rfl _ _ _) rfl ?_;rw[HF.out];exact⟨rfl,Row.set 2 (.bool true) hR1,hK.setCell (fun e=>e.2 rfl) _⟩
theorem literal_any (R:Nat) (l:List UInt8) (n:Nat) (g:Bool) (w:World) (hl:l.length<=64) (hR:Rdr w R l n false g):Calls Tryz.prog 39 #[.pointer (some ⟨R,0,none⟩)] w (LitR R l n g w):=by
 cases h1:litC (atB l n) with
 | true=>exact literal_sign R l n g w hl _ rfl h1 hR
 | false =>
  by_cases h2:atB l n=92
  ·exact literal_back R l n g w hl h2 hR
  ·by_cases h3:atB l n=34
   ·exact literal_quote R l n g w hl h3 hR
   ·exact literal_none R l n g w h1 h2 h3 hR
end Go.Proofs.YtoncpcdepemlcaaGreatDoor
namespace Go.Proofs.YtoncpcdepemlcaaGreatDoor
set_option maxRecDepth 100000
set_option maxHeartbeats 8000000
open Go.RowKit Go.Shelf
attribute [local go_sem] Oper.semAt_some
def spec (tx : Bool) : UInt8 := if tx then 64 else 37
theorem step_spec {tx:Bool} {l:List UInt8} {m:Nat} (h:atB l m=spec tx):litStep tx (l.drop m)=some (if tx then ([0],0,1) else ([37],1,1))/\m<l.length:=by
 have hlt:m<l.length:=at_pos (by rw[h];cases tx<;>decide);rw[drop_at hlt,h];cases tx<;>exact⟨rfl,hlt⟩
theorem step_other {tx:Bool} {l:List UInt8} {m:Nat} (hl:l.length<=64) (h:atB l m≠spec tx):(∃o k,litN l m=(o,true,m+k,false)/\litStep tx (l.drop m)=some (o,0,k)/\o.length<=k/\o.length<=64)\/(litN l m=([],false,m,stuckB (atB l m))/\litStep tx (l.drop m)=none):=by
 by_cases hlt:m<l.length
 ·have hd:=drop_at hlt;have key:litStep tx (l.drop m)=(litQ (l.drop m)).map (fun y=>(y.1,0,y.2)):=by
   rw[hd];generalize atB l m=c at *;cases tx with
   | true =>
    have h64:c≠64:=h;by_cases h37:c=37
    ·subst h37;rfl
    ·exact step_lit true c _ h37 h64
   | false =>
    have h37:c≠37:=h;by_cases h64:c=64
    ·subst h64;rfl
    ·exact step_lit false c _ h37 h64
  rw[key];unfold litN;cases hq:litQ (l.drop m) with
  | none=>exact .inr ⟨rfl,rfl⟩
  | some y =>
   have:=litQ_len hq;rw[List.length_drop] at this;exact .inl ⟨y.1,y.2,rfl,rfl,this.2.2,by omega⟩
 ·refine .inr ?_;unfold litN;rw[List.drop_eq_nil_of_le (by omega)];exact⟨rfl,by cases tx<;>rfl⟩
def Lrel (tx : Bool) (l : List UInt8) (n m : Nat) (o : List UInt8) (p : Nat) : Prop :=
  lits tx (l.drop n) = (o ++ (lits tx (l.drop m)).1, p + (lits tx (l.drop m)).2.1, (lits tx (l.drop m)).2.2) ∧ n ≤ m ∧ m ≤ l.length ∧ n + p ≤ m ∧ n + o.length ≤ m
theorem Lrel.start (tx:Bool) (l:List UInt8) (n:Nat) (h:n≤l.length):Lrel tx l n n [] 0:=⟨by simp,Nat.le_refl _,h,Nat.le_refl _,Nat.le_refl _⟩
theorem Lrel.go {tx:Bool} {l:List UInt8} {n m:Nat} {o:List UInt8} {p:Nat} (h:Lrel tx l n m o p) {o':List UInt8} {p' k:Nat} (hs:litStep tx (l.drop m)=some (o',p',k)) (ho:o'.length<=k):Lrel tx l n (m+k) (o++o') (p+p')/\1<=k:=by
 obtain⟨h1,h2,h3,h4,h5⟩:=h;have hk:=litStep_len hs;rw[List.length_drop] at hk;refine⟨⟨?_,by omega,by omega,by omega,by rw[List.length_append];omega⟩,hk.2.1⟩;rw[h1,lits_some hs,List.drop_drop];simp[List.append_assoc,Nat.add_assoc]
theorem Lrel.fin {tx:Bool} {l:List UInt8} {n m:Nat} {o:List UInt8} {p:Nat} (h:Lrel tx l n m o p) (hs:litStep tx (l.drop m)=none):lits tx (l.drop n)=(o,p,l.drop m)/\litE tx l n=m:=by
 obtain⟨h1,h2,h3,h4,h5⟩:=h;have e:lits tx (l.drop n)=(o,p,l.drop m):=by rw[h1,lits_none hs];simp
 refine⟨e,?_⟩;unfold litE;rw[e,List.length_drop];omega
def rPos (R : Nat) (w : World) : Nat := match w.cell? ⟨R, 1, none⟩ with | some (.int _ k) => k.toNat | _ => 0
theorem rPos_row {W:World} {R:Nat} {l:List UInt8} {n:Nat} {b g:Bool} (h:Rdr W R l n b g):rPos R W=n:=by
 unfold rPos;rw[show W.cell? ⟨R,1,none⟩=some (.int .i64 (n:Int)) from Row.cell h (i:=1) rfl];simp
theorem bs_add (a b:List UInt8):bs a++bs b=bs (a++b):=bs_join2 a b
def SecC (x : Sec) (p : Nat) : Array Value := ({ x with pc := x.pc + p } : Sec).cells
def SdI (R S : Nat) (l : List UInt8) (n : Nat) (g : Bool) (x : Sec) (w : World) (m : Nat) (o : List UInt8) (p : Nat) (wr : World) : Prop :=
  Lrel false l n m o p ∧ Rdr wr R l m false g ∧ Row wr S 34 (SecC x p) ∧ Kept (fun k => k < w.heap.size ∧ k ≠ R ∧ k ≠ S) w wr
theorem side_any (R S:Nat) (l:List UInt8) (n:Nat) (g:Bool) (x:Sec) (hn:n<=l.length) (hl:l.length<=64) (hne:R≠S) (hpc:x.pc<=100) (w:World) (hR:Rdr w R l n false g) (hS:Row w S 34 x.cells):Calls Tryz.prog 40 #[.pointer (some ⟨R,0,none⟩),.pointer (some ⟨S,0,none⟩)] w fun r w'=>r=.returned (.string (bs (lits false (l.drop n)).1))/\Rdr w' R l (litE false l n) (stuckB (atB l (litE false l n))) g/\Row w' S 34 (SecC x (lits false (l.drop n)).2.1)/\Kept (fun k=>k<w.heap.size/\k≠R/\k≠S) w w':=by
 have hRl:R<w.heap.size:=Row.lt hR;have hSl:S<w.heap.size:=hS.lt;have h0:Hid (SdI R S l n g x w n [] 0 w):=⟨Lrel.start false l n hn,hR,hS,Kept.refl _ w⟩;clear hR hS;go_enter Tryz.func40,Tryz.ntmps40;go_wp2;go_loopw [5] (fun v5 wr=>∃(m:Nat) (o:List UInt8) (p:Nat),v5=.string (bs o)/\Hid (SdI R S l n g x w m o p wr)) (fun _ wr=>l.length-rPos R wr)
 case atStart=>exact⟨n,[],0,rfl,h0⟩
 case round =>
  clear h0;obtain⟨m,o,p,rfl,H⟩:=hrel;have hRr:=H.out.2.1;have hSr:=H.out.2.2.1;have hKr:=H.out.2.2.2;have hm:=H.out.1.2.2.1;have hp:=H.out.1.2.2.2.1;have hob:(bs o).size<=64:=by have:=H.out.1.2.2.2.2;rw[bs_size];omega
  have c1:wr.cell? ⟨R,1,none⟩=some (.int .i64 (m:Int)):=Row.cell hRr (i:=1) rfl;have c2:wr.cell? ⟨R,2,none⟩=some (.bool false):=Row.cell hRr (i:=2) rfl;obtain⟨c,hc⟩:∃c,atB l m=c:=⟨_,rfl⟩;have HC:Hid (atB l m=c):=hc;have HH:=here_at HC hRr;obtain⟨y,hy⟩:∃y:Int,(c.toNat:Int)=y:=⟨_,rfl⟩;rw[hy] at HH;have hrw:=rPos_row hRr;clear hc;by_cases h37:c=37
  ·have hy37:y=37:=by rw[<-hy,h37];rfl
   subst hy37;have HST:Hid (litStep false (l.drop m)=some ([37],1,1)):=(step_spec (tx:=false) (HC.out.trans h37)).1;have hml:m<l.length:=(step_spec (tx:=false) (HC.out.trans h37)).2;clear hy h37 HC;go_wp2_with fail;refine Calls.mono HH.out ?_;rintro _ w1 ⟨rfl,hk⟩;clear HH c1 c2;have hR1:Rdr w1 R l m false g:=Row.kept hRr hk trivial;have hS1:Row w1 S 34 (SecC x p):=hSr.kept hk trivial;have hK1:=hKr.trans (hk.mono (fun _ _=>trivial));have c1:w1.cell? ⟨R,1,none⟩=some (.int .i64 (m:Int)):=Row.cell hR1 (i:=1) rfl;obtain⟨q,hq⟩:∃q:Nat,x.pc+p=q:=⟨_,rfl⟩;have c8:w1.cell? ⟨S,8,none⟩=some (.int .i64 (q:Int)):=by rw[<-hq];exact hS1.cell (i:=8) rfl
   have hq2:q<=200:=by omega
   have HQ:Hid (x.pc+p=q):=hq;have fR:=Row.frozen hR1;have fS:=hS1.frozen;have lR:=Row.lt hR1;have lS:=hS1.lt;have HL:Hid _:=H.out.1.go HST.out (Nat.le_refl _);have HW:Hid (rPos R wr=m):=hrw;have HA:Hid _:=hR1;have HB:Hid _:=hS1;have HD:Hid _:=hK1;clear hR1 hS1 hK1 H hRr hSr hKr HST hk hq hrw;go_wp2;refine⟨?rel,?measure⟩
   case rel =>
    have r1:Rdr (w1.setCell ⟨R,1,none⟩ (.int .i64 ((m+1:Nat):Int))) R l (m+1) false g:=Row.set 1 _ HA.out;have s2:Row ((w1.setCell ⟨R,1,none⟩ (.int .i64 ((m+1:Nat):Int))).setCell ⟨S,8,none⟩ (.int .i64 ((q+1:Nat):Int))) S 34 (SecC x (p+1)):=by have:=Row.set 8 (.int .i64 ((q+1:Nat):Int)) (Row.off HB.out 1 (.int .i64 ((m+1:Nat):Int)) hne.symm);rw[<-HQ.out] at this ⊢;exact this
    exact⟨m+1,o++[37],p+1,by rw[<-bs_add];rfl,HL.out.1,Row.off r1 8 _ hne,s2,(HD.out.setCell (fun e=>e.2.1 rfl) _).setCell (fun e=>e.2.2 rfl) _⟩
   case measure => have r1:Rdr (w1.setCell ⟨R,1,none⟩ (.int .i64 ((m+1:Nat):Int))) R l (m+1) false g:=Row.set 1 _ HA.out;have r2:=rPos_row (show Rdr _ R l (m+1) false g from Row.off r1 8 (.int .i64 ((q+1:Nat):Int)) hne);rw[HW.out];show l.length-rPos R ((w1.setCell ⟨R,1,none⟩ (.int .i64 ((m+1:Nat):Int))).setCell ⟨S,8,none⟩ (.int .i64 ((q+1:Nat):Int)))<_;rw[r2];omega
  ·have e37:(y==37)=false:=by rw[<-hy];exact(u8_eq c 37 (by decide)).trans (decide_eq_false h37)
   have HLI:∀ W,Rdr W R l m false g->Hid (Calls Tryz.prog 39 #[.pointer (some ⟨R,0,none⟩)] W (LitR R l m g W)):=fun W h=>literal_any R l m g W hl h;rcases step_other (tx:=false) (l:=l) (m:=m) hl (by rw[HC.out];exact h37) with ⟨o',k,hN,hS',ho1,ho2⟩|⟨hN,hS'⟩
   ·have HST:Hid (litStep false (l.drop m)=some (o',0,k)):=hS';unfold LitR at HLI;rw[hN] at HLI;clear hy h37 HC hN hS';go_wp2_with fail;refine Calls.mono HH.out ?_;rintro _ w1 ⟨rfl,hk⟩;clear HH c1 c2;have hR1:Rdr w1 R l m false g:=Row.kept hRr hk trivial;have hS1:Row w1 S 34 (SecC x p):=hSr.kept hk trivial;have hK1:=hKr.trans (hk.mono (fun _ _=>trivial));have HL:Hid _:=H.out.1.go HST.out ho1;have hob2:(bs o').size<=64:=by rw[bs_size];exact ho2
    have HW:Hid (rPos R wr=m):=hrw;clear H hRr hSr hKr HST hk hrw ho1 ho2;go_wp2_with fail;refine Calls.mono (HLI _ hR1).out ?_;rintro _ w2 ⟨rfl,hR2,hk2⟩;have hlt1:=hS1.lt;have HB:Hid _:=hS1.kept hk2 ⟨hlt1,hne.symm⟩;have hsz:=hK1.size;have HD:Hid _:=hK1.trans (hk2.mono (fun k h=>⟨by have:=h.1;omega,h.2.1⟩));have HA:Hid (Rdr w2 R l (m+k) false g):=hR2;clear hR1 hS1 hK1 hR2 hk2 HLI hsz hlt1;go_wp2;refine⟨?rel,?measure⟩
    case rel=>exact⟨m+k,o++o',p+0,by rw[<-bs_add],HL.out.1,HA.out,HB.out,HD.out⟩
    case measure => rw[HW.out,rPos_row HA.out];have:=HL.out.2;have:=HL.out.1.2.2.1;omega
   ·have HF:Hid _:=H.out.1.fin hS';unfold LitR at HLI;rw[hN] at HLI;clear hy h37 hN hS';go_wp2_with fail;refine Calls.mono HH.out ?_;rintro _ w1 ⟨rfl,hk⟩;clear HH c1 c2;have hR1:Rdr w1 R l m false g:=Row.kept hRr hk trivial;have hS1:Row w1 S 34 (SecC x p):=hSr.kept hk trivial;have hK1:=hKr.trans (hk.mono (fun _ _=>trivial));clear H hRr hSr hKr hk hrw;go_wp2_with fail;refine Calls.mono (HLI _ hR1).out ?_;rintro _ w2 ⟨rfl,hR2,hk2⟩;have hlt1:=hS1.lt;have HB:Hid _:=hS1.kept hk2 ⟨hlt1,hne.symm⟩;have hsz:=hK1.size;have HD:Hid _:=hK1.trans (hk2.mono (fun k h=>⟨by have:=h.1;omega,h.2.1⟩));have HA:Hid (Rdr w2 R l m (stuckB (atB l m)) g):=hR2;clear hR1 hS1 hK1 hR2 hk2 HLI hsz hlt1;go_wp2;go_ret;rw[HF.out.1,HF.out.2];exact⟨rfl,HA.out,HB.out,HD.out⟩
theorem side_bad (R S:Nat) (l:List UInt8) (n:Nat) (g:Bool) (w:World) (hR:Rdr w R l n true g):Calls Tryz.prog 40 #[.pointer (some ⟨R,0,none⟩),.pointer (some ⟨S,0,none⟩)] w fun r w'=>r=.returned (.string (bs []))/\w'=w:=by
 have c2:w.cell? ⟨R,2,none⟩=some (.bool true):=Row.cell hR (i:=2) rfl;clear hR;go_enter Tryz.func40,Tryz.ntmps40;go_wp2;go_loopw [5] (fun v5 wr=>v5=.string (bs [])/\wr=w) (fun _ _=>0)
 case atStart=>exact⟨rfl,rfl⟩
 case round => obtain⟨rfl,rfl⟩:=hrel;go_wp2;go_ret;exact⟨rfl,rfl⟩
end Go.Proofs.YtoncpcdepemlcaaGreatDoor
namespace Go.Proofs.YtoncpcdepemlcaaGreatDoor
open Go.RowKit Go.Shelf
theorem ra_miss {s old new:List UInt8} (h:Lib.index s old = -1):Lib.replaceAll s old new=s:=by
 unfold Lib.replaceAll Lib.replace;split
 ·rfl
 ·have:Lib.replaceNum s old (-1)=0:=by unfold Lib.replaceNum;rw[if_pos (by omega),Lib.count_miss h]
  rw[this];rfl
theorem ra_hit {s old new:List UInt8} {i:Nat} (h1:old≠[]) (hne:(old==new)=false) (h:Lib.index s old=i):Lib.replaceAll s old new=s.take i++new++Lib.replaceAll (s.drop (i+old.length)) old new:=by
 unfold Lib.replaceAll Lib.replace;rw[hne];simp only[Bool.false_eq_true,if_false];have e1:∀t,Lib.replaceNum t old (-1)=Lib.count t old:=fun t=>by unfold Lib.replaceNum;rw[if_pos (by omega)]
 rw[e1,e1,Lib.count_hit h1 h,Nat.add_comm,Lib.replaceK_hit _ _ _ _ i h]
theorem index_split (k:UInt8) (s:List UInt8):(Lib.index s [k] = -1/\∀b ∈ s,b≠k)\/∃p r,s=p++k::r/\(∀b ∈ p,b≠k)/\Lib.index s [k]=p.length:=by
 induction s with
 | nil=>exact .inl ⟨rfl,by simp⟩
 | cons a s ih =>
  by_cases h:a=k
  ·subst h;refine .inr ⟨[],s,rfl,by simp,?_⟩;unfold Lib.index;simp
  ·have h2:([k]:List UInt8).isPrefixOf (a::s)=false:=by simp[List.isPrefixOf,Ne.symm h]
   have h3:Lib.index (a::s) [k]=if Lib.index s [k] == -1 then -1 else Lib.index s [k]+1:=by rw[Lib.index,h2];rfl
   rcases ih with ⟨e,hb⟩|⟨p,r,rfl,hb,e⟩
   ·refine .inl ⟨by rw[h3,e];rfl,fun b hx => ?_⟩;rcases List.mem_cons.1 hx with rfl|hx
    ·exact h
    ·exact hb b hx
   ·refine .inr ⟨a::p,r,rfl,fun b hx => ?_,?_⟩
    ·rcases List.mem_cons.1 hx with rfl|hx
     ·exact h
     ·exact hb b hx
    ·have:((p.length:Int) == -1)=false:=by rw[beq_eq_false_iff_ne];omega
     rw[h3,e,this];simp
theorem filter_self {p:List UInt8} (h:∀b ∈ p,b≠44):p.filter (· != 44)=p:=by
 rw[List.filter_eq_self];intro a ha;simpa using h a ha
theorem ra_none : ∀ (n : Nat) (s : List UInt8), s.length ≤ n → Lib.replaceAll s [44] [] = s.filter (· != 44)
  | 0, s, h => by
    obtain rfl : s = [] := List.length_eq_zero_iff.1 (by omega)
    rfl
  | n + 1, s, h => by
    rcases index_split 44 s with ⟨e, hb⟩ | ⟨p, r, rfl, hb, e⟩
    · rw [ra_miss e, filter_self hb]
    · rw [ra_hit (by simp) rfl e]
      have h2 : (p ++ 44 :: r).drop (p.length + [(44 : UInt8)].length) = r := by simp
      rw [h2, ra_none n r (by simp at h; omega)]
      simp [filter_self hb]
theorem contains_cons (c:UInt8) (r sub:List UInt8):Lib.contains (c::r) sub=(sub.isPrefixOf (c::r)||Lib.contains r sub):=by
 unfold Lib.contains;have hg:=Lib.index_ge r sub;rw[Lib.index];cases hp:sub.isPrefixOf (c::r)
 ·by_cases h:Lib.index r sub = -1
  ·rw[h];rfl
  ·have h1:(Lib.index r sub == -1)=false:=by rw[beq_eq_false_iff_ne];exact h
   rw[h1];simp only[Bool.false_eq_true,if_false,Bool.false_or];rw[decide_eq_decide];omega
 ·simp
def hdB (b : UInt8) : List UInt8 → Bool
  | [] => false
  | d :: _ => decide (b = d)
def hdP : List UInt8 → Bool
  | [] => false
  | d :: _ => plcB d
theorem contains_two (c:UInt8) (r:List UInt8) (a b:UInt8):Lib.contains (c::r) [a,b]=((decide (a=c)&&hdB b r)||Lib.contains r [a,b]):=by
 rw[contains_cons];congr 1;cases r with
 | nil=>simp[List.isPrefixOf,hdB]
 | cons d r=>simp[List.isPrefixOf,BEq.beq,hdB]
def okZ : Bool → List UInt8 → Bool
  | _, [] => true
  | z, c :: v => if c = 35 then !z && okZ z v else okZ true v
theorem okZ_s (z:Bool) (v:List UInt8):okZ z (35::v)=(!z&&okZ z v):=by rw[okZ,if_pos rfl]
theorem okZ_0 (z:Bool) (v:List UInt8):okZ z (48::v)=okZ true v:=by rw[okZ,if_neg (by decide)]
theorem okZ_says : ∀ v : List UInt8, (∀ b ∈ v, b = 48 ∨ b = 35) → okZ false v = !Lib.contains v [48, 35] ∧ okZ true v = !Lib.contains (48 :: v) [48, 35]
  | [], _ => ⟨rfl, rfl⟩
  | c :: v, h => by
    have ih := okZ_says v (fun b hb => h b (by simp [hb]))
    rw [contains_two 48 (c :: v), contains_two c v]
    rcases h c (by simp) with rfl | rfl
    · have e : Lib.contains (48 :: v) [48, 35] = ((decide ((48 : UInt8) = 48) && hdB 35 v) || Lib.contains v [48, 35]) := contains_two 48 v 48 35
      rw [okZ_0, okZ_0, ih.2, e]
      simp [hdB]
    · rw [okZ_s, okZ_s, ih.1]
      simp [hdB]
def okC : Bool → List UInt8 → Bool
  | pp, [] => pp
  | pp, c :: w => if c = 44 then pp && okC false w else okC true w
theorem okC_44 (pp:Bool) (w:List UInt8):okC pp (44::w)=(pp&&okC false w):=by rw[okC,if_pos rfl]
theorem okC_ne (pp:Bool) {c:UInt8} (h:c≠44) (w:List UInt8):okC pp (c::w)=okC true w:=by rw[okC,if_neg h]
theorem okC_says : ∀ w : List UInt8, okC false w = !Lib.contains ([44] ++ w ++ [44]) [44, 44] ∧ okC true w = !Lib.contains (w ++ [44]) [44, 44]
  | [] => ⟨rfl, rfl⟩
  | c :: w => by
    have ih := okC_says w
    have e1 : [44] ++ (c :: w) ++ [44] = 44 :: c :: (w ++ [44]) := rfl
    have e2 : (c :: w) ++ [44] = c :: (w ++ [44]) := rfl
    rw [e1, e2]
    by_cases hc : c = 44
    · subst hc
      rw [okC_44, okC_44, ih.1]
      refine ⟨?_, rfl⟩
      rw [contains_two 44 (44 :: (w ++ [44]))]
      simp [hdB]
    · rw [okC_ne _ hc, okC_ne _ hc, ih.2, contains_two 44 (c :: (w ++ [44])), contains_two c (w ++ [44])]
      simp [hdB, Ne.symm hc]
def okP : Bool → List UInt8 → Bool
  | _, [] => true
  | s, c :: p => if c = 48 then !s && okP s p else okP true p
theorem okP_0 (z:Bool) (v:List UInt8):okP z (48::v)=(!z&&okP z v):=by rw[okP,if_pos rfl]
theorem okP_s (z:Bool) (v:List UInt8):okP z (35::v)=okP true v:=by rw[okP,if_neg (by decide)]
theorem okP_says : ∀ v : List UInt8, (∀ b ∈ v, b = 48 ∨ b = 35) → okP false v = !Lib.contains v [35, 48] ∧ okP true v = !Lib.contains (35 :: v) [35, 48]
  | [], _ => ⟨rfl, rfl⟩
  | c :: v, h => by
    have ih := okP_says v (fun b hb => h b (by simp [hb]))
    rw [contains_two 35 (c :: v), contains_two c v]
    rcases h c (by simp) with rfl | rfl
    · rw [okP_0, okP_0, ih.1]
      simp [hdB]
    · have e : Lib.contains (35 :: v) [35, 48] = ((decide ((35 : UInt8) = 35) && hdB 48 v) || Lib.contains v [35, 48]) := contains_two 35 v 35 48
      rw [okP_s, okP_s, ih.2, e]
      simp [hdB]
def whF : List UInt8 → Bool → Nat → Nat → Bool → Bool × Nat × Nat × Bool × List UInt8
  | [], _, wh, ze, gr => (true, wh, ze, gr, [])
  | c :: r, pp, wh, ze, gr =>
    if c = 44 then (if hdP r && pp then whF r false wh ze true else (false, wh, ze, gr, c :: r))
    else if c = 35 then (if 0 < ze then (false, wh, ze, gr, c :: r) else whF r true (wh + 1) ze gr)
    else if c = 48 then whF r true (wh + 1) (ze + 1) gr
    else (true, wh, ze, gr, c :: r)
def pF : List UInt8 → Nat → Nat → Bool × Nat × Nat × List UInt8
  | [], pa, pz => (true, pa, pz, [])
  | c :: r, pa, pz =>
    if c = 48 then (if pz < pa then (false, pa, pz, c :: r) else pF r (pa + 1) (pz + 1))
    else if c = 35 then pF r (pa + 1) pz
    else (true, pa, pz, c :: r)
def wS (l : List UInt8) : List UInt8 := l.takeWhile (([35, 48, 44] : List UInt8).contains ·)
def pS (l : List UInt8) : List UInt8 := l.takeWhile (([35, 48] : List UInt8).contains ·)
theorem run_take (l cs:List UInt8):runA l cs=l.takeWhile (cs.contains ·):=by
 unfold runA Lib.trimLeftS;have h:=List.takeWhile_append_dropWhile (p:=(cs.contains ·)) (l:=l);have h2:=congrArg List.length h;rw[List.length_append] at h2;have e:l.length-(l.dropWhile (cs.contains ·)).length=(l.takeWhile (cs.contains ·)).length:=by omega
 have h3:∀a b:List UInt8,(a++b).take a.length=a:=fun a b=>by simp
 have h4:=h3 (l.takeWhile (cs.contains ·)) (l.dropWhile (cs.contains ·));rw[h] at h4;rw[e];exact h4
theorem in3 (c:UInt8):(([35,48,44]:List UInt8).contains c)=(decide (c=35)||(decide (c=48)||decide (c=44))):=by
 simp only[List.contains_cons,List.contains_nil,Bool.or_false];rfl
theorem in2 (c:UInt8):(([35,48]:List UInt8).contains c)=(decide (c=35)||decide (c=48)):=by
 simp only[List.contains_cons,List.contains_nil,Bool.or_false];rfl
theorem whF_44 (r:List UInt8) (pp:Bool) (wh ze:Nat) (gr:Bool):whF (44::r) pp wh ze gr=if hdP r&&pp then whF r false wh ze true else (false,wh,ze,gr,44::r):=by rw[whF.eq_def];dsimp only;rw[if_pos rfl]
theorem whF_35 (r:List UInt8) (pp:Bool) (wh ze:Nat) (gr:Bool):whF (35::r) pp wh ze gr=if 0<ze then (false,wh,ze,gr,35::r) else whF r true (wh+1) ze gr:=by rw[whF.eq_def];dsimp only;rw[if_neg (by decide),if_pos rfl]
theorem whF_48 (r:List UInt8) (pp:Bool) (wh ze:Nat) (gr:Bool):whF (48::r) pp wh ze gr=whF r true (wh+1) (ze+1) gr:=by rw[whF.eq_def];dsimp only;rw[if_neg (by decide),if_neg (by decide),if_pos rfl]
theorem whF_no {c:UInt8} (h1:c≠44) (h2:c≠35) (h3:c≠48) (r:List UInt8) (pp:Bool) (wh ze:Nat) (gr:Bool):whF (c::r) pp wh ze gr=(true,wh,ze,gr,c::r):=by rw[whF.eq_def];dsimp only;rw[if_neg h1,if_neg h2,if_neg h3]
theorem pF_48 (r:List UInt8) (pa pz:Nat):pF (48::r) pa pz=if pz<pa then (false,pa,pz,48::r) else pF r (pa+1) (pz+1):=by rw[pF.eq_def];dsimp only;rw[if_pos rfl]
theorem pF_35 (r:List UInt8) (pa pz:Nat):pF (35::r) pa pz=pF r (pa+1) pz:=by rw[pF.eq_def];dsimp only;rw[if_neg (by decide),if_pos rfl]
theorem pF_no {c:UInt8} (h2:c≠35) (h3:c≠48) (r:List UInt8) (pa pz:Nat):pF (c::r) pa pz=(true,pa,pz,c::r):=by rw[pF.eq_def];dsimp only;rw[if_neg h3,if_neg h2]
theorem whF_says : ∀ (l : List UInt8) (pp : Bool) (wh ze : Nat) (gr : Bool), (pp = false → ∃ c r, l = c :: r ∧ plcB c = true) →
    if (okC pp (wS l) && okZ (decide (0 < ze)) ((wS l).filter (· != 44))) = true then whF l pp wh ze gr = (true, wh + ((wS l).filter (· != 44)).length, ze + ((wS l).filter (· != 44)).count 48, gr || decide ((wS l).filter (· != 44) ≠ wS l), Lib.trimLeftS l [35, 48, 44]) else (whF l pp wh ze gr).1 = false
  | [], pp, wh, ze, gr, H => by
    cases pp with
    | true => simp [wS, okC, okZ, whF, Lib.trimLeftS]
    | false => obtain ⟨c, r, h, _⟩ := H rfl; cases h
  | c :: r, pp, wh, ze, gr, H => by
    have hle : ((wS r).filter (· != 44)).length ≤ (wS r).length := List.length_filter_le _ _
    by_cases h44 : c = 44
    · subst h44
      have hpp : pp = true := by
        cases pp with
        | true => rfl
        | false => obtain ⟨c, r', h, h2⟩ := H rfl; cases h; cases h2
      subst hpp
      have e1 : wS (44 :: r) = 44 :: wS r := by unfold wS; rw [List.takeWhile_cons, in3]; rfl
      have e2 : Lib.trimLeftS (44 :: r) [35, 48, 44] = Lib.trimLeftS r [35, 48, 44] := by unfold Lib.trimLeftS; rw [List.dropWhile_cons, in3]; rfl
      have e3 : (44 :: wS r).filter (· != 44) = (wS r).filter (· != 44) := rfl
      rw [e1, e2, e3, okC_44, Bool.true_and, whF_44, Bool.and_true]
      cases r with
      | nil => simp [wS, okC, hdP]
      | cons d r2 =>
        by_cases hd : plcB d = true
        · have ih := whF_says (d :: r2) false wh ze true (fun _ => ⟨d, r2, rfl, hd⟩)
          rw [if_pos (show hdP (d :: r2) = true from hd)]
          split
          · rename_i hg
            rw [if_pos hg] at ih
            rw [ih]
            have hne : (wS (d :: r2)).filter (· != 44) ≠ 44 :: wS (d :: r2) := fun e => by
              have := congrArg List.length e
              have := List.length_filter_le (· != 44) (wS (d :: r2))
              simp at *
              omega
            simp [hne]
          · rename_i hg
            rw [if_neg hg] at ih
            exact ih
        · rw [if_neg (show ¬ hdP (d :: r2) = true from hd)]
          have hz : okC false (wS (d :: r2)) = false := by
            unfold wS
            rw [List.takeWhile_cons, in3]
            unfold plcB at hd
            simp only [Bool.or_eq_true, decide_eq_true_eq, not_or] at hd
            by_cases h4 : d = 44
            · subst h4; rfl
            · simp [hd.1, hd.2, h4, okC]
          rw [hz]
          simp
    · have hf : ∀ w : List UInt8, (c :: w).filter (· != 44) = c :: w.filter (· != 44) := fun w => by simp [h44]
      by_cases h35 : c = 35
      · subst h35
        have e1 : wS (35 :: r) = 35 :: wS r := by unfold wS; rw [List.takeWhile_cons, in3]; rfl
        have e2 : Lib.trimLeftS (35 :: r) [35, 48, 44] = Lib.trimLeftS r [35, 48, 44] := by unfold Lib.trimLeftS; rw [List.dropWhile_cons, in3]; rfl
        rw [e1, e2, hf, okC_ne _ (by decide), okZ_s, whF_35]
        by_cases hz : 0 < ze
        · rw [decide_eq_true hz, if_pos hz]; simp
        · rw [decide_eq_false hz, if_neg hz]
          have ih := whF_says r true (wh + 1) ze gr (fun h => by cases h)
          rw [decide_eq_false hz] at ih
          simp only [Bool.not_false, Bool.true_and]
          split
          · rename_i hg
            rw [if_pos hg] at ih
            rw [ih]
            simp [Nat.add_assoc, Nat.add_comm 1]
          · rename_i hg
            rw [if_neg hg] at ih
            exact ih
      · by_cases h48 : c = 48
        · subst h48
          have e1 : wS (48 :: r) = 48 :: wS r := by unfold wS; rw [List.takeWhile_cons, in3]; rfl
          have e2 : Lib.trimLeftS (48 :: r) [35, 48, 44] = Lib.trimLeftS r [35, 48, 44] := by unfold Lib.trimLeftS; rw [List.dropWhile_cons, in3]; rfl
          rw [e1, e2, hf, okC_ne _ (by decide), okZ_0, whF_48]
          have ih := whF_says r true (wh + 1) (ze + 1) gr (fun h => by cases h)
          rw [decide_eq_true (show 0 < ze + 1 by omega)] at ih
          split
          · rename_i hg
            rw [if_pos hg] at ih
            rw [ih]
            simp [Nat.add_assoc, Nat.add_comm 1]
          · rename_i hg
            rw [if_neg hg] at ih
            exact ih
        · have e1 : wS (c :: r) = [] := by unfold wS; rw [List.takeWhile_cons, in3]; simp [h44, h35, h48]
          have e2 : Lib.trimLeftS (c :: r) [35, 48, 44] = c :: r := by unfold Lib.trimLeftS; rw [List.dropWhile_cons, in3]; simp [h44, h35, h48]
          have hpp : pp = true := by
            cases pp with
            | true => rfl
            | false =>
              obtain ⟨c', r', h, h2⟩ := H rfl
              cases h
              unfold plcB at h2
              simp [h35, h48] at h2
          subst hpp
          rw [e1, e2, whF_no h44 h35 h48]
          simp [okC, okZ]
theorem pF_says : ∀ (l : List UInt8) (pa pz : Nat), pz ≤ pa →
    if okP (decide (pz < pa)) (pS l) = true then pF l pa pz = (true, pa + (pS l).length, pz + (pS l).count 48, Lib.trimLeftS l [35, 48]) else (pF l pa pz).1 = false
  | [], pa, pz, H => by simp [pS, okP, pF, Lib.trimLeftS]
  | c :: r, pa, pz, H => by
    by_cases h48 : c = 48
    · subst h48
      have e1 : pS (48 :: r) = 48 :: pS r := by unfold pS; rw [List.takeWhile_cons, in2]; rfl
      have e2 : Lib.trimLeftS (48 :: r) [35, 48] = Lib.trimLeftS r [35, 48] := by unfold Lib.trimLeftS; rw [List.dropWhile_cons, in2]; rfl
      rw [e1, e2, okP_0, pF_48]
      by_cases hz : pz < pa
      · rw [decide_eq_true hz, if_pos hz]; simp
      · rw [decide_eq_false hz, if_neg hz]
        have ih := pF_says r (pa + 1) (pz + 1) (by omega)
        rw [decide_eq_false (show ¬ pz + 1 < pa + 1 by omega)] at ih
        simp only [Bool.not_false, Bool.true_and]
        split
        · rename_i hg
          rw [if_pos hg] at ih
          rw [ih]
          simp [Nat.add_assoc, Nat.add_comm 1]
        · rename_i hg
          rw [if_neg hg] at ih
          exact ih
    · by_cases h35 : c = 35
      · subst h35
        have e1 : pS (35 :: r) = 35 :: pS r := by unfold pS; rw [List.takeWhile_cons, in2]; rfl
        have e2 : Lib.trimLeftS (35 :: r) [35, 48] = Lib.trimLeftS r [35, 48] := by unfold Lib.trimLeftS; rw [List.dropWhile_cons, in2]; rfl
        rw [e1, e2, okP_s, pF_35]
        have ih := pF_says r (pa + 1) pz (by omega)
        rw [decide_eq_true (show pz < pa + 1 by omega)] at ih
        split
        · rename_i hg
          rw [if_pos hg] at ih
          rw [ih]
          simp [Nat.add_assoc, Nat.add_comm 1]
        · rename_i hg
          rw [if_neg hg] at ih
          exact ih
      · have e1 : pS (c :: r) = [] := by unfold pS; rw [List.takeWhile_cons, in2]; simp [h35, h48]
        have e2 : Lib.trimLeftS (c :: r) [35, 48] = c :: r := by unfold Lib.trimLeftS; rw [List.dropWhile_cons, in2]; simp [h35, h48]
        rw [e1, e2, pF_no h35 h48]
        simp [okP]
theorem wS_mem {l:List UInt8}:∀b ∈ (wS l).filter (· != 44),b=48\/b=35:=by
 intro b hb;rw[List.mem_filter] at hb;have h:=List.all_eq_true.1 (List.all_takeWhile (p:=(([35,48,44]:List UInt8).contains ·)) (l:=l)) b hb.1;rw[in3] at h;have h2:b≠44:=by simpa using hb.2
 simp only[Bool.or_eq_true,decide_eq_true_eq] at h;rcases h with h|h|h
 ·exact .inr h
 ·exact .inl h
 ·exact absurd h h2
theorem pS_mem {l:List UInt8}:∀b ∈ pS l,b=48\/b=35:=by
 intro b hb;have h:=List.all_eq_true.1 (List.all_takeWhile (p:=(([35,48]:List UInt8).contains ·)) (l:=l)) b hb;rw[in2] at h;simp only[Bool.or_eq_true,decide_eq_true_eq] at h;exact h.symm
theorem digP_is (l:List UInt8) (x:Sec) (hw:wS l≠[]):digP l x=if Lib.hasPrefix (Lib.trimLeftS l [35,48,44]) [46]=false then (okC false (wS l)&&okZ false ((wS l).filter (· != 44)),{ x with dg:=true,gr:=decide ((wS l).filter (· != 44)≠wS l),wh:=((wS l).filter (· != 44)).length,ze:=((wS l).filter (· != 44)).count 48 },Lib.trimLeftS l [35,48,44]) else ((okC false (wS l)&&okZ false ((wS l).filter (· != 44)))&&okP false (pS ((Lib.trimLeftS l [35,48,44]).drop 1)),{ x with dg:=true,gr:=decide ((wS l).filter (· != 44)≠wS l),wh:=((wS l).filter (· != 44)).length,ze:=((wS l).filter (· != 44)).count 48,pt:=true,pa:=(pS ((Lib.trimLeftS l [35,48,44]).drop 1)).length,pz:=(pS ((Lib.trimLeftS l [35,48,44]).drop 1)).count 48 },Lib.trimLeftS ((Lib.trimLeftS l [35,48,44]).drop 1) [35,48]):=by
 have e1:runA l [35,48,44]=wS l:=run_take l _;have e2:Lib.replaceAll (wS l) [44] []=(wS l).filter (· != 44):=ra_none _ _ (Nat.le_refl _);have e3:=(okC_says (wS l)).1;have e4:=(okZ_says _ (wS_mem (l:=l))).1;have e5:runA ((Lib.trimLeftS l [35,48,44]).drop 1) [35,48]=pS ((Lib.trimLeftS l [35,48,44]).drop 1):=run_take _ _;have e6:=(okP_says _ (pS_mem (l:=(Lib.trimLeftS l [35,48,44]).drop 1))).1;unfold digP;simp only[e1,e2,e5];rw[if_neg hw,e3,e4,e6,Bool.and_comm (!Lib.contains ([44]++wS l++[44]) [44,44])];simp only[Lib.countByte,ne_eq,decide_not]
theorem digP_far (l:List UInt8) (x:Sec) (h:hdP l=true):((whF l false 0 0 false).1=false->(digP l x).1=false)/\((whF l false 0 0 false).1=true->Lib.hasPrefix (whF l false 0 0 false).2.2.2.2 [46]=false->digP l x=(true,{ x with dg:=true,gr:=(whF l false 0 0 false).2.2.2.1,wh:=(whF l false 0 0 false).2.1,ze:=(whF l false 0 0 false).2.2.1 },(whF l false 0 0 false).2.2.2.2))/\((whF l false 0 0 false).1=true->Lib.hasPrefix (whF l false 0 0 false).2.2.2.2 [46]=true->((pF ((whF l false 0 0 false).2.2.2.2.drop 1) 0 0).1=false->(digP l x).1=false)/\((pF ((whF l false 0 0 false).2.2.2.2.drop 1) 0 0).1=true->digP l x=(true,{ x with dg:=true,gr:=(whF l false 0 0 false).2.2.2.1,wh:=(whF l false 0 0 false).2.1,ze:=(whF l false 0 0 false).2.2.1,pt:=true,pa:=(pF ((whF l false 0 0 false).2.2.2.2.drop 1) 0 0).2.1,pz:=(pF ((whF l false 0 0 false).2.2.2.2.drop 1) 0 0).2.2.1 },(pF ((whF l false 0 0 false).2.2.2.2.drop 1) 0 0).2.2.2))):=by
 obtain⟨c,r,hl,hc⟩:∃c r,l=c::r/\plcB c=true:=by
  cases l with
  | nil=>cases h
  | cons c r=>exact⟨c,r,rfl,h⟩
 have hw:wS l≠[]:=by rw[hl];unfold wS;rw[List.takeWhile_cons,in3];unfold plcB at hc;simp only[Bool.or_eq_true,decide_eq_true_eq] at hc;rcases hc with rfl|rfl<;>simp
 have hs:=whF_says l false 0 0 false (fun _=>⟨c,r,hl,hc⟩);rw[decide_eq_false (show ¬ 0<0 by omega)] at hs;have hd:=digP_is l x hw;cases hg:(okC false (wS l)&&okZ false ((wS l).filter (· != 44))) with
 | false =>
  rw[hg,if_neg (by simp)] at hs;rw[hg] at hd;have h0:(digP l x).1=false:=by rw[hd];split<;>rfl
  exact⟨fun _=>h0,fun e=>absurd e (by rw[hs];simp),fun e=>absurd e (by rw[hs];simp)⟩
 | true =>
  rw[hg,if_pos rfl] at hs;rw[hg] at hd;rw[hs];simp only[Nat.zero_add,Bool.false_or];refine⟨fun e=>absurd e (by simp),fun _ hp => ?_,fun _ hp => ?_⟩
  ·rw[hd,if_pos hp]
  ·have ht:=pF_says ((Lib.trimLeftS l [35,48,44]).drop 1) 0 0 (Nat.le_refl _);rw[decide_eq_false (show ¬ 0<0 by omega)] at ht;rw[hp,if_neg (by simp)] at hd;cases hq:okP false (pS ((Lib.trimLeftS l [35,48,44]).drop 1)) with
   | false =>
    rw[hq,if_neg (by simp)] at ht;rw[hq] at hd;exact⟨fun _=>by rw[hd];rfl,fun e=>absurd e (by rw[ht];simp)⟩
   | true =>
    rw[hq,if_pos rfl] at ht;rw[hq] at hd;refine⟨fun e=>absurd e (by rw[ht];simp),fun _ => ?_⟩;rw[hd,ht];simp
theorem digP_near (l:List UInt8) (x:Sec) (h:hdP l=false):(hdB 44 l=false->digP l x=(true,x,l))/\(hdB 44 l=true->(digP l x).1=false):=by
 cases l with
 | nil=>exact⟨fun _=>rfl,fun e=>by cases e⟩
 | cons c r =>
  have hc:plcB c=false:=h;unfold plcB at hc;simp only[Bool.or_eq_false_iff,decide_eq_false_iff_not] at hc;refine⟨fun e => ?_,fun e => ?_⟩
  ·have h44:c≠44:=fun e2=>by subst e2;cases e
   have e1:runA (c::r) [35,48,44]=[]:=by rw[run_take,List.takeWhile_cons,in3];simp[hc.1,hc.2,h44]
   have e2:Lib.trimLeftS (c::r) [35,48,44]=c::r:=by unfold Lib.trimLeftS;rw[List.dropWhile_cons,in3];simp[hc.1,hc.2,h44]
   unfold digP;simp only[e1,e2];rfl
  ·have h44:c=44:=by unfold hdB at e;exact(of_decide_eq_true e).symm
   subst h44;have e1:wS (44::r)=44::wS r:=by unfold wS;rw[List.takeWhile_cons,in3];rfl
   rw[digP_is (44::r) x (by rw[e1];simp),e1,okC_44];split<;>rfl
set_option maxRecDepth 100000
set_option maxHeartbeats 16000000
open Go.RowKit Go.Shelf
attribute [local go_sem] Oper.semAt_some
theorem here_dn {R:Nat} {l:List UInt8} {n:Nat} {b g:Bool} {w:World} {c:UInt8} (HC:Hid (atB l n=c)) (hR:Rdr w R l n b g):Hid (Calls Tryz.prog 38 #[.pointer (some ⟨R,0,none⟩)] w fun r w'=>r=.returned (.int .u8 (c.toNat:Int))/\∃k,w'=w.drewN k):=by
 rw[<-HC.out];have c0:w.cell? ⟨R,0,none⟩=some (.string (bs l)):=Row.cell hR (i:=0) rfl;have c1:w.cell? ⟨R,1,none⟩=some (.int .i64 (n:Int)):=Row.cell hR (i:=1) rfl;show Calls _ _ _ _ _;by_cases h:n<(bs l).size
 ·have HG:Hid ((bs l)[n]=atB l n):=atB_bs h;have t:(n:Int)<((bs l).size:Int):=by omega
  clear hR HC;go_enter Tryz.func38,Tryz.ntmps38;go_upto_region 1 with fail
  go_quiet (fail);go_upto_region 2 with fail
  go_quiet (fail);go_wp2;go_ret;exact⟨by rw[<-HG.out];rfl,_,World.drewN_drewN ..⟩
 ·rw[atB_ge (by rw[bs_size] at h;omega)];have t:¬ ((n:Int)<((bs l).size:Int)):=by omega
  clear hR HC;go_enter Tryz.func38,Tryz.ntmps38;go_upto_region 1 with fail
  go_quiet (fail);go_wp2;go_ret;exact⟨rfl,_,rfl⟩
theorem place_at {c:UInt8} {y:Int} {p:Bool} (hy:(c.toNat:Int)=y) (hp:plcB c=p) (W:World):Hid (Calls Tryz.prog 73 #[.int .u8 y] W fun e w'=>e=.returned (.bool p)/\w'=W):=by
 subst hy hp;exact place_any c W
def SecD (x : Sec) (wh ze : Nat) (pt : Bool) (pa pz : Nat) (gr : Bool) : Sec := { x with dg := true, wh := wh, ze := ze, pt := pt, pa := pa, pz := pz, gr := gr }
def DgR (R S : Nat) (l : List UInt8) (n : Nat) (g : Bool) (x : Sec) (w : World) (w' : World) : Prop :=
  ∃ (n2 : Nat) (b : Bool) (x2 : Sec), Rdr w' R l n2 b g ∧ Row w' S 34 x2.cells ∧ Kept (fun k => k < w.heap.size ∧ k ≠ R ∧ k ≠ S) w w' ∧ n2 ≤ l.length ∧ x2.pc = x.pc ∧
    ((digP (l.drop n) x).1 = true → b = false ∧ x2 = (digP (l.drop n) x).2.1 ∧ l.drop n2 = (digP (l.drop n) x).2.2) ∧ ((digP (l.drop n) x).1 = false → b = true ∨ (b = false ∧ hdB 44 (l.drop n2) = true))
def WhI (R S : Nat) (l : List UInt8) (n : Nat) (g : Bool) (x : Sec) (w : World) (m : Nat) (pp : Bool) (wh ze : Nat) (gr : Bool) (wr : World) : Prop :=
  whF (l.drop n) false 0 0 false = whF (l.drop m) pp wh ze gr ∧ n ≤ m ∧ m ≤ l.length ∧ wh ≤ m ∧ ze ≤ wh ∧ (m = n → hdP (l.drop m) = true) ∧ (n < m → pp = plcB (atB l (m - 1))) ∧
    Rdr wr R l m false g ∧ Row wr S 34 (SecD x wh ze false 0 0 gr).cells ∧ Kept (fun k => k < w.heap.size ∧ k ≠ R ∧ k ≠ S) w wr
theorem hdP_at {l:List UInt8} {n:Nat}:hdP (l.drop n)=plcB (atB l n):=by
 by_cases h:n<l.length
 ·rw[drop_at h];rfl
 ·rw[List.drop_eq_nil_of_le (by omega),atB_ge (by omega)];rfl
theorem hdB_at {l:List UInt8} {n:Nat} {b:UInt8} (hb:b≠0):hdB b (l.drop n)=decide (b=atB l n):=by
 by_cases h:n<l.length
 ·rw[drop_at h];rfl
 ·rw[List.drop_eq_nil_of_le (by omega),atB_ge (by omega)];exact(decide_eq_false hb).symm
theorem pre_at {l:List UInt8} {n:Nat}:Lib.hasPrefix (l.drop n) [46]=decide (atB l n=46):=by
 by_cases h:n<l.length
 ·rw[drop_at h];unfold Lib.hasPrefix;by_cases h2:atB l n=46
  ·rw[h2];rfl
  ·rw[decide_eq_false h2];simp[List.isPrefixOf,Ne.symm h2]
 ·rw[List.drop_eq_nil_of_le (by omega),atB_ge (by omega)];rfl
theorem digits_none (R S:Nat) (l:List UInt8) (n:Nat) (g:Bool) (x:Sec) (w:World) (hn:n<=l.length) (hp:plcB (atB l n)=false) (hR:Rdr w R l n false g) (hS:Row w S 34 x.cells):Calls Tryz.prog 41 #[.pointer (some ⟨R,0,none⟩),.pointer (some ⟨S,0,none⟩)] w fun r w'=>r=.returned (.tuple #[])/\DgR R S l n g x w w':=by
 obtain⟨c,hc⟩:∃c,atB l n=c:=⟨_,rfl⟩;have HC:Hid (atB l n=c):=hc;have HH:=here_dn HC hR;have HP:∀ W,Hid (Calls Tryz.prog 73 #[.int .u8 (c.toNat:Int)] W fun e w'=>e=.returned (.bool false)/\w'=W):=fun W=>place_at rfl (by rw[<-hc];exact hp) W;have HD:Hid _:=digP_near (l.drop n) x (by rw[hdP_at];exact hp);have HR:Hid (Rdr w R l n false g):=hR;have HS:Hid (Row w S 34 x.cells):=hS;clear hc hR hS hp;generalize (c.toNat:Int)=y at *;go_enter Tryz.func41,Tryz.ntmps41;go_wp2_with fail;refine Calls.mono HH.out ?_;rintro _ _ ⟨rfl,k,rfl⟩;clear HH;go_wp2_with fail;refine Calls.mono (HP _).out ?_;rintro _ _ ⟨rfl,rfl⟩;go_wp2;refine bodyPost_ret (results_none rfl _ _ _) rfl ?_;refine⟨rfl,n,false,x,HR.out,HS.out,(Kept.refl _ w).dN k,hn,rfl,fun h => ?_,fun h => ?_⟩
 ·cases h44:hdB 44 (l.drop n) with
  | true=>rw[HD.out.2 h44] at h;cases h
  | false=>rw[HD.out.1 h44];exact⟨rfl,rfl,rfl⟩
 ·cases h44:hdB 44 (l.drop n) with
  | true=>exact .inr ⟨rfl,rfl⟩
  | false=>rw[HD.out.1 h44] at h;cases h
theorem whF_rest {l:List UInt8} {m:Nat} (h1:atB l m≠44) (h2:atB l m≠35) (h3:atB l m≠48) (pp:Bool) (wh ze:Nat) (gr:Bool):whF (l.drop m) pp wh ze gr=(true,wh,ze,gr,l.drop m):=by
 by_cases h:m<l.length
 ·rw[drop_at h,whF_no h1 h2 h3]
 ·rw[List.drop_eq_nil_of_le (by omega)];cases pp<;>rfl
theorem pF_rest {l:List UInt8} {m:Nat} (h2:atB l m≠35) (h3:atB l m≠48) (pa pz:Nat):pF (l.drop m) pa pz=(true,pa,pz,l.drop m):=by
 by_cases h:m<l.length
 ·rw[drop_at h,pF_no h2 h3]
 ·rw[List.drop_eq_nil_of_le (by omega)];rfl
theorem quiet_add {P:Program} {f:FuncId} {args:Array Value} {w:World} {a n:Nat} {v:Value} (h:Calls P f args (w.drewN (a+n)) fun e w'=>e=.returned v∧w'=w.drewN (a+n)):Calls P f args (w.drewN (a+n)) fun e w''=>e=.returned v∧∃m,w''=w.drewN (a+m):=h.mono fun _ _ ⟨he,hm⟩=>⟨he,n,hm⟩
theorem WhI.next {R S:Nat} {l:List UInt8} {n:Nat} {g:Bool} {x:Sec} {w:World} {m:Nat} {pp:Bool} {wh ze:Nat} {gr:Bool} {wr:World} (H:WhI R S l n g x w m pp wh ze gr wr) {pp':Bool} {wh' ze':Nat} {gr':Bool} {W:World} (hw:whF (l.drop m) pp wh ze gr=whF (l.drop (m+1)) pp' wh' ze' gr') (hlt:m<l.length) (hwh:wh'<=m+1) (hze:ze'<=wh') (hpp:pp'=plcB (atB l m)) (hR:Rdr W R l (m+1) false g) (hS:Row W S 34 (SecD x wh' ze' false 0 0 gr').cells) (hK:Kept (fun k=>k<w.heap.size/\k≠R/\k≠S) wr W):Hid (WhI R S l n g x w (m+1) pp' wh' ze' gr' W):=by
 obtain⟨h1,h2,h3,h4,h5,h6,h7,h8,h9,h10⟩:=H;exact⟨h1.trans hw,by omega,by omega,hwh,hze,fun e=>by omega,fun _=>hpp,hR,hS,h10.trans hK⟩
theorem rPos_less {R:Nat} {l:List UInt8} {m:Nat} {b g:Bool} {wr W:World} (h:Hid (rPos R wr=m)) (hlt:m<l.length) (hR:Rdr W R l (m+1) b g):l.length-rPos R W<l.length-rPos R wr:=by
 rw[h.out,rPos_row hR];omega
theorem DgR.bad {R S:Nat} {l:List UInt8} {n:Nat} {g:Bool} {x x2:Sec} {w w':World} {m:Nat} (hd:(digP (l.drop n) x).1=false) (hm:m≤l.length) (hpc:x2.pc=x.pc) (hR:Rdr w' R l m true g) (hS:Row w' S 34 x2.cells) (hK:Kept (fun k=>k<w.heap.size∧k≠R∧k≠S) w w'):DgR R S l n g x w w':=⟨m,true,x2,hR,hS,hK,hm,hpc,fun h=>absurd h (by rw[hd];simp),fun _=>.inl rfl⟩
def PaI (R S : Nat) (l : List UInt8) (m0 : Nat) (g : Bool) (x : Sec) (wh ze : Nat) (gr : Bool) (w : World) (m pa pz : Nat) (wr : World) : Prop :=
  pF (l.drop m0) 0 0 = pF (l.drop m) pa pz ∧ m ≤ l.length ∧ pa ≤ m ∧ pz ≤ pa ∧
    Rdr wr R l m false g ∧ Row wr S 34 (SecD x wh ze true pa pz gr).cells ∧ Kept (fun k => k < w.heap.size ∧ k ≠ R ∧ k ≠ S) w wr
theorem digits_some (R S:Nat) (l:List UInt8) (n:Nat) (g:Bool) (x:Sec) (w:World) (hn:n<=l.length) (hl:l.length<=64) (hne:R≠S) (hp:plcB (atB l n)=true) (hx:SecD x 0 0 false 0 0 false={ x with dg:=true }) (hR:Rdr w R l n false g) (hS:Row w S 34 x.cells):Calls Tryz.prog 41 #[.pointer (some ⟨R,0,none⟩),.pointer (some ⟨S,0,none⟩)] w fun r w'=>r=.returned (.tuple #[])/\DgR R S l n g x w w':=by
 obtain⟨c,hc⟩:∃c,atB l n=c:=⟨_,rfl⟩;have HC:Hid (atB l n=c):=hc;have HH:=here_dn HC hR;have HP:∀ W,Hid (Calls Tryz.prog 73 #[.int .u8 (c.toNat:Int)] W fun e w'=>e=.returned (.bool true)/\w'=W):=fun W=>place_at rfl (by rw[<-hc];exact hp) W;have hhd:hdP (l.drop n)=true:=by rw[hdP_at];exact hp
 have HD:Hid _:=digP_far (l.drop n) x hhd;have hRl:R<w.heap.size:=Row.lt hR;have hSl:S<w.heap.size:=hS.lt;have HR:Hid (Rdr w R l n false g):=hR;have HS:Hid (Row w S 34 x.cells):=hS;have HX:Hid (SecD x 0 0 false 0 0 false={ x with dg:=true }):=hx;have fS:=hS.frozen;have s9:w.cell? ⟨S,9,none⟩=some (.bool x.dg):=hS.cell (i:=9) rfl;have HHD:Hid (hdP (l.drop n)=true):=hhd;clear hc hR hS hp hx hhd HC;generalize (c.toNat:Int)=y at *;go_enter Tryz.func41,Tryz.ntmps41;go_wp2_with fail;refine Calls.mono HH.out ?_;rintro _ _ ⟨rfl,k,rfl⟩;clear HH;go_wp2_with fail;refine Calls.mono (HP _).out ?_;rintro _ _ ⟨rfl,rfl⟩;clear HP;go_wp2;have h0:Hid (WhI R S l n g x w n false 0 0 false ((w.drewN k).setCell ⟨S,9,none⟩ (.bool true))):=by refine⟨rfl,Nat.le_refl _,hn,Nat.zero_le _,Nat.le_refl _,fun _=>HHD.out,fun h=>absurd h (Nat.lt_irrefl _),Row.off (show Rdr (w.drewN k) R l n false g from HR.out) 9 _ hne,?_,((Kept.refl _ w).dN k).setCell (fun e=>e.2.2 rfl) _⟩;rw[HX.out];exact Row.set 9 (.bool true) (show Row (w.drewN k) S 34 x.cells from HS.out)
 have HXP:Hid (x.pt=false/\x.pa=0/\x.pz=0):=⟨(congrArg Sec.pt HX.out).symm,(congrArg Sec.pa HX.out).symm,(congrArg Sec.pz HX.out).symm⟩;clear HR HS HX fS HHD s9;generalize (w.drewN k).setCell ⟨S,9,none⟩ (.bool true)=w0 at *;go_loopw [] (fun wr=>∃(m:Nat) (pp:Bool) (wh ze:Nat) (gr:Bool),Hid (WhI R S l n g x w m pp wh ze gr wr)) (fun wr=>l.length-rPos R wr)
 case atStart=>exact⟨n,false,0,0,false,h0⟩
 case round =>
  clear h0;obtain⟨m,pp,wh,ze,gr,H⟩:=hrel;have hR:=H.out.2.2.2.2.2.2.2.1;have hS:=H.out.2.2.2.2.2.2.2.2.1;have hnm:=H.out.2.1;have hm:=H.out.2.2.1;have hwh:=H.out.2.2.2.1;have hze:=H.out.2.2.2.2.1;have c0:wr.cell? ⟨R,0,none⟩=some (.string (bs l)):=Row.cell hR (i:=0) rfl;have c1:wr.cell? ⟨R,1,none⟩=some (.int .i64 (m:Int)):=Row.cell hR (i:=1) rfl;have c2:wr.cell? ⟨R,2,none⟩=some (.bool false):=Row.cell hR (i:=2) rfl;have s2:wr.cell? ⟨S,2,none⟩=some (.int .i64 (wh:Int)):=hS.cell (i:=2) rfl;have s3:wr.cell? ⟨S,3,none⟩=some (.int .i64 (ze:Int)):=hS.cell (i:=3) rfl;have s4:wr.cell? ⟨S,4,none⟩=some (.bool false):=hS.cell (i:=4) rfl;have s5:wr.cell? ⟨S,5,none⟩=some (.int .i64 0):=hS.cell (i:=5) rfl;have s6:wr.cell? ⟨S,6,none⟩=some (.int .i64 0):=hS.cell (i:=6) rfl;have s7:wr.cell? ⟨S,7,none⟩=some (.bool gr):=hS.cell (i:=7) rfl;have fR:=Row.frozen hR;have fS:=hS.frozen;have lR:=Row.lt hR;have lS:=hS.lt;have HRP:Hid (rPos R wr=m):=rPos_row hR;obtain⟨c,hc⟩:∃c,atB l m=c:=⟨_,rfl⟩;have HC:Hid (atB l m=c):=hc;have HH:∀ W,Rdr W R l m false g->Hid (Calls Tryz.prog 38 #[.pointer (some ⟨R,0,none⟩)] W fun r w'=>r=.returned (.int .u8 (c.toNat:Int))/\∃k,w'=W.drewN k):=fun W h=>here_dn HC h;have HR:Hid (Rdr wr R l m false g):=hR;have HS:Hid (Row wr S 34 (SecD x wh ze false 0 0 gr).cells):=hS;clear hc hR hS;by_cases h48:c=48
  ·have hy:(c.toNat:Int)=48:=by rw[h48];rfl
   rw[hy] at HH;have HP:∀ W,Hid (Calls Tryz.prog 73 #[.int .u8 48] W fun e w'=>e=.returned (.bool true)/\w'=W):=fun W=>place_at hy (by rw[h48];rfl) W;have hlt:m<l.length:=at_pos (by rw[HC.out,h48];decide);have HW:Hid (whF (l.drop m) pp wh ze gr=whF (l.drop (m+1)) true (wh+1) (ze+1) gr):=by show _=_;rw[drop_at hlt,HC.out,h48,whF_48]
   have HPL:Hid (true=plcB (atB l m)):=by rw[HC.out,h48];rfl
   clear hy h48 HC s4 s5 s6 s7 c0 c2;go_wp2_with fail;refine Calls.mono (HH _ (by exact HR.out)).out ?_;rintro _ _ ⟨rfl,k1,rfl⟩;go_wp2_with fail;refine Calls.mono (HP _).out ?_;rintro _ _ ⟨rfl,rfl⟩;go_wp2_with fail;refine Calls.mono (HH _ (by exact HR.out)).out ?_;rintro _ _ ⟨rfl,k2,rfl⟩;go_wp2_with fail;refine Calls.mono (HH _ (by exact HR.out)).out ?_;rintro _ _ ⟨rfl,k3,rfl⟩;go_wp2_with fail;refine Calls.mono (HH _ (by exact HR.out)).out ?_;rintro _ _ ⟨rfl,k4,rfl⟩;clear HH HP;go_wp2;refine⟨⟨m+1,true,wh+1,ze+1,gr,H.out.next HW.out hlt (by omega) (by omega) HPL.out ?_ ?_ ?_⟩,rPos_less (b:=false) (g:=g) HRP hlt ?_⟩
   ·exact Row.set 1 (.int .i64 ((m+1:Nat):Int)) (Row.off (Row.off HR.out 3 _ hne) 2 _ hne)
   ·exact Row.off (Row.set 2 (.int .i64 ((wh+1:Nat):Int)) (Row.set 3 (.int .i64 ((ze+1:Nat):Int)) HS.out)) 1 _ hne.symm
   ·exact((((Kept.refl _ wr).dN _).setCell (fun e=>e.2.2 rfl) _).setCell (fun e=>e.2.2 rfl) _).setCell (fun e=>e.2.1 rfl) _
   ·exact Row.set 1 (.int .i64 ((m+1:Nat):Int)) (Row.off (Row.off HR.out 3 _ hne) 2 _ hne)
  ·by_cases h35:c=35
   ·by_cases hz:0<ze
    ·have hy:(c.toNat:Int)=35:=by rw[h35];rfl
     rw[hy] at HH;have HP:∀ W,Hid (Calls Tryz.prog 73 #[.int .u8 35] W fun e w'=>e=.returned (.bool true)/\w'=W):=fun W=>place_at hy (by rw[h35];rfl) W;have hlt:m<l.length:=at_pos (by rw[HC.out,h35];decide);have hdr:l.drop m=35::l.drop (m+1):=by rw[drop_at hlt,HC.out,h35]
     have HBAD:Hid ((digP (l.drop n) x).1=false):=HD.out.1 (by rw[H.out.1,hdr,whF_35,if_pos hz]);have hz':(0:Int)<(ze:Int):=by omega
     clear hy h35 hdr hz HC s4 s5 s6 s7 c0;go_wp2_with fail;refine Calls.mono (HH _ (by exact HR.out)).out ?_;rintro _ _ ⟨rfl,k5,rfl⟩;go_wp2_with fail;refine Calls.mono (HP _).out ?_;rintro _ _ ⟨rfl,rfl⟩;go_wp2_with fail;refine Calls.mono (HH _ (by exact HR.out)).out ?_;rintro _ _ ⟨rfl,k6,rfl⟩;go_wp2_with fail;refine Calls.mono (HH _ (by exact HR.out)).out ?_;rintro _ _ ⟨rfl,k7,rfl⟩;clear HH HP;go_wp2;refine bodyPost_ret (results_none rfl _ _ _) rfl ?_;exact⟨rfl,DgR.bad (x2:=SecD x wh ze false 0 0 gr) HBAD.out hm rfl (Row.set 2 (.bool true) HR.out) (Row.off HS.out 2 _ hne.symm) ((H.out.2.2.2.2.2.2.2.2.2.dN _).setCell (fun e=>e.2.1 rfl) _)⟩
    ·have hy:(c.toNat:Int)=35:=by rw[h35];rfl
     rw[hy] at HH;have HP:∀ W,Hid (Calls Tryz.prog 73 #[.int .u8 35] W fun e w'=>e=.returned (.bool true)/\w'=W):=fun W=>place_at hy (by rw[h35];rfl) W;have hlt:m<l.length:=at_pos (by rw[HC.out,h35];decide);have hdr:l.drop m=35::l.drop (m+1):=by rw[drop_at hlt,HC.out,h35]
     obtain rfl:ze=0:=by omega
     have HW:Hid (whF (l.drop m) pp wh 0 gr=whF (l.drop (m+1)) true (wh+1) 0 gr):=by show _=_;rw[hdr,whF_35,if_neg hz]
     have HPL:Hid (true=plcB (atB l m)):=by rw[HC.out,h35];rfl
     have s3':wr.cell? ⟨S,3,none⟩=some (.int .i64 0):=s3;clear hy h35 hdr hz HC s3 s4 s5 s6 s7 c0 c2;go_wp2_with fail;refine Calls.mono (HH _ (by exact HR.out)).out ?_;rintro _ _ ⟨rfl,k8,rfl⟩;go_wp2_with fail;refine Calls.mono (HP _).out ?_;rintro _ _ ⟨rfl,rfl⟩;go_wp2_with fail;refine Calls.mono (HH _ (by exact HR.out)).out ?_;rintro _ _ ⟨rfl,k9,rfl⟩;go_wp2_with fail;refine Calls.mono (HH _ (by exact HR.out)).out ?_;rintro _ _ ⟨rfl,k10,rfl⟩;go_wp2_with fail;refine Calls.mono (HH _ (by exact HR.out)).out ?_;rintro _ _ ⟨rfl,k11,rfl⟩;clear HH HP;go_wp2;refine⟨⟨m+1,true,wh+1,0,gr,H.out.next HW.out hlt (by omega) (by omega) HPL.out ?_ ?_ ?_⟩,rPos_less (b:=false) (g:=g) HRP hlt ?_⟩
     ·exact Row.set 1 (.int .i64 ((m+1:Nat):Int)) (Row.off HR.out 2 _ hne)
     ·exact Row.off (Row.set 2 (.int .i64 ((wh+1:Nat):Int)) HS.out) 1 _ hne.symm
     ·exact((((Kept.refl _ wr).dN _).setCell (fun e=>e.2.2 rfl) _).setCell (fun e=>e.2.1 rfl) _)
     ·exact Row.set 1 (.int .i64 ((m+1:Nat):Int)) (Row.off HR.out 2 _ hne)
   ·by_cases h44:c=44
    ·by_cases h1:l.length<=m+1
     ·have hy:(c.toNat:Int)=44:=by rw[h44];rfl
      rw[hy] at HH;have HP:∀ W,Hid (Calls Tryz.prog 73 #[.int .u8 44] W fun e w'=>e=.returned (.bool false)/\w'=W):=fun W=>place_at hy (by rw[h44];rfl) W;have hlt:m<l.length:=at_pos (by rw[HC.out,h44];decide);have hdr:l.drop m=44::l.drop (m+1):=by rw[drop_at hlt,HC.out,h44]
      have hmn:n<m:=by
       rcases Nat.lt_or_ge n m with h|h
       ·exact h
       ·have hmn:m=n:=by omega
        have:=H.out.2.2.2.2.2.1 hmn;rw[hdr] at this;cases this
      have hpp:pp=plcB (atB l (m-1)):=H.out.2.2.2.2.2.2.1 hmn;have HSZ:Hid ((bs l).size=l.length):=bs_size l;have t1:decide (((bs l).size:Int)<=(m:Int)+1)=true:=by rw[HSZ.out];exact decide_eq_true (by omega)
      have HBAD:Hid ((digP (l.drop n) x).1=false):=HD.out.1 (by rw[H.out.1,hdr,whF_44,List.drop_eq_nil_of_le (by omega)];rfl);have hsz:(bs l).size<=64:=by rw[HSZ.out];exact hl
      clear hy h44 hdr HC s2 s3 s4 s5 s6 hpp h1;go_wp2_with fail;refine Calls.mono (HH _ (by exact HR.out)).out ?_;rintro _ _ ⟨rfl,k12,rfl⟩;go_wp2_with fail;refine Calls.mono (HP _).out ?_;rintro _ _ ⟨rfl,rfl⟩;go_wp2_with fail;refine Calls.mono (HH _ (by exact HR.out)).out ?_;rintro _ _ ⟨rfl,k13,rfl⟩;go_wp2_with fail;refine Calls.mono (HH _ (by exact HR.out)).out ?_;rintro _ _ ⟨rfl,k14,rfl⟩;clear HH HP;go_upto_region 4 with fail
      go_quiet (fail);go_wp2;refine bodyPost_ret (results_none rfl _ _ _) rfl ?_;exact⟨rfl,DgR.bad (x2:=SecD x wh ze false 0 0 gr) HBAD.out hm rfl (Row.set 2 (.bool true) HR.out) (Row.off HS.out 2 _ hne.symm) ((H.out.2.2.2.2.2.2.2.2.2.dN _).setCell (fun e=>e.2.1 rfl) _)⟩
     ·cases hp1:plcB (atB l (m+1)) with
      | false =>
       have hy:(c.toNat:Int)=44:=by rw[h44];rfl
       rw[hy] at HH;have HP:∀ W,Hid (Calls Tryz.prog 73 #[.int .u8 44] W fun e w'=>e=.returned (.bool false)/\w'=W):=fun W=>place_at hy (by rw[h44];rfl) W;have hlt:m<l.length:=at_pos (by rw[HC.out,h44];decide);have hdr:l.drop m=44::l.drop (m+1):=by rw[drop_at hlt,HC.out,h44]
       have hmn:n<m:=by
        rcases Nat.lt_or_ge n m with h|h
        ·exact h
        ·have hmn:m=n:=by omega
         have:=H.out.2.2.2.2.2.1 hmn;rw[hdr] at this;cases this
       have hpp:pp=plcB (atB l (m-1)):=H.out.2.2.2.2.2.2.1 hmn;have HSZ:Hid ((bs l).size=l.length):=bs_size l;have hb1:m+1<(bs l).size:=by rw[HSZ.out];omega
       have t1:decide (((bs l).size:Int)<=(m:Int)+1)=false:=decide_eq_false (by omega);have HPA:∀(i:Nat) (h':i<(bs l).size) W,Hid (Calls Tryz.prog 73 #[.int .u8 (((bs l)[i]'h').toNat:Int)] W fun e w'=>e=.returned (.bool (plcB (atB l i)))/\w'=W):=fun i h' W=>place_at rfl (by rw[atB_bs h']) W;obtain⟨j,hj⟩:∃j,m-1=j:=⟨_,rfl⟩;rw[hj] at hpp;have hb2:j<(bs l).size:=by rw[HSZ.out];omega
       have hm1:1<=m:=by omega
       have hh:hdP (l.drop (m+1))=plcB (atB l (m+1)):=hdP_at;have fw1:IntKind.i64.wrap ((m:Int)+1)=(m:Int)+1:=IntWalk.i64_in _ ⟨by omega,by omega⟩;have fw2:IntKind.i64.wrap ((m:Int)-1)=(j:Int):=by rw[show (m:Int)-1=(j:Int) by omega];exact IntWalk.i64_in _ ⟨by omega,by omega⟩
       have ix1:((m:Int)+1).toNat=m+1:=by omega
       have in1:((m:Int)+1)<((bs l).size:Int):=by omega
       have in2:(j:Int)<((bs l).size:Int):=by omega
       have in3:(0:Int)<=(m:Int)+1:=by omega
       have HJ:Hid (m-1=j):=hj;clear hj;have HBAD:Hid ((digP (l.drop n) x).1=false):=HD.out.1 (by rw[H.out.1,hdr,whF_44,hh,hp1];rfl);have hsz:(bs l).size<=64:=by rw[HSZ.out];exact hl
       clear hy h44 hdr HC s2 s3 s4 s5 s6 hpp h1 hh;go_wp2_with fail;refine Calls.mono (HH _ (by exact HR.out)).out ?_;rintro _ _ ⟨rfl,k15,rfl⟩;go_wp2_with fail;refine Calls.mono (HP _).out ?_;rintro _ _ ⟨rfl,rfl⟩;go_wp2_with fail;refine Calls.mono (HH _ (by exact HR.out)).out ?_;rintro _ _ ⟨rfl,k16,rfl⟩;go_wp2_with fail;refine Calls.mono (HH _ (by exact HR.out)).out ?_;rintro _ _ ⟨rfl,k17,rfl⟩;clear HH HP;go_upto_region 4 with fail
       go_quiet (first|(go_at_call 73;refine quiet_add (HPA _ _ _).out));go_wp2;refine bodyPost_ret (results_none rfl _ _ _) rfl ?_;exact⟨rfl,DgR.bad (x2:=SecD x wh ze false 0 0 gr) HBAD.out hm rfl (Row.set 2 (.bool true) HR.out) (Row.off HS.out 2 _ hne.symm) ((H.out.2.2.2.2.2.2.2.2.2.dN _).setCell (fun e=>e.2.1 rfl) _)⟩
      | true =>
       cases hp2:plcB (atB l (m-1)) with
       | false =>
        have hy:(c.toNat:Int)=44:=by rw[h44];rfl
        rw[hy] at HH;have HP:∀ W,Hid (Calls Tryz.prog 73 #[.int .u8 44] W fun e w'=>e=.returned (.bool false)/\w'=W):=fun W=>place_at hy (by rw[h44];rfl) W;have hlt:m<l.length:=at_pos (by rw[HC.out,h44];decide);have hdr:l.drop m=44::l.drop (m+1):=by rw[drop_at hlt,HC.out,h44]
        have hmn:n<m:=by
         rcases Nat.lt_or_ge n m with h|h
         ·exact h
         ·have hmn:m=n:=by omega
          have:=H.out.2.2.2.2.2.1 hmn;rw[hdr] at this;cases this
        have hpp:pp=plcB (atB l (m-1)):=H.out.2.2.2.2.2.2.1 hmn;have HSZ:Hid ((bs l).size=l.length):=bs_size l;have hb1:m+1<(bs l).size:=by rw[HSZ.out];omega
        have t1:decide (((bs l).size:Int)<=(m:Int)+1)=false:=decide_eq_false (by omega);have HPA:∀(i:Nat) (h':i<(bs l).size) W,Hid (Calls Tryz.prog 73 #[.int .u8 (((bs l)[i]'h').toNat:Int)] W fun e w'=>e=.returned (.bool (plcB (atB l i)))/\w'=W):=fun i h' W=>place_at rfl (by rw[atB_bs h']) W;obtain⟨j,hj⟩:∃j,m-1=j:=⟨_,rfl⟩;rw[hj] at hpp;have hb2:j<(bs l).size:=by rw[HSZ.out];omega
        have hm1:1<=m:=by omega
        have hh:hdP (l.drop (m+1))=plcB (atB l (m+1)):=hdP_at;have fw1:IntKind.i64.wrap ((m:Int)+1)=(m:Int)+1:=IntWalk.i64_in _ ⟨by omega,by omega⟩;have fw2:IntKind.i64.wrap ((m:Int)-1)=(j:Int):=by rw[show (m:Int)-1=(j:Int) by omega];exact IntWalk.i64_in _ ⟨by omega,by omega⟩
        have ix1:((m:Int)+1).toNat=m+1:=by omega
        have in1:((m:Int)+1)<((bs l).size:Int):=by omega
        have in2:(j:Int)<((bs l).size:Int):=by omega
        have in3:(0:Int)<=(m:Int)+1:=by omega
        have HJ:Hid (m-1=j):=hj;rw[hj] at hp2;clear hj;have HBAD:Hid ((digP (l.drop n) x).1=false):=HD.out.1 (by rw[H.out.1,hdr,whF_44,hh,hp1,hpp,hp2];rfl);have hsz:(bs l).size<=64:=by rw[HSZ.out];exact hl
        clear hy h44 hdr HC s2 s3 s4 s5 s6 hpp h1 hh;go_wp2_with fail;refine Calls.mono (HH _ (by exact HR.out)).out ?_;rintro _ _ ⟨rfl,k18,rfl⟩;go_wp2_with fail;refine Calls.mono (HP _).out ?_;rintro _ _ ⟨rfl,rfl⟩;go_wp2_with fail;refine Calls.mono (HH _ (by exact HR.out)).out ?_;rintro _ _ ⟨rfl,k19,rfl⟩;go_wp2_with fail;refine Calls.mono (HH _ (by exact HR.out)).out ?_;rintro _ _ ⟨rfl,k20,rfl⟩;clear HH HP;go_upto_region 4 with fail
        go_quiet (first|(go_at_call 73;refine quiet_add (HPA _ _ _).out));go_wp2;refine bodyPost_ret (results_none rfl _ _ _) rfl ?_;exact⟨rfl,DgR.bad (x2:=SecD x wh ze false 0 0 gr) HBAD.out hm rfl (Row.set 2 (.bool true) HR.out) (Row.off HS.out 2 _ hne.symm) ((H.out.2.2.2.2.2.2.2.2.2.dN _).setCell (fun e=>e.2.1 rfl) _)⟩
       | true =>
        have hy:(c.toNat:Int)=44:=by rw[h44];rfl
        rw[hy] at HH;have HP:∀ W,Hid (Calls Tryz.prog 73 #[.int .u8 44] W fun e w'=>e=.returned (.bool false)/\w'=W):=fun W=>place_at hy (by rw[h44];rfl) W;have hlt:m<l.length:=at_pos (by rw[HC.out,h44];decide);have hdr:l.drop m=44::l.drop (m+1):=by rw[drop_at hlt,HC.out,h44]
        have hmn:n<m:=by
         rcases Nat.lt_or_ge n m with h|h
         ·exact h
         ·have hmn:m=n:=by omega
          have:=H.out.2.2.2.2.2.1 hmn;rw[hdr] at this;cases this
        have hpp:pp=plcB (atB l (m-1)):=H.out.2.2.2.2.2.2.1 hmn;have HSZ:Hid ((bs l).size=l.length):=bs_size l;have hb1:m+1<(bs l).size:=by rw[HSZ.out];omega
        have t1:decide (((bs l).size:Int)<=(m:Int)+1)=false:=decide_eq_false (by omega);have HPA:∀(i:Nat) (h':i<(bs l).size) W,Hid (Calls Tryz.prog 73 #[.int .u8 (((bs l)[i]'h').toNat:Int)] W fun e w'=>e=.returned (.bool (plcB (atB l i)))/\w'=W):=fun i h' W=>place_at rfl (by rw[atB_bs h']) W;obtain⟨j,hj⟩:∃j,m-1=j:=⟨_,rfl⟩;rw[hj] at hpp;have hb2:j<(bs l).size:=by rw[HSZ.out];omega
        have hm1:1<=m:=by omega
        have hh:hdP (l.drop (m+1))=plcB (atB l (m+1)):=hdP_at;have fw1:IntKind.i64.wrap ((m:Int)+1)=(m:Int)+1:=IntWalk.i64_in _ ⟨by omega,by omega⟩;have fw2:IntKind.i64.wrap ((m:Int)-1)=(j:Int):=by rw[show (m:Int)-1=(j:Int) by omega];exact IntWalk.i64_in _ ⟨by omega,by omega⟩
        have ix1:((m:Int)+1).toNat=m+1:=by omega
        have in1:((m:Int)+1)<((bs l).size:Int):=by omega
        have in2:(j:Int)<((bs l).size:Int):=by omega
        have in3:(0:Int)<=(m:Int)+1:=by omega
        have HJ:Hid (m-1=j):=hj;rw[hj] at hp2;clear hj;have HW:Hid (whF (l.drop m) pp wh ze gr=whF (l.drop (m+1)) false wh ze true):=by show _=_;rw[hdr,whF_44,hh,hp1,hpp,hp2];rfl
        have hsz:(bs l).size<=64:=by rw[HSZ.out];exact hl
        have HPL:Hid (false=plcB (atB l m)):=by rw[HC.out,h44];rfl
        clear hy h44 hdr HC s2 s3 s4 s5 s6 hpp h1 hh c2;go_wp2_with fail;refine Calls.mono (HH _ (by exact HR.out)).out ?_;rintro _ _ ⟨rfl,k21,rfl⟩;go_wp2_with fail;refine Calls.mono (HP _).out ?_;rintro _ _ ⟨rfl,rfl⟩;go_wp2_with fail;refine Calls.mono (HH _ (by exact HR.out)).out ?_;rintro _ _ ⟨rfl,k22,rfl⟩;go_wp2_with fail;refine Calls.mono (HH _ (by exact HR.out)).out ?_;rintro _ _ ⟨rfl,k23,rfl⟩;clear HH HP;go_upto_region 4 with fail
        go_quiet (first|(go_at_call 73;refine quiet_add (HPA _ _ _).out));go_wp2;refine⟨⟨m+1,false,wh,ze,true,H.out.next HW.out hlt (by omega) hze HPL.out ?_ ?_ ?_⟩,rPos_less (b:=false) (g:=g) HRP hlt ?_⟩
        ·exact Row.set 1 (.int .i64 ((m+1:Nat):Int)) (Row.off HR.out 7 _ hne)
        ·exact Row.off (Row.set 7 (.bool true) HS.out) 1 _ hne.symm
        ·exact((((Kept.refl _ wr).dN _).setCell (fun e=>e.2.2 rfl) _).setCell (fun e=>e.2.1 rfl) _)
        ·exact Row.set 1 (.int .i64 ((m+1:Nat):Int)) (Row.off HR.out 7 _ hne)
    ·by_cases h46:c=46
     ·have HW:Hid (whF (l.drop n) false 0 0 false=(true,wh,ze,gr,l.drop m)):=H.out.1.trans (whF_rest (by rw[HC.out];exact h44) (by rw[HC.out];exact h35) (by rw[HC.out];exact h48) _ _ _ _);have HPRE:Hid (Lib.hasPrefix (l.drop m) [46]=decide (c=46)):=by rw[<-HC.out];exact pre_at
      have hpl:plcB c=false:=by unfold plcB;rw[decide_eq_false h48,decide_eq_false h35];rfl
      have HP:∀ W,Hid (Calls Tryz.prog 73 #[.int .u8 (c.toNat:Int)] W fun e w'=>e=.returned (.bool false)/\w'=W):=fun W=>place_at rfl hpl W;have q44:((c.toNat:Int)==44)=false:=(u8_eq c 44 (by decide)).trans (decide_eq_false h44);have q46:((c.toNat:Int)==46)=decide (c=46):=u8_eq c 46 (by decide);have hlt:m<l.length:=at_pos (by rw[HC.out,h46];decide);have n46:((c.toNat:Int) != 46)=false:=by rw[bne,q46,decide_eq_true h46];rfl
      have HD3:Hid (((pF (l.drop (m+1)) 0 0).1=false->(digP (l.drop n) x).1=false)/\((pF (l.drop (m+1)) 0 0).1=true->digP (l.drop n) x=(true,{ x with dg:=true,gr:=gr,wh:=wh,ze:=ze,pt:=true,pa:=(pF (l.drop (m+1)) 0 0).2.1,pz:=(pF (l.drop (m+1)) 0 0).2.2.1 },(pF (l.drop (m+1)) 0 0).2.2.2))):=by have:=HD.out.2.2 (by rw[HW.out]) (by rw[HW.out,HPRE.out,decide_eq_true h46]);rw[HW.out] at this;simp only[List.drop_drop] at this;exact this
      have HK:Hid _:=H.out.2.2.2.2.2.2.2.2.2;clear q46 hpl h44 h46 h48 h35 HPRE HW HC H s2 s3 s5 s6 s7 c0 c2 HD;generalize (c.toNat:Int)=y at *;go_wp2_with fail;refine Calls.mono (HH _ (by exact HR.out)).out ?_;rintro _ _ ⟨rfl,k27,rfl⟩;go_wp2_with fail;refine Calls.mono (HP _).out ?_;rintro _ _ ⟨rfl,rfl⟩;go_wp2_with fail;refine Calls.mono (HH _ (by exact HR.out)).out ?_;rintro _ _ ⟨rfl,k28,rfl⟩;go_wp2_with fail;refine Calls.mono (HH _ (by exact HR.out)).out ?_;rintro _ _ ⟨rfl,k29,rfl⟩;clear HH HP;go_wp2;have h1:Hid (PaI R S l (m+1) g x wh ze gr w (m+1) 0 0 (((wr.drewN (k27+k28+k29)).setCell ⟨S,4,none⟩ (.bool true)).setCell ⟨R,1,none⟩ (.int .i64 ((m+1:Nat):Int)))):=⟨rfl,hlt,Nat.zero_le _,Nat.le_refl _,Row.set 1 (.int .i64 ((m+1:Nat):Int)) (Row.off HR.out 4 _ hne),Row.off (Row.set 4 (.bool true) HS.out) 1 _ hne.symm,((HK.out.dN _).setCell (fun e=>e.2.2 rfl) _).setCell (fun e=>e.2.1 rfl) _⟩;clear HR HS HK s4 c1 fR fS lR lS HRP;go_loopw [] (fun wx=>∃(m2 pa pz:Nat),Hid (PaI R S l (m+1) g x wh ze gr w m2 pa pz wx)) (fun wx=>l.length-rPos R wx)
      case atStart=>exact⟨m+1,0,0,h1⟩
      case round =>
       clear h1;obtain⟨m2,pa,pz,H⟩:=hrel;have hR:=H.out.2.2.2.2.1;have hS:=H.out.2.2.2.2.2.1;have hm2:=H.out.2.1;have hpa:=H.out.2.2.1;have hpz:=H.out.2.2.2.1;have c1:wr.cell? ⟨R,1,none⟩=some (.int .i64 (m2:Int)):=Row.cell hR (i:=1) rfl;have c2:wr.cell? ⟨R,2,none⟩=some (.bool false):=Row.cell hR (i:=2) rfl;have s5:wr.cell? ⟨S,5,none⟩=some (.int .i64 (pa:Int)):=hS.cell (i:=5) rfl;have s6:wr.cell? ⟨S,6,none⟩=some (.int .i64 (pz:Int)):=hS.cell (i:=6) rfl;have fR:=Row.frozen hR;have fS:=hS.frozen;have lR:=Row.lt hR;have lS:=hS.lt;have HRP:Hid (rPos R wr=m2):=rPos_row hR;obtain⟨c,hc⟩:∃c,atB l m2=c:=⟨_,rfl⟩;have HC:Hid (atB l m2=c):=hc;have HH:∀ W,Rdr W R l m2 false g->Hid (Calls Tryz.prog 38 #[.pointer (some ⟨R,0,none⟩)] W fun r w'=>r=.returned (.int .u8 (c.toNat:Int))/\∃k,w'=W.drewN k):=fun W h=>here_dn HC h;have HR:Hid (Rdr wr R l m2 false g):=hR;have HS:Hid (Row wr S 34 (SecD x wh ze true pa pz gr).cells):=hS;have HK:Hid _:=H.out.2.2.2.2.2.2;clear hc hR hS;by_cases h48:c=48
       ·by_cases hz:pz<pa
        ·have hy:(c.toNat:Int)=48:=by rw[h48];rfl
         rw[hy] at HH;have HP:∀ W,Hid (Calls Tryz.prog 73 #[.int .u8 48] W fun e w'=>e=.returned (.bool true)/\w'=W):=fun W=>place_at hy (by rw[h48];rfl) W;have hlt2:m2<l.length:=at_pos (by rw[HC.out,h48];decide);have hdr:l.drop m2=48::l.drop (m2+1):=by rw[drop_at hlt2,HC.out,h48]
         have HBAD:Hid ((digP (l.drop n) x).1=false):=HD3.out.1 (by rw[H.out.1,hdr,pF_48,if_pos hz]);have hz':(pz:Int)<(pa:Int):=by omega
         clear hy h48 hdr hz HC H;go_wp2_with fail;refine Calls.mono (HH _ (by exact HR.out)).out ?_;rintro _ _ ⟨rfl,k30,rfl⟩;go_wp2_with fail;refine Calls.mono (HP _).out ?_;rintro _ _ ⟨rfl,rfl⟩;go_wp2_with fail;refine Calls.mono (HH _ (by exact HR.out)).out ?_;rintro _ _ ⟨rfl,k31,rfl⟩;clear HH HP;go_upto_region 19 with fail
         go_quiet (fail);go_wp2;refine bodyPost_ret (results_none rfl _ _ _) rfl ?_;exact⟨rfl,DgR.bad (x2:=SecD x wh ze true pa pz gr) HBAD.out hm2 rfl (Row.set 2 (.bool true) HR.out) (Row.off HS.out 2 _ hne.symm) ((HK.out.dN _).setCell (fun e=>e.2.1 rfl) _)⟩
        ·have hy:(c.toNat:Int)=48:=by rw[h48];rfl
         rw[hy] at HH;have HP:∀ W,Hid (Calls Tryz.prog 73 #[.int .u8 48] W fun e w'=>e=.returned (.bool true)/\w'=W):=fun W=>place_at hy (by rw[h48];rfl) W;have hlt2:m2<l.length:=at_pos (by rw[HC.out,h48];decide);have hdr:l.drop m2=48::l.drop (m2+1):=by rw[drop_at hlt2,HC.out,h48]
         have HW2:Hid (pF (l.drop (m+1)) 0 0=pF (l.drop (m2+1)) (pa+1) (pz+1)):=by show _=_;rw[H.out.1,hdr,pF_48,if_neg hz]
         have hz':¬ (pz:Int)<(pa:Int):=by omega
         clear hy h48 hdr hz HC H c2;go_wp2_with fail;refine Calls.mono (HH _ (by exact HR.out)).out ?_;rintro _ _ ⟨rfl,k32,rfl⟩;go_wp2_with fail;refine Calls.mono (HP _).out ?_;rintro _ _ ⟨rfl,rfl⟩;go_wp2_with fail;refine Calls.mono (HH _ (by exact HR.out)).out ?_;rintro _ _ ⟨rfl,k33,rfl⟩;clear HH HP;go_upto_region 19 with fail
         go_quiet (fail);go_wp2;refine⟨⟨m2+1,pa+1,pz+1,HW2.out,by omega,by omega,by omega,?_,?_,?_⟩,rPos_less (b:=false) (g:=g) HRP hlt2 ?_⟩
         ·exact Row.set 1 (.int .i64 ((m2+1:Nat):Int)) (Row.off (Row.off HR.out 6 _ hne) 5 _ hne)
         ·exact Row.off (Row.set 5 (.int .i64 ((pa+1:Nat):Int)) (Row.set 6 (.int .i64 ((pz+1:Nat):Int)) HS.out)) 1 _ hne.symm
         ·exact(((HK.out.dN _).setCell (fun e=>e.2.2 rfl) _).setCell (fun e=>e.2.2 rfl) _).setCell (fun e=>e.2.1 rfl) _
         ·exact Row.set 1 (.int .i64 ((m2+1:Nat):Int)) (Row.off (Row.off HR.out 6 _ hne) 5 _ hne)
       ·by_cases h35:c=35
        ·have hy:(c.toNat:Int)=35:=by rw[h35];rfl
         rw[hy] at HH;have HP:∀ W,Hid (Calls Tryz.prog 73 #[.int .u8 35] W fun e w'=>e=.returned (.bool true)/\w'=W):=fun W=>place_at hy (by rw[h35];rfl) W;have hlt2:m2<l.length:=at_pos (by rw[HC.out,h35];decide);have hdr:l.drop m2=35::l.drop (m2+1):=by rw[drop_at hlt2,HC.out,h35]
         have HW2:Hid (pF (l.drop (m+1)) 0 0=pF (l.drop (m2+1)) (pa+1) pz):=by show _=_;rw[H.out.1,hdr,pF_35]
         clear hy h35 hdr HC H c2 s6;go_wp2_with fail;refine Calls.mono (HH _ (by exact HR.out)).out ?_;rintro _ _ ⟨rfl,k34,rfl⟩;go_wp2_with fail;refine Calls.mono (HP _).out ?_;rintro _ _ ⟨rfl,rfl⟩;go_wp2_with fail;refine Calls.mono (HH _ (by exact HR.out)).out ?_;rintro _ _ ⟨rfl,k35,rfl⟩;clear HH HP;go_wp2;refine⟨⟨m2+1,pa+1,pz,HW2.out,by omega,by omega,by omega,?_,?_,?_⟩,rPos_less (b:=false) (g:=g) HRP hlt2 ?_⟩
         ·exact Row.set 1 (.int .i64 ((m2+1:Nat):Int)) (Row.off HR.out 5 _ hne)
         ·exact Row.off (Row.set 5 (.int .i64 ((pa+1:Nat):Int)) HS.out) 1 _ hne.symm
         ·exact(((HK.out.dN _).setCell (fun e=>e.2.2 rfl) _).setCell (fun e=>e.2.1 rfl) _)
         ·exact Row.set 1 (.int .i64 ((m2+1:Nat):Int)) (Row.off HR.out 5 _ hne)
        ·have HW2:Hid (pF (l.drop (m+1)) 0 0=(true,pa,pz,l.drop m2)):=H.out.1.trans (pF_rest (by rw[HC.out];exact h35) (by rw[HC.out];exact h48) _ _);have hpl:plcB c=false:=by unfold plcB;rw[decide_eq_false h48,decide_eq_false h35];rfl
         have HP:∀ W,Hid (Calls Tryz.prog 73 #[.int .u8 (c.toNat:Int)] W fun e w'=>e=.returned (.bool false)/\w'=W):=fun W=>place_at rfl hpl W;have HF:Hid (digP (l.drop n) x=(true,SecD x wh ze true pa pz gr,l.drop m2)):=by have:=HD3.out.2 (by rw[HW2.out]);rw[HW2.out] at this;exact this
         clear hpl h48 h35 HW2 HC H s5 s6 c1 c2;generalize (c.toNat:Int)=y2 at *;go_wp2_with fail;refine Calls.mono (HH _ (by exact HR.out)).out ?_;rintro _ _ ⟨rfl,k36,rfl⟩;go_wp2_with fail;refine Calls.mono (HP _).out ?_;rintro _ _ ⟨rfl,rfl⟩;clear HH HP;go_wp2;first|go_end0|refine bodyPost_ret (results_none rfl _ _ _) rfl ?_
         exact⟨rfl,m2,false,SecD x wh ze true pa pz gr,HR.out,HS.out,HK.out.dN _,hm2,rfl,fun _=>⟨rfl,by rw[HF.out],by rw[HF.out]⟩,fun h=>absurd h (by rw[HF.out];simp)⟩
     ·have HW:Hid (whF (l.drop n) false 0 0 false=(true,wh,ze,gr,l.drop m)):=H.out.1.trans (whF_rest (by rw[HC.out];exact h44) (by rw[HC.out];exact h35) (by rw[HC.out];exact h48) _ _ _ _);have HPRE:Hid (Lib.hasPrefix (l.drop m) [46]=decide (c=46)):=by rw[<-HC.out];exact pre_at
      have hpl:plcB c=false:=by unfold plcB;rw[decide_eq_false h48,decide_eq_false h35];rfl
      have HP:∀ W,Hid (Calls Tryz.prog 73 #[.int .u8 (c.toNat:Int)] W fun e w'=>e=.returned (.bool false)/\w'=W):=fun W=>place_at rfl hpl W;have q44:((c.toNat:Int)==44)=false:=(u8_eq c 44 (by decide)).trans (decide_eq_false h44);have q46:((c.toNat:Int)==46)=decide (c=46):=u8_eq c 46 (by decide);have n46:((c.toNat:Int) != 46)=true:=by rw[bne,q46,decide_eq_false h46];rfl
      have HF:Hid (digP (l.drop n) x=(true,{ x with dg:=true,gr:=gr,wh:=wh,ze:=ze },l.drop m)):=by have:=HD.out.2.1 (by rw[HW.out]) (by rw[HW.out,HPRE.out,decide_eq_false h46]);rw[HW.out] at this;exact this
      have HK:Hid _:=H.out.2.2.2.2.2.2.2.2.2;clear q46 hpl h44 h46 h48 h35 HPRE HW HC H s2 s3 s4 s5 s6 s7 c0 c1 c2;generalize (c.toNat:Int)=y at *;go_wp2_with fail;refine Calls.mono (HH _ (by exact HR.out)).out ?_;rintro _ _ ⟨rfl,k24,rfl⟩;go_wp2_with fail;refine Calls.mono (HP _).out ?_;rintro _ _ ⟨rfl,rfl⟩;go_wp2_with fail;refine Calls.mono (HH _ (by exact HR.out)).out ?_;rintro _ _ ⟨rfl,k25,rfl⟩;go_wp2_with fail;refine Calls.mono (HH _ (by exact HR.out)).out ?_;rintro _ _ ⟨rfl,k26,rfl⟩;clear HH HP;go_wp2;refine bodyPost_ret (results_none rfl _ _ _) rfl ?_;have hx2:SecD x wh ze false 0 0 gr={ x with dg:=true,gr:=gr,wh:=wh,ze:=ze }:=by
       have e:SecD x wh ze x.pt x.pa x.pz gr=SecD x wh ze false 0 0 gr:=by rw[HXP.out.1,HXP.out.2.1,HXP.out.2.2]
       exact e.symm.trans rfl
      refine⟨rfl,m,false,SecD x wh ze false 0 0 gr,HR.out,HS.out,HK.out.dN _,hm,rfl,fun _=>⟨rfl,by rw[HF.out];exact hx2,by rw[HF.out]⟩,fun h=>absurd h (by rw[HF.out];simp)⟩
theorem digits_bad (R S:Nat) (l:List UInt8) (n:Nat) (g:Bool) (w:World) (hp:plcB (atB l n)=false) (hR:Rdr w R l n true g):Calls Tryz.prog 41 #[.pointer (some ⟨R,0,none⟩),.pointer (some ⟨S,0,none⟩)] w fun r w'=>r=.returned (.tuple #[])/\∃k,w'=w.drewN k:=by
 obtain⟨c,hc⟩:∃c,atB l n=c:=⟨_,rfl⟩;have HC:Hid (atB l n=c):=hc;have HH:=here_dn HC hR;have HP:∀ W,Hid (Calls Tryz.prog 73 #[.int .u8 (c.toNat:Int)] W fun e w'=>e=.returned (.bool false)/\w'=W):=fun W=>place_at rfl (by rw[<-hc];exact hp) W;clear hc hR hp;generalize (c.toNat:Int)=y at *;go_enter Tryz.func41,Tryz.ntmps41;go_wp2_with fail;refine Calls.mono HH.out ?_;rintro _ _ ⟨rfl,k,rfl⟩;clear HH;go_wp2_with fail;refine Calls.mono (HP _).out ?_;rintro _ _ ⟨rfl,rfl⟩;go_wp2;refine bodyPost_ret (results_none rfl _ _ _) rfl ?_;exact⟨rfl,k,rfl⟩
end Go.Proofs.YtoncpcdepemlcaaGreatDoor
namespace Go.Proofs.YtoncpcdepemlcaaGreatDoor
set_option maxRecDepth 100000
set_option maxHeartbeats 60000000
open Go.RowKit Go.Shelf
def cellsU (l : List UInt8) : List Value := l.map (fun b => Value.int .u8 (b.toNat : Int))
theorem cellsU_snoc (l:List UInt8) (c:UInt8):cellsU (l++[c])=cellsU l++[.int .u8 (c.toNat:Int)]:=by simp[cellsU]
theorem cellsU_app (l k:List UInt8):cellsU (l++k)=cellsU l++Lib.strCells (bs k):=by simp[cellsU,Lib.strCells,bs]
theorem conv_nil (w:World):(convert 63 9 (.slice none 0 0)).run Tryz.prog w=.ok (.string (bs [])) w:=by
 rw[run_convert_bytes_nil w 63 5 Tryz.underlying63 Tryz.underlying5 _ _ 9 Tryz.underlying9];rfl
theorem conv_own {w:World} {base:Nat} {g:Option Addr} {cap:Nat} {l:List UInt8} (h:w.ownsRow base 5 1 (.slice g l.length cap) l.length (cellsU l)):(convert 63 9 (.slice g l.length cap)).run Tryz.prog w=.ok (.string (bs l)) w:=by
 rcases h.2 with ⟨hv,h0⟩|⟨b,c,cur,hv,hb,hg,rest⟩
 ·have e:l=[]:=List.length_eq_zero_iff.1 h0;subst e;simp only[Value.slice.injEq] at hv;obtain⟨rfl,_,rfl⟩:=hv;exact conv_nil w
 ·simp only[Value.slice.injEq] at hv;obtain⟨rfl,_,rfl⟩:=hv;have:=run_convert_bytes_arg (P:=Tryz.prog) w 63 5 Tryz.underlying63 Tryz.underlying5 b 0 l.length cap (l.map (fun b=>(b.toNat:Int))) (by simp) (fun i hi=>by rw[Nat.zero_add,h.cellAt i (by omega)];have hi':i<l.length:=hi;simp[cellsU,hi']) 9 Tryz.underlying9
  have e:strOfNums (l.map (fun b=>(b.toNat:Int)))=bs l:=by
   have e2:(l.map (fun b=>(b.toNat:Int))).map (fun x=>x.toNat.toUInt8)=l:=by
    rw[List.map_map];conv=>rhs;rw[<-List.map_id l]
    refine List.map_congr_left (fun b _ => ?_);simp
   conv=>rhs;rw[<-e2]
   rfl
  rw[e] at this;exact this
def rLen (R : Nat) (w : World) : Nat := match w.cell? ⟨R, 0, none⟩ with | some (.string s) => s.size | _ => 0
theorem rLen_row {W:World} {R:Nat} {t:TypeId} {l:List UInt8} (h:Row W R t #[.string (bs l)]):rLen R W=l.length:=by
 unfold rLen;rw[h.cell (i:=0) rfl];exact bs_size l
theorem cut_len (r:List UInt8) (h:(Lib.cut r [34]).2.2=true):(Lib.cut r [34]).1.length+1<=r.length:=by
 unfold Lib.cut at *;split at h
 ·rename_i hi;rw[if_pos hi];have:=Lib.index_room r [34] hi;simp at this ⊢;omega
 ·cases h
def LtAt (R S : Nat) (x : Sec) (LT : List UInt8 × Nat × List UInt8) (w : World) (o r : List UInt8) (p : Nat) (v : Value) (W : World) : Prop :=
  (∃ m, r.length ≤ m ∧ LT = (o ++ (litsF m x.tx r).1, p + (litsF m x.tx r).2.1, (litsF m x.tx r).2.2)) ∧ o.length + r.length ≤ 64 ∧ p + r.length ≤ 64 ∧ W.ownsRow w.heap.size 5 1 v o.length (cellsU o) ∧ Row W R 78 #[.string (bs r)] ∧ Row W S 33 { x with pc := x.pc + p }.cells ∧ Kept (fun k => k < w.heap.size ∧ k ≠ R ∧ k ≠ S) w W
theorem LtAt.fin {R S:Nat} {x:Sec} {LT:List UInt8 × Nat × List UInt8} {w:World} {o r:List UInt8} {p:Nat} {v:Value} {W:World} (h:LtAt R S x LT w o r p v W) (hs:litStep x.tx r=none):LT=(o,p,r):=by
 obtain⟨⟨m,_,e⟩,_⟩:=h;rw[e,litsF_none hs];simp
theorem LtAt.go {R S:Nat} {x:Sec} {LT:List UInt8 × Nat × List UInt8} {w:World} {o q:List UInt8} {p:Nat} {v:Value} {W:World} (h:LtAt R S x LT w o q p v W) {a:List UInt8} {pp k:Nat} (hs:litStep x.tx q=some (a,pp,k)) (hk:a.length+k<=q.length+a.length/\a.length<=k/\pp<=k/\1<=k) {v':Value} {W':World} (hO:W'.ownsRow w.heap.size 5 1 v' (o++a).length (cellsU (o++a))) (hR:Row W' R 78 #[.string (bs (q.drop k))]) (hS:Row W' S 33 { x with pc:=x.pc+(p+pp) }.cells) (hK:Kept (fun k=>k<w.heap.size/\k≠R/\k≠S) w W'):LtAt R S x LT w (o++a) (q.drop k) (p+pp) v' W':=by
 obtain⟨⟨m,hm,e⟩,h1,h2,_⟩:=h;have hl:(q.drop k).length=q.length-k:=List.length_drop;cases m with
 | zero =>
  have:q=[]:=List.length_eq_zero_iff.1 (by omega);rw[this] at hs;cases hs
 | succ m =>
  refine⟨⟨m,by omega,?_⟩,by rw[List.length_append];omega,by omega,hO,hR,hS,hK⟩;rw[e,litsF,hs];simp only[List.append_assoc,Nat.add_assoc]
theorem LtAt.dN {R S:Nat} {x:Sec} {LT:List UInt8 × Nat × List UInt8} {w:World} {o q:List UInt8} {p:Nat} {v:Value} {W:World} (h:LtAt R S x LT w o q p v W) (n:Nat):LtAt R S x LT w o q p v (W.drewN n):=⟨h.1,h.2.1,h.2.2.1,h.2.2.2.1,h.2.2.2.2.1,h.2.2.2.2.2.1,h.2.2.2.2.2.2.dN n⟩
theorem newB (W:World) (b:Int):∀(j:Nat) (u:Value),([.int .u8 b]:List Value)[j]? = some u->(W.alloc (.cells #[.int .u8 b] 5)).cell? ((⟨W.heap.size,0,none⟩:Addr).add j)=some u:=by
 intro j u h;cases j with
 | zero=>simp at h;subst h;exact(Row.new W 5 #[.int .u8 b]).cell (i:=0) rfl
 | succ j=>simp at h
theorem cutQ (a:List UInt8) (ha:a.length<=100) (V:World) (hm:MaxAt V):Calls Tryz.prog 84 #[.string (bs a),.string ⟨#[34]⟩] V fun e w'=>e=.returned (.tuple #[.string (bs (Lib.cut a [34]).1),.string (bs (Lib.cut a [34]).2.1),.bool (Lib.cut a [34]).2.2])/\∃n,w'=V.drewN n:=by
 obtain⟨m,hm⟩:=hm;exact Tryz.strings_Cut (bs a) (bs [34]) m V (by rw[bs_size];omega) hm
theorem nlits_any (R S:Nat) (l:List UInt8) (x:Sec) (hl:l.length<=64) (hne:R≠S) (h2:2<R/\2<S) (hpc:x.pc<=100) (w:World) (hR:Row w R 78 #[.string (bs l)]) (hS:Row w S 33 x.cells) (hM:MaxAt w):Calls Tryz.prog 70 #[.pointer (some ⟨R,0,none⟩),.pointer (some ⟨S,0,none⟩)] w fun r w'=>r=.returned (.string (bs (lits x.tx l).1))/\Row w' R 78 #[.string (bs (lits x.tx l).2.2)]/\Row w' S 33 { x with pc:=x.pc+(lits x.tx l).2.1 }.cells/\Kept (fun k=>k<w.heap.size/\k≠R/\k≠S) w w':=by
 obtain⟨LT,HLT⟩:∃ LT,Hid (lits x.tx l=LT):=⟨_,rfl⟩;rw[HLT.out];have hRl:R<w.heap.size:=hR.lt;have hSl:S<w.heap.size:=hS.lt;have h0:Hid (LtAt R S x LT w [] l 0 (.slice none 0 0) w):=⟨⟨l.length,Nat.le_refl _,by rw[<-HLT.out];unfold lits;simp⟩,by simp;omega,by omega,World.ownsRow_nil _ _ _ _,hR,hS,Kept.refl _ w⟩;clear HLT hR hS;go_enter Tryz.func70,Tryz.ntmps70;go_wp2;go_step3;go_wp2;go_step3;go_wp2;go_loopw [5] (fun v5 wr=>∃(o r:List UInt8) (p:Nat),Hid (LtAt R S x LT w o r p v5 wr)) (fun _ wr=>rLen R wr)
 case atStart=>exact⟨[],l,0,h0⟩
 case round =>
  clear h0;obtain⟨o,r,p,H⟩:=hrel;have hRr:=H.out.2.2.2.2.1;have hSr:=H.out.2.2.2.2.2.1;obtain⟨g5,cap5,hv5⟩:=owns_form H.out.2.2.2.1;subst hv5;have c0:=hRr.cell (i:=0) rfl;have hb:=H.out.2.1;have hb2:=H.out.2.2.1;obtain⟨i0,hi,hzz⟩:=Option.map_eq_some_iff.1 Tryz.info5;simp only[Prod.mk.injEq] at hzz;obtain⟨hz0,hz1,hz2⟩:=hzz;cases r with
  | nil =>
   have e0:(bs []).toList.isEmpty=true:=by rw[bs_toList];rfl
   have HST:Hid (litStep x.tx []=none):=rfl;have hcv:=conv_own H.out.2.2.2.1;have HF:Hid (LT=(o,p,[])):=H.out.fin HST.out;clear HST;go_wp2;try rw[Exit.noGoto_ret]
   go_ret;rw[HF.out];exact⟨rfl,H.out.2.2.2.2.1,H.out.2.2.2.2.2.1,H.out.2.2.2.2.2.2⟩
  | cons c r =>
   have e0:(bs (c::r)).toList.isEmpty=false:=by rw[bs_toList];rfl
   have hql:1<=(c::r).length:=by simp
   have hx1:(bs (c::r)).extract 1 (bs (c::r)).size=bs r:=bs_drop (c::r) 1;have hx2:(bs (c::r)).extract 2 (bs (c::r)).size=bs ((c::r).drop 2):=bs_drop (c::r) 2;have hx1':Hid (r=(c::r).drop 1):=rfl;have hsq:(bs (c::r)).size=r.length+1:=by rw[bs_size];rfl
   have hlt:0<(bs (c::r)).size:=by omega
   obtain⟨cn,hcn⟩:∃cn:Nat,((bs (c::r))[0]'hlt).toNat=cn:=⟨_,rfl⟩;have HCN:Hid (c.toNat=cn):=hcn;have HLS:Hid (litStep x.tx (c::r)=if c=34 then (if (Lib.cut r [34]).2.2 then some ((Lib.cut r [34]).1,0,(Lib.cut r [34]).1.length+2) else none) else if c=92 then (match r with|[]=>none|d::_=>some ([d],0,2)) else if c=37 then (if x.tx then none else some ([37],1,1)) else if c=64 then (if x.tx then some ([0],0,1) else none) else if litC c then some ([c],0,1) else none):=rfl;have hrl:r.length<=63:=by simp at hb;omega
   have hql2:Hid ((c::r).length=r.length+1):=rfl;have hcU:∀n:Nat,n<256->(cn=n↔c=UInt8.ofNat n):=fun n hn=>by
    rw[<-HCN.out];constructor
    ·intro e;rw[<-e];simp
    ·intro e;rw[e];simp;omega
   have hMr:MaxAt wr:=hM.kept H.out.2.2.2.2.2.2 ⟨by omega,by omega,by omega⟩;have hd1:∀d r',r=d::r'->∃h:1<(bs (c::r)).size,((bs (c::r))[1]'h)=d:=fun d r' e=>by subst e;exact⟨by rw[bs_size];simp,rfl⟩
   generalize c::r=q at *;by_cases h34:cn=34
   ·have hc:c=34:=(hcU 34 (by omega)).1 h34;have g34:((cn:Int)==34)=true:=by simp;omega
    have hCut:=fun V h=>cutQ r (by omega) V h;have hcl:=cut_len r;rw[hc,if_pos rfl] at HLS;generalize Lib.cut r [34]=ct at *;obtain⟨A,B,f⟩:=ct;simp only at hCut HLS hcl;clear hd1 hcU hx2 h34;cases f with
    | false =>
     have HST:Hid (litStep x.tx q=none):=HLS;have hs1:(1:Int)<=((bs q).size:Int):=by omega
     clear hsq hcl hc hrl;go_wp2_with fail;refine Calls.mono (hCut _ hMr) ?_;rintro _ w3 ⟨rfl,n,rfl⟩;have H:=H.out.dN n;have HF:Hid (LT=(o,p,q)):=H.fin HST.out;have hcv:=conv_own H.2.2.2.1;generalize wr.drewN n=w4 at *;go_wp2;try rw[Exit.noGoto_ret]
     go_ret;rw[HF.out];exact⟨rfl,H.2.2.2.2.1,H.2.2.2.2.2.1,H.2.2.2.2.2.2⟩
    | true =>
     have HST:Hid (litStep x.tx q=some (A,0,A.length+2)):=HLS;have hcl:=hcl rfl;have HKK:Hid (A.length+(A.length+2)<=q.length+A.length/\A.length<=A.length+2/\0<=A.length+2/\1<=A.length+2):=⟨by have:=hql2.out;omega,by omega,by omega,by omega⟩;have hs1:(1:Int)<=((bs q).size:Int):=by omega
     have sA:(bs A).size=A.length:=bs_size A;have hAl:A.length<=64:=by omega
     have hxk:(bs q).extract (A.length+2) (bs q).size=bs (q.drop (A.length+2)):=bs_drop q _;obtain⟨qd,hqd⟩:∃qd,q.drop (A.length+2)=qd:=⟨_,rfl⟩;have HQD:Hid (q.drop (A.length+2)=qd):=hqd;rw[hqd] at hxk;clear hqd;have hsk:A.length+2<=(bs q).size:=by omega
     have hob:o.length<=64:=by omega
     clear hsq hcl hc hrl;go_wp2_with fail;refine Calls.mono (hCut _ hMr) ?_;rintro _ w3 ⟨rfl,n,rfl⟩;have H:Hid (LtAt R S x LT w o q p (.slice g5 o.length cap5) (wr.drewN n)):=H.out.dN n;have HRW:Hid (rLen R wr=q.length):=rLen_row hRr;clear hRr hSr hMr c0 hCut;generalize wr.drewN n=w4 at *;have hO0:=H.out.2.2.2.1;have hsz:w.heap.size<=w4.heap.size:=H.out.2.2.2.2.2.2.size;go_wp2_with (at_builtin;refine Lib.wpList_append_own_string _ rfl (.tmp 36) (.tmp 37) 63 9 rfl w.heap.size 5 i0 Tryz.underlying63 Tryz.underlying9 hi hz0 hz1 hz2 _ _ _ rfl hO0 (bs A) rfl (by unfold maxLen;omega) (by omega) hsz ?_);intro v2 W2 hown hgrow hiff;have hkx:Kept (fun k=>k<w.heap.size) w4 W2:=(Kept.refl _ w4).grown hgrow (fun k h=>Nat.lt_of_lt_of_le h hsz) (fun k e h=>by have:=(hO0.lt k e).1;omega);have hO2:W2.ownsRow w.heap.size 5 1 v2 (o++A).length (cellsU (o++A)):=by rw[List.length_append,cellsU_app,<-sA];exact hown
     have hR2:=H.out.2.2.2.2.1.kept hkx hRl;have hS2:=H.out.2.2.2.2.2.1.kept hkx hSl;have hK2:=H.out.2.2.2.2.2.2.trans (hkx.mono (fun k h=>h.1));clear hown hgrow hiff hkx hO0;have c0:=hR2.cell (i:=0) rfl;have zR:=hR2.frozen;have lR:=hR2.lt;obtain⟨g2,cap2,hv2⟩:=owns_form hO2;subst hv2;have hS3:=hS2.off (B':=R) 0 (.string (bs qd)) (fun e=>hne e.symm);have hR3:=hR2.set 0 (.string (bs qd));have hO3:=owns_kept (S:=fun k=>w.heap.size<=k) hO2 ((Kept.refl _ W2).setCell (p:=⟨R,0,none⟩) (fun h=>by have:w.heap.size<=R:=h;omega) (.string (bs qd))) (fun k e=>(hO2.lt k e).1);have hK3:=hK2.setCell (p:=⟨R,0,none⟩) (fun h=>h.2.1 rfl) (.string (bs qd));have HG:Hid (LtAt R S x LT w (o++A) qd (p+0) (.slice g2 (o++A).length cap2) _):=HQD.out ▸ H.out.go HST.out HKK.out hO3 (HQD.out.symm ▸ hR3) hS3 hK3;clear hS3 hR3 hO3 hK3;have HMS:Hid (qd.length<q.length):=by show _<_;rw[<-HQD.out,List.length_drop];have:=hql;omega
     clear hR2 hS2 hK2 hO2 H;go_wp2;go_roundw
     case rel=>exact⟨o++A,qd,_,HG⟩
     case measure=>rw[rLen_row HG.out.2.2.2.2.1,HRW.out];exact HMS.out
   ·have hc34:¬ c=34:=fun e=>h34 ((hcU 34 (by omega)).2 e);have g34:((cn:Int)==34)=false:=by simp;omega
    rw[if_neg hc34] at HLS;by_cases h92:cn=92
    ·have hc:c=92:=(hcU 92 (by omega)).1 h92;have g92:((cn:Int)==92)=true:=by simp;omega
     rw[if_pos hc] at HLS;cases r with
     | nil =>
      have HST:Hid (litStep x.tx q=none):=HLS;have hcv:=conv_own H.out.2.2.2.1;have g1:(((bs q).size:Int)==1)=true:=by rw[hsq];rfl
      clear hsq hx1 hx2 hd1 hcU h34 h92;have HF:Hid (LT=(o,p,q)):=H.out.fin HST.out;clear HST;go_wp2;try rw[Exit.noGoto_ret]
      go_ret;rw[HF.out];exact⟨rfl,H.out.2.2.2.2.1,H.out.2.2.2.2.2.1,H.out.2.2.2.2.2.2⟩
     | cons d r2 =>
      have HST:Hid (litStep x.tx q=some ([d],0,2)):=HLS;have hq3:2<=q.length:=by have:=hql2.out;simp at this;omega
      have HKK:Hid (([d]:List UInt8).length+2<=q.length+([d]:List UInt8).length/\([d]:List UInt8).length<=2/\0<=2/\1<=2):=⟨by simp;omega,by simp,by decide,by decide⟩;obtain⟨hlt1,hdd⟩:=hd1 d r2 rfl;have hs2:(2:Int)<=((bs q).size:Int):=by omega
      have g1:(((bs q).size:Int)==1)=false:=by simp;omega
      have hdn:((bs q)[1]'hlt1).toNat=d.toNat:=by rw[hdd]
      obtain⟨dn,hdn2⟩:∃dn:Nat,d.toNat=dn:=⟨_,rfl⟩;rw[hdn2] at hdn;have hcd:∀l:List UInt8,cellsU (l++[d])=cellsU l++[.int .u8 (dn:Int)]:=fun l=>by rw[cellsU_snoc,hdn2]
      clear hsq hx1 hd1 hcU h34 h92 hdd;clear hdn2;obtain⟨qd,hqd⟩:∃qd,q.drop 2=qd:=⟨_,rfl⟩;have HQD:Hid (q.drop 2=qd):=hqd;have hxq:(bs q).extract 2 (bs q).size=bs qd:=by rw[bs_drop,hqd]
      clear hqd hx2 hx1';have HNW:Hid _:=newB wr (dn);have hOa:(wr.alloc (.cells #[.int .u8 (dn)] 5)).ownsRow w.heap.size 5 1 _ o.length (cellsU o):=World.ownsRow.alloc H.out.2.2.2.1 _;have hsz:w.heap.size<=wr.heap.size:=H.out.2.2.2.2.2.2.size;go_wp2_with (at_builtin;refine wpList_append_own2 _ rfl (.tmp 50) (.tmp 56) 63 rfl w.heap.size 5 i0 (.int .u8 0) 1 1 Tryz.underlying63 hi hz0 hz1 hz2 rfl (by decide) _ _ _ rfl hOa ⟨wr.heap.size,0,none⟩ 1 1 [.int .u8 (dn)] rfl rfl HNW.out (by simp[Value.oneCell']) (by unfold maxLen;omega) (by omega) (by simp<;>omega) ?_);intro v2 W2 hown hgrow hblk;have hkx:Kept (fun k=>k<w.heap.size) wr W2:=((Kept.refl _ wr).alloc (fun k h=>Nat.lt_of_lt_of_le h hsz) _).grown hgrow (fun k h=>by simp;omega) (fun k e h=>by have:=(hOa.lt k e).1;omega);have hO2:W2.ownsRow w.heap.size 5 1 v2 (o++[d]).length (cellsU (o++[d])):=by rw[List.length_append,hcd];exact hown
      have hR2:=H.out.2.2.2.2.1.kept hkx hRl;have hS2:=H.out.2.2.2.2.2.1.kept hkx hSl;have hK2:=H.out.2.2.2.2.2.2.trans (hkx.mono (fun k h=>h.1));clear hown hgrow hblk HNW hOa hkx c0;have c0:=hR2.cell (i:=0) rfl;have zR:=hR2.frozen;have lR:=hR2.lt;obtain⟨g2,cap2,hv2⟩:=owns_form hO2;subst hv2;have hS3:=hS2.off (B':=R) 0 (.string (bs qd)) (fun e=>hne e.symm);have hR3:=hR2.set 0 (.string (bs qd));have hO3:=owns_kept (S:=fun k=>w.heap.size<=k) hO2 ((Kept.refl _ W2).setCell (p:=⟨R,0,none⟩) (fun h=>by have:w.heap.size<=R:=h;omega) (.string (bs qd))) (fun k e=>(hO2.lt k e).1);have hK3:=hK2.setCell (p:=⟨R,0,none⟩) (fun h=>h.2.1 rfl) (.string (bs qd));have HG:Hid (LtAt R S x LT w (o++[d]) qd (p+0) (.slice g2 (o++[d]).length cap2) _):=HQD.out ▸ H.out.go HST.out HKK.out hO3 (HQD.out.symm ▸ hR3) hS3 hK3;clear hS3 hR3 hO3 hK3;have HMS:Hid (qd.length<q.length):=by show _<_;rw[<-HQD.out,List.length_drop];have:=hql;omega
      have HRW:Hid (Row wr R 78 #[.string (bs q)]):=H.out.2.2.2.2.1;clear hR2 hS2 hK2 hO2 H;go_wp2;go_roundw
      case rel=>exact⟨o++[d],qd,_,HG⟩
      case measure=>rw[rLen_row HG.out.2.2.2.2.1,rLen_row HRW.out];exact HMS.out
    ·have hc92:¬ c=92:=fun e=>h92 ((hcU 92 (by omega)).2 e);have g92:((cn:Int)==92)=false:=by simp;omega
     rw[if_neg hc92] at HLS;clear hd1 hx2 hsq;have hs1:(1:Int)<=((bs q).size:Int):=by omega
     rw[hx1'.out] at hx1;obtain⟨s0,s1,s2,s3,s4,s5,s6,s7,s8,s9,s10⟩:=Row.sec (show Row wr S 33 #[_,_,_,_,_,_,_,_,_,_,_] from hSr);clear s0 s1 s2 s3 s4 s5 s6 s7 s8 s9;by_cases h37:cn=37
     ·have hc:c=37:=(hcU 37 (by omega)).1 h37;have g37:((cn:Int)==37)=true:=by simp;omega
      rw[if_pos hc] at HLS;have hcn37:cn=37:=h37;cases htx:x.tx with
      | true =>
       rw[htx] at s10;have HST:Hid (litStep x.tx q=none):=by rw[htx] at HLS ⊢;exact HLS
       have hcv:=conv_own H.out.2.2.2.1;clear htx hcU h34 h92 h37 hcn37;have HF:Hid (LT=(o,p,q)):=H.out.fin HST.out;clear HST;go_wp2;try rw[Exit.noGoto_ret]
       go_ret;rw[HF.out];exact⟨rfl,H.out.2.2.2.2.1,H.out.2.2.2.2.2.1,H.out.2.2.2.2.2.2⟩
      | false =>
       rw[htx] at s10;have HST:Hid (litStep x.tx q=some ([37],1,1)):=by rw[htx] at HLS ⊢;exact HLS
       have HKK:Hid (([37]:List UInt8).length+1<=q.length+([37]:List UInt8).length/\([37]:List UInt8).length<=1/\1<=1/\1<=1):=⟨by simp;omega,by decide,by decide,by decide⟩;clear htx hcU h34 h92 h37;subst hcn37;obtain⟨qd,hqd⟩:∃qd,q.drop 1=qd:=⟨_,rfl⟩;have HQD:Hid (q.drop 1=qd):=hqd;have hxq:(bs q).extract 1 (bs q).size=bs qd:=by rw[bs_drop,hqd]
       clear hqd hx1 hx1';have HNW:Hid _:=newB wr (37);have hOa:(wr.alloc (.cells #[.int .u8 (37)] 5)).ownsRow w.heap.size 5 1 _ o.length (cellsU o):=World.ownsRow.alloc H.out.2.2.2.1 _;have hsz:w.heap.size<=wr.heap.size:=H.out.2.2.2.2.2.2.size;go_wp2_with (at_builtin;refine wpList_append_own2 _ rfl (.tmp 64) (.tmp 66) 63 rfl w.heap.size 5 i0 (.int .u8 0) 1 1 Tryz.underlying63 hi hz0 hz1 hz2 rfl (by decide) _ _ _ rfl hOa ⟨wr.heap.size,0,none⟩ 1 1 [.int .u8 (37)] rfl rfl HNW.out (by simp[Value.oneCell']) (by unfold maxLen;omega) (by omega) (by simp<;>omega) ?_);intro v2 W2 hown hgrow hblk;have hkx:Kept (fun k=>k<w.heap.size) wr W2:=((Kept.refl _ wr).alloc (fun k h=>Nat.lt_of_lt_of_le h hsz) _).grown hgrow (fun k h=>by simp;omega) (fun k e h=>by have:=(hOa.lt k e).1;omega);have hO2:W2.ownsRow w.heap.size 5 1 v2 (o++[37]).length (cellsU (o++[37])):=by rw[List.length_append,cellsU_snoc];exact hown
       have hR2:=H.out.2.2.2.2.1.kept hkx hRl;have hS2:=H.out.2.2.2.2.2.1.kept hkx hSl;have hK2:=H.out.2.2.2.2.2.2.trans (hkx.mono (fun k h=>h.1));clear hown hgrow hblk HNW hOa hkx c0;have c0:=hR2.cell (i:=0) rfl;have zR:=hR2.frozen;have lR:=hR2.lt;obtain⟨g2,cap2,hv2⟩:=owns_form hO2;subst hv2;obtain⟨pn,hpn⟩:∃pn:Nat,x.pc+p=pn:=⟨_,rfl⟩;have hS2':Row W2 S 33 #[.string (bs x.bf),.string (bs x.af),.int .i64 (x.wh:Int),.int .i64 (x.ze:Int),.bool x.pt,.int .i64 (x.pa:Int),.int .i64 (x.pz:Int),.bool x.gr,.int .i64 (pn:Int),.bool x.dg,.bool x.tx]:=by rw[<-hpn];exact hS2
       obtain⟨s0,s1,s2,s3,s4,s5,s6,s7,s8,s9,s10⟩:=hS2'.sec;have zS:=hS2.frozen;have lS:=hS2.lt;have hS3:Row ((W2.setCell ⟨S,8,none⟩ (.int .i64 ((pn:Int)+1))).setCell ⟨R,0,none⟩ (.string (bs qd))) S 33 (Sec.cells { x with pc:=x.pc+(p+1) }):=by
        have h3:=(hS2'.set 8 (.int .i64 ((pn:Int)+1))).off (B':=R) 0 (.string (bs qd)) (fun e=>hne e.symm);have e:((x.pc+(p+1):Nat):Int)=(pn:Int)+1:=by omega
        unfold Sec.cells;simp only;rw[e];exact h3
       have hR3:=(hR2.off (B':=S) 8 (.int .i64 ((pn:Int)+1)) hne).set 0 (.string (bs qd));have hO3:=owns_kept (S:=fun k=>w.heap.size<=k) hO2 (((Kept.refl _ W2).setCell (p:=⟨S,8,none⟩) (fun h=>by have:w.heap.size<=S:=h;omega) (.int .i64 ((pn:Int)+1))).setCell (p:=⟨R,0,none⟩) (fun h=>by have:w.heap.size<=R:=h;omega) (.string (bs qd))) (fun k e=>(hO2.lt k e).1);have hK3:=(hK2.setCell (p:=⟨S,8,none⟩) (fun h=>h.2.2 rfl) (.int .i64 ((pn:Int)+1))).setCell (p:=⟨R,0,none⟩) (fun h=>h.2.1 rfl) (.string (bs qd));have hpb:(pn:Int)<=200:=by have:=H.out.2.2.1;omega
       have HG:Hid (LtAt R S x LT w (o++[37]) qd (p+1) (.slice g2 (o++[37]).length cap2) _):=HQD.out ▸ H.out.go HST.out HKK.out hO3 (HQD.out.symm ▸ hR3) hS3 hK3;clear hS3 hR3 hO3 hK3 hS2' hpn;have HMS:Hid (qd.length<q.length):=by show _<_;rw[<-HQD.out,List.length_drop];have:=hql;omega
       have HRW:Hid (Row wr R 78 #[.string (bs q)]):=H.out.2.2.2.2.1;clear hR2 hS2 hK2 hO2 H;go_wp2;go_roundw
       case rel=>exact⟨o++[37],qd,_,HG⟩
       case measure=>rw[rLen_row HG.out.2.2.2.2.1,rLen_row HRW.out];exact HMS.out
     ·have hc37:¬ c=37:=fun e=>h37 ((hcU 37 (by omega)).2 e);have g37:((cn:Int)==37)=false:=by simp;omega
      rw[if_neg hc37] at HLS;by_cases h64:cn=64
      ·have hc:c=64:=(hcU 64 (by omega)).1 h64;have g64:((cn:Int)==64)=true:=by simp;omega
       rw[if_pos hc] at HLS;cases htx:x.tx with
       | true =>
        rw[htx] at s10;have HST:Hid (litStep x.tx q=some ([0],0,1)):=by rw[htx] at HLS ⊢;exact HLS
        have HKK:Hid (([0]:List UInt8).length+1<=q.length+([0]:List UInt8).length/\([0]:List UInt8).length<=1/\0<=1/\1<=1):=⟨by simp;omega,by decide,by decide,by decide⟩;clear htx hcU h34 h92 h37 h64;obtain⟨qd,hqd⟩:∃qd,q.drop 1=qd:=⟨_,rfl⟩;have HQD:Hid (q.drop 1=qd):=hqd;have hxq:(bs q).extract 1 (bs q).size=bs qd:=by rw[bs_drop,hqd]
        clear hqd hx1 hx1';have HNW:Hid _:=newB wr (0);have hOa:(wr.alloc (.cells #[.int .u8 (0)] 5)).ownsRow w.heap.size 5 1 _ o.length (cellsU o):=World.ownsRow.alloc H.out.2.2.2.1 _;have hsz:w.heap.size<=wr.heap.size:=H.out.2.2.2.2.2.2.size;go_wp2_with (at_builtin;refine wpList_append_own2 _ rfl (.tmp 82) (.tmp 83) 63 rfl w.heap.size 5 i0 (.int .u8 0) 1 1 Tryz.underlying63 hi hz0 hz1 hz2 rfl (by decide) _ _ _ rfl hOa ⟨wr.heap.size,0,none⟩ 1 1 [.int .u8 (0)] rfl rfl HNW.out (by simp[Value.oneCell']) (by unfold maxLen;omega) (by omega) (by simp<;>omega) ?_);intro v2 W2 hown hgrow hblk;have hkx:Kept (fun k=>k<w.heap.size) wr W2:=((Kept.refl _ wr).alloc (fun k h=>Nat.lt_of_lt_of_le h hsz) _).grown hgrow (fun k h=>by simp;omega) (fun k e h=>by have:=(hOa.lt k e).1;omega);have hO2:W2.ownsRow w.heap.size 5 1 v2 (o++[0]).length (cellsU (o++[0])):=by rw[List.length_append,cellsU_snoc];exact hown
        have hR2:=H.out.2.2.2.2.1.kept hkx hRl;have hS2:=H.out.2.2.2.2.2.1.kept hkx hSl;have hK2:=H.out.2.2.2.2.2.2.trans (hkx.mono (fun k h=>h.1));clear hown hgrow hblk HNW hOa hkx c0;have c0:=hR2.cell (i:=0) rfl;have zR:=hR2.frozen;have lR:=hR2.lt;obtain⟨g2,cap2,hv2⟩:=owns_form hO2;subst hv2;have hS3:=hS2.off (B':=R) 0 (.string (bs qd)) (fun e=>hne e.symm);have hR3:=hR2.set 0 (.string (bs qd));have hO3:=owns_kept (S:=fun k=>w.heap.size<=k) hO2 ((Kept.refl _ W2).setCell (p:=⟨R,0,none⟩) (fun h=>by have:w.heap.size<=R:=h;omega) (.string (bs qd))) (fun k e=>(hO2.lt k e).1);have hK3:=hK2.setCell (p:=⟨R,0,none⟩) (fun h=>h.2.1 rfl) (.string (bs qd));have HG:Hid (LtAt R S x LT w (o++[0]) qd (p+0) (.slice g2 (o++[0]).length cap2) _):=HQD.out ▸ H.out.go HST.out HKK.out hO3 (HQD.out.symm ▸ hR3) hS3 hK3;clear hS3 hR3 hO3 hK3;have HMS:Hid (qd.length<q.length):=by show _<_;rw[<-HQD.out,List.length_drop];have:=hql;omega
        have HRW:Hid (Row wr R 78 #[.string (bs q)]):=H.out.2.2.2.2.1;clear hR2 hS2 hK2 hO2 H;go_wp2;go_roundw
        case rel=>exact⟨o++[0],qd,_,HG⟩
        case measure=>rw[rLen_row HG.out.2.2.2.2.1,rLen_row HRW.out];exact HMS.out
       | false =>
        rw[htx] at s10;have HST:Hid (litStep x.tx q=none):=by rw[htx] at HLS ⊢;exact HLS
        have hcv:=conv_own H.out.2.2.2.1;clear htx hcU h34 h92 h37 h64;have HF:Hid (LT=(o,p,q)):=H.out.fin HST.out;clear HST;go_wp2;try rw[Exit.noGoto_ret]
        go_ret;rw[HF.out];exact⟨rfl,H.out.2.2.2.2.1,H.out.2.2.2.2.2.1,H.out.2.2.2.2.2.2⟩
      ·have hc64:¬ c=64:=fun e=>h64 ((hcU 64 (by omega)).2 e);have g64:((cn:Int)==64)=false:=by simp;omega
       rw[if_neg hc64] at HLS;have hcc:∀l:List UInt8,cellsU (l++[c])=cellsU l++[.int .u8 (cn:Int)]:=fun l=>by rw[cellsU_snoc,HCN.out]
       have HKK:Hid (([c]:List UInt8).length+1<=q.length+([c]:List UInt8).length/\([c]:List UInt8).length<=1/\0<=1/\1<=1):=⟨by simp;omega,by simp,by decide,by decide⟩;by_cases h32:cn=32
       ·have hc:c=32:=(hcU 32 (by omega)).1 h32;have g32:((cn:Int)==32)=true:=by simp;omega
        have HST:Hid (litStep x.tx q=some ([c],0,1)):=by show _=_;rw[HLS.out,if_pos (by rw[hc];rfl)]
        clear hcU h34 h92 h37 h64;clear hc HLS h32;obtain⟨qd,hqd⟩:∃qd,q.drop 1=qd:=⟨_,rfl⟩;have HQD:Hid (q.drop 1=qd):=hqd;have hxq:(bs q).extract 1 (bs q).size=bs qd:=by rw[bs_drop,hqd]
        clear hqd hx1 hx1';have HNW:Hid _:=newB wr (cn);have hOa:(wr.alloc (.cells #[.int .u8 (cn)] 5)).ownsRow w.heap.size 5 1 _ o.length (cellsU o):=World.ownsRow.alloc H.out.2.2.2.1 _;have hsz:w.heap.size<=wr.heap.size:=H.out.2.2.2.2.2.2.size;go_wp2_with (at_builtin;refine wpList_append_own2 _ rfl (.tmp 94) (.tmp 96) 63 rfl w.heap.size 5 i0 (.int .u8 0) 1 1 Tryz.underlying63 hi hz0 hz1 hz2 rfl (by decide) _ _ _ rfl hOa ⟨wr.heap.size,0,none⟩ 1 1 [.int .u8 (cn)] rfl rfl HNW.out (by simp[Value.oneCell']) (by unfold maxLen;omega) (by omega) (by simp<;>omega) ?_);intro v2 W2 hown hgrow hblk;have hkx:Kept (fun k=>k<w.heap.size) wr W2:=((Kept.refl _ wr).alloc (fun k h=>Nat.lt_of_lt_of_le h hsz) _).grown hgrow (fun k h=>by simp;omega) (fun k e h=>by have:=(hOa.lt k e).1;omega);have hO2:W2.ownsRow w.heap.size 5 1 v2 (o++[c]).length (cellsU (o++[c])):=by rw[List.length_append,hcc];exact hown
        have hR2:=H.out.2.2.2.2.1.kept hkx hRl;have hS2:=H.out.2.2.2.2.2.1.kept hkx hSl;have hK2:=H.out.2.2.2.2.2.2.trans (hkx.mono (fun k h=>h.1));clear hown hgrow hblk HNW hOa hkx c0;have c0:=hR2.cell (i:=0) rfl;have zR:=hR2.frozen;have lR:=hR2.lt;obtain⟨g2,cap2,hv2⟩:=owns_form hO2;subst hv2;have hS3:=hS2.off (B':=R) 0 (.string (bs qd)) (fun e=>hne e.symm);have hR3:=hR2.set 0 (.string (bs qd));have hO3:=owns_kept (S:=fun k=>w.heap.size<=k) hO2 ((Kept.refl _ W2).setCell (p:=⟨R,0,none⟩) (fun h=>by have:w.heap.size<=R:=h;omega) (.string (bs qd))) (fun k e=>(hO2.lt k e).1);have hK3:=hK2.setCell (p:=⟨R,0,none⟩) (fun h=>h.2.1 rfl) (.string (bs qd));have HG:Hid (LtAt R S x LT w (o++[c]) qd (p+0) (.slice g2 (o++[c]).length cap2) _):=HQD.out ▸ H.out.go HST.out HKK.out hO3 (HQD.out.symm ▸ hR3) hS3 hK3;clear hS3 hR3 hO3 hK3;have HMS:Hid (qd.length<q.length):=by show _<_;rw[<-HQD.out,List.length_drop];have:=hql;omega
        have HRW:Hid (Row wr R 78 #[.string (bs q)]):=H.out.2.2.2.2.1;clear hR2 hS2 hK2 hO2 H;go_wp2;go_roundw
        case rel=>exact⟨o++[c],qd,_,HG⟩
        case measure=>rw[rLen_row HG.out.2.2.2.2.1,rLen_row HRW.out];exact HMS.out
       ·have hc32:¬ c=32:=fun e=>h32 ((hcU 32 (by omega)).2 e);have g32:((cn:Int)==32)=false:=by simp;omega
        by_cases h36:cn=36
        ·have hc:c=36:=(hcU 36 (by omega)).1 h36;have g36:((cn:Int)==36)=true:=by simp;omega
         have HST:Hid (litStep x.tx q=some ([c],0,1)):=by show _=_;rw[HLS.out,if_pos (by rw[hc];rfl)]
         clear hcU h34 h92 h37 h64 h32;clear hc HLS h36;obtain⟨qd,hqd⟩:∃qd,q.drop 1=qd:=⟨_,rfl⟩;have HQD:Hid (q.drop 1=qd):=hqd;have hxq:(bs q).extract 1 (bs q).size=bs qd:=by rw[bs_drop,hqd]
         clear hqd hx1 hx1';have HNW:Hid _:=newB wr (cn);have hOa:(wr.alloc (.cells #[.int .u8 (cn)] 5)).ownsRow w.heap.size 5 1 _ o.length (cellsU o):=World.ownsRow.alloc H.out.2.2.2.1 _;have hsz:w.heap.size<=wr.heap.size:=H.out.2.2.2.2.2.2.size;go_wp2_with (at_builtin;refine wpList_append_own2 _ rfl (.tmp 94) (.tmp 96) 63 rfl w.heap.size 5 i0 (.int .u8 0) 1 1 Tryz.underlying63 hi hz0 hz1 hz2 rfl (by decide) _ _ _ rfl hOa ⟨wr.heap.size,0,none⟩ 1 1 [.int .u8 (cn)] rfl rfl HNW.out (by simp[Value.oneCell']) (by unfold maxLen;omega) (by omega) (by simp<;>omega) ?_);intro v2 W2 hown hgrow hblk;have hkx:Kept (fun k=>k<w.heap.size) wr W2:=((Kept.refl _ wr).alloc (fun k h=>Nat.lt_of_lt_of_le h hsz) _).grown hgrow (fun k h=>by simp;omega) (fun k e h=>by have:=(hOa.lt k e).1;omega);have hO2:W2.ownsRow w.heap.size 5 1 v2 (o++[c]).length (cellsU (o++[c])):=by rw[List.length_append,hcc];exact hown
         have hR2:=H.out.2.2.2.2.1.kept hkx hRl;have hS2:=H.out.2.2.2.2.2.1.kept hkx hSl;have hK2:=H.out.2.2.2.2.2.2.trans (hkx.mono (fun k h=>h.1));clear hown hgrow hblk HNW hOa hkx c0;have c0:=hR2.cell (i:=0) rfl;have zR:=hR2.frozen;have lR:=hR2.lt;obtain⟨g2,cap2,hv2⟩:=owns_form hO2;subst hv2;have hS3:=hS2.off (B':=R) 0 (.string (bs qd)) (fun e=>hne e.symm);have hR3:=hR2.set 0 (.string (bs qd));have hO3:=owns_kept (S:=fun k=>w.heap.size<=k) hO2 ((Kept.refl _ W2).setCell (p:=⟨R,0,none⟩) (fun h=>by have:w.heap.size<=R:=h;omega) (.string (bs qd))) (fun k e=>(hO2.lt k e).1);have hK3:=hK2.setCell (p:=⟨R,0,none⟩) (fun h=>h.2.1 rfl) (.string (bs qd));have HG:Hid (LtAt R S x LT w (o++[c]) qd (p+0) (.slice g2 (o++[c]).length cap2) _):=HQD.out ▸ H.out.go HST.out HKK.out hO3 (HQD.out.symm ▸ hR3) hS3 hK3;clear hS3 hR3 hO3 hK3;have HMS:Hid (qd.length<q.length):=by show _<_;rw[<-HQD.out,List.length_drop];have:=hql;omega
         have HRW:Hid (Row wr R 78 #[.string (bs q)]):=H.out.2.2.2.2.1;clear hR2 hS2 hK2 hO2 H;go_wp2;go_roundw
         case rel=>exact⟨o++[c],qd,_,HG⟩
         case measure=>rw[rLen_row HG.out.2.2.2.2.1,rLen_row HRW.out];exact HMS.out
        ·have hc36:¬ c=36:=fun e=>h36 ((hcU 36 (by omega)).2 e);have g36:((cn:Int)==36)=false:=by simp;omega
         by_cases h45:cn=45
         ·have hc:c=45:=(hcU 45 (by omega)).1 h45;have g45:((cn:Int)==45)=true:=by simp;omega
          have HST:Hid (litStep x.tx q=some ([c],0,1)):=by show _=_;rw[HLS.out,if_pos (by rw[hc];rfl)]
          clear hcU h34 h92 h37 h64 h32 h36;clear hc HLS h45;obtain⟨qd,hqd⟩:∃qd,q.drop 1=qd:=⟨_,rfl⟩;have HQD:Hid (q.drop 1=qd):=hqd;have hxq:(bs q).extract 1 (bs q).size=bs qd:=by rw[bs_drop,hqd]
          clear hqd hx1 hx1';have HNW:Hid _:=newB wr (cn);have hOa:(wr.alloc (.cells #[.int .u8 (cn)] 5)).ownsRow w.heap.size 5 1 _ o.length (cellsU o):=World.ownsRow.alloc H.out.2.2.2.1 _;have hsz:w.heap.size<=wr.heap.size:=H.out.2.2.2.2.2.2.size;go_wp2_with (at_builtin;refine wpList_append_own2 _ rfl (.tmp 94) (.tmp 96) 63 rfl w.heap.size 5 i0 (.int .u8 0) 1 1 Tryz.underlying63 hi hz0 hz1 hz2 rfl (by decide) _ _ _ rfl hOa ⟨wr.heap.size,0,none⟩ 1 1 [.int .u8 (cn)] rfl rfl HNW.out (by simp[Value.oneCell']) (by unfold maxLen;omega) (by omega) (by simp<;>omega) ?_);intro v2 W2 hown hgrow hblk;have hkx:Kept (fun k=>k<w.heap.size) wr W2:=((Kept.refl _ wr).alloc (fun k h=>Nat.lt_of_lt_of_le h hsz) _).grown hgrow (fun k h=>by simp;omega) (fun k e h=>by have:=(hOa.lt k e).1;omega);have hO2:W2.ownsRow w.heap.size 5 1 v2 (o++[c]).length (cellsU (o++[c])):=by rw[List.length_append,hcc];exact hown
          have hR2:=H.out.2.2.2.2.1.kept hkx hRl;have hS2:=H.out.2.2.2.2.2.1.kept hkx hSl;have hK2:=H.out.2.2.2.2.2.2.trans (hkx.mono (fun k h=>h.1));clear hown hgrow hblk HNW hOa hkx c0;have c0:=hR2.cell (i:=0) rfl;have zR:=hR2.frozen;have lR:=hR2.lt;obtain⟨g2,cap2,hv2⟩:=owns_form hO2;subst hv2;have hS3:=hS2.off (B':=R) 0 (.string (bs qd)) (fun e=>hne e.symm);have hR3:=hR2.set 0 (.string (bs qd));have hO3:=owns_kept (S:=fun k=>w.heap.size<=k) hO2 ((Kept.refl _ W2).setCell (p:=⟨R,0,none⟩) (fun h=>by have:w.heap.size<=R:=h;omega) (.string (bs qd))) (fun k e=>(hO2.lt k e).1);have hK3:=hK2.setCell (p:=⟨R,0,none⟩) (fun h=>h.2.1 rfl) (.string (bs qd));have HG:Hid (LtAt R S x LT w (o++[c]) qd (p+0) (.slice g2 (o++[c]).length cap2) _):=HQD.out ▸ H.out.go HST.out HKK.out hO3 (HQD.out.symm ▸ hR3) hS3 hK3;clear hS3 hR3 hO3 hK3;have HMS:Hid (qd.length<q.length):=by show _<_;rw[<-HQD.out,List.length_drop];have:=hql;omega
          have HRW:Hid (Row wr R 78 #[.string (bs q)]):=H.out.2.2.2.2.1;clear hR2 hS2 hK2 hO2 H;go_wp2;go_roundw
          case rel=>exact⟨o++[c],qd,_,HG⟩
          case measure=>rw[rLen_row HG.out.2.2.2.2.1,rLen_row HRW.out];exact HMS.out
         ·have hc45:¬ c=45:=fun e=>h45 ((hcU 45 (by omega)).2 e);have g45:((cn:Int)==45)=false:=by simp;omega
          by_cases h43:cn=43
          ·have hc:c=43:=(hcU 43 (by omega)).1 h43;have g43:((cn:Int)==43)=true:=by simp;omega
           have HST:Hid (litStep x.tx q=some ([c],0,1)):=by show _=_;rw[HLS.out,if_pos (by rw[hc];rfl)]
           clear hcU h34 h92 h37 h64 h32 h36 h45;clear hc HLS h43;obtain⟨qd,hqd⟩:∃qd,q.drop 1=qd:=⟨_,rfl⟩;have HQD:Hid (q.drop 1=qd):=hqd;have hxq:(bs q).extract 1 (bs q).size=bs qd:=by rw[bs_drop,hqd]
           clear hqd hx1 hx1';have HNW:Hid _:=newB wr (cn);have hOa:(wr.alloc (.cells #[.int .u8 (cn)] 5)).ownsRow w.heap.size 5 1 _ o.length (cellsU o):=World.ownsRow.alloc H.out.2.2.2.1 _;have hsz:w.heap.size<=wr.heap.size:=H.out.2.2.2.2.2.2.size;go_wp2_with (at_builtin;refine wpList_append_own2 _ rfl (.tmp 94) (.tmp 96) 63 rfl w.heap.size 5 i0 (.int .u8 0) 1 1 Tryz.underlying63 hi hz0 hz1 hz2 rfl (by decide) _ _ _ rfl hOa ⟨wr.heap.size,0,none⟩ 1 1 [.int .u8 (cn)] rfl rfl HNW.out (by simp[Value.oneCell']) (by unfold maxLen;omega) (by omega) (by simp<;>omega) ?_);intro v2 W2 hown hgrow hblk;have hkx:Kept (fun k=>k<w.heap.size) wr W2:=((Kept.refl _ wr).alloc (fun k h=>Nat.lt_of_lt_of_le h hsz) _).grown hgrow (fun k h=>by simp;omega) (fun k e h=>by have:=(hOa.lt k e).1;omega);have hO2:W2.ownsRow w.heap.size 5 1 v2 (o++[c]).length (cellsU (o++[c])):=by rw[List.length_append,hcc];exact hown
           have hR2:=H.out.2.2.2.2.1.kept hkx hRl;have hS2:=H.out.2.2.2.2.2.1.kept hkx hSl;have hK2:=H.out.2.2.2.2.2.2.trans (hkx.mono (fun k h=>h.1));clear hown hgrow hblk HNW hOa hkx c0;have c0:=hR2.cell (i:=0) rfl;have zR:=hR2.frozen;have lR:=hR2.lt;obtain⟨g2,cap2,hv2⟩:=owns_form hO2;subst hv2;have hS3:=hS2.off (B':=R) 0 (.string (bs qd)) (fun e=>hne e.symm);have hR3:=hR2.set 0 (.string (bs qd));have hO3:=owns_kept (S:=fun k=>w.heap.size<=k) hO2 ((Kept.refl _ W2).setCell (p:=⟨R,0,none⟩) (fun h=>by have:w.heap.size<=R:=h;omega) (.string (bs qd))) (fun k e=>(hO2.lt k e).1);have hK3:=hK2.setCell (p:=⟨R,0,none⟩) (fun h=>h.2.1 rfl) (.string (bs qd));have HG:Hid (LtAt R S x LT w (o++[c]) qd (p+0) (.slice g2 (o++[c]).length cap2) _):=HQD.out ▸ H.out.go HST.out HKK.out hO3 (HQD.out.symm ▸ hR3) hS3 hK3;clear hS3 hR3 hO3 hK3;have HMS:Hid (qd.length<q.length):=by show _<_;rw[<-HQD.out,List.length_drop];have:=hql;omega
           have HRW:Hid (Row wr R 78 #[.string (bs q)]):=H.out.2.2.2.2.1;clear hR2 hS2 hK2 hO2 H;go_wp2;go_roundw
           case rel=>exact⟨o++[c],qd,_,HG⟩
           case measure=>rw[rLen_row HG.out.2.2.2.2.1,rLen_row HRW.out];exact HMS.out
          ·have hc43:¬ c=43:=fun e=>h43 ((hcU 43 (by omega)).2 e);have g43:((cn:Int)==43)=false:=by simp;omega
           by_cases h40:cn=40
           ·have hc:c=40:=(hcU 40 (by omega)).1 h40;have g40:((cn:Int)==40)=true:=by simp;omega
            have HST:Hid (litStep x.tx q=some ([c],0,1)):=by show _=_;rw[HLS.out,if_pos (by rw[hc];rfl)]
            clear hcU h34 h92 h37 h64 h32 h36 h45 h43;clear hc HLS h40;obtain⟨qd,hqd⟩:∃qd,q.drop 1=qd:=⟨_,rfl⟩;have HQD:Hid (q.drop 1=qd):=hqd;have hxq:(bs q).extract 1 (bs q).size=bs qd:=by rw[bs_drop,hqd]
            clear hqd hx1 hx1';have HNW:Hid _:=newB wr (cn);have hOa:(wr.alloc (.cells #[.int .u8 (cn)] 5)).ownsRow w.heap.size 5 1 _ o.length (cellsU o):=World.ownsRow.alloc H.out.2.2.2.1 _;have hsz:w.heap.size<=wr.heap.size:=H.out.2.2.2.2.2.2.size;go_wp2_with (at_builtin;refine wpList_append_own2 _ rfl (.tmp 94) (.tmp 96) 63 rfl w.heap.size 5 i0 (.int .u8 0) 1 1 Tryz.underlying63 hi hz0 hz1 hz2 rfl (by decide) _ _ _ rfl hOa ⟨wr.heap.size,0,none⟩ 1 1 [.int .u8 (cn)] rfl rfl HNW.out (by simp[Value.oneCell']) (by unfold maxLen;omega) (by omega) (by simp<;>omega) ?_);intro v2 W2 hown hgrow hblk;have hkx:Kept (fun k=>k<w.heap.size) wr W2:=((Kept.refl _ wr).alloc (fun k h=>Nat.lt_of_lt_of_le h hsz) _).grown hgrow (fun k h=>by simp;omega) (fun k e h=>by have:=(hOa.lt k e).1;omega);have hO2:W2.ownsRow w.heap.size 5 1 v2 (o++[c]).length (cellsU (o++[c])):=by rw[List.length_append,hcc];exact hown
            have hR2:=H.out.2.2.2.2.1.kept hkx hRl;have hS2:=H.out.2.2.2.2.2.1.kept hkx hSl;have hK2:=H.out.2.2.2.2.2.2.trans (hkx.mono (fun k h=>h.1));clear hown hgrow hblk HNW hOa hkx c0;have c0:=hR2.cell (i:=0) rfl;have zR:=hR2.frozen;have lR:=hR2.lt;obtain⟨g2,cap2,hv2⟩:=owns_form hO2;subst hv2;have hS3:=hS2.off (B':=R) 0 (.string (bs qd)) (fun e=>hne e.symm);have hR3:=hR2.set 0 (.string (bs qd));have hO3:=owns_kept (S:=fun k=>w.heap.size<=k) hO2 ((Kept.refl _ W2).setCell (p:=⟨R,0,none⟩) (fun h=>by have:w.heap.size<=R:=h;omega) (.string (bs qd))) (fun k e=>(hO2.lt k e).1);have hK3:=hK2.setCell (p:=⟨R,0,none⟩) (fun h=>h.2.1 rfl) (.string (bs qd));have HG:Hid (LtAt R S x LT w (o++[c]) qd (p+0) (.slice g2 (o++[c]).length cap2) _):=HQD.out ▸ H.out.go HST.out HKK.out hO3 (HQD.out.symm ▸ hR3) hS3 hK3;clear hS3 hR3 hO3 hK3;have HMS:Hid (qd.length<q.length):=by show _<_;rw[<-HQD.out,List.length_drop];have:=hql;omega
            have HRW:Hid (Row wr R 78 #[.string (bs q)]):=H.out.2.2.2.2.1;clear hR2 hS2 hK2 hO2 H;go_wp2;go_roundw
            case rel=>exact⟨o++[c],qd,_,HG⟩
            case measure=>rw[rLen_row HG.out.2.2.2.2.1,rLen_row HRW.out];exact HMS.out
           ·have hc40:¬ c=40:=fun e=>h40 ((hcU 40 (by omega)).2 e);have g40:((cn:Int)==40)=false:=by simp;omega
            by_cases h41:cn=41
            ·have hc:c=41:=(hcU 41 (by omega)).1 h41;have g41:((cn:Int)==41)=true:=by simp;omega
             have HST:Hid (litStep x.tx q=some ([c],0,1)):=by show _=_;rw[HLS.out,if_pos (by rw[hc];rfl)]
             clear hcU h34 h92 h37 h64 h32 h36 h45 h43 h40;clear hc HLS h41;obtain⟨qd,hqd⟩:∃qd,q.drop 1=qd:=⟨_,rfl⟩;have HQD:Hid (q.drop 1=qd):=hqd;have hxq:(bs q).extract 1 (bs q).size=bs qd:=by rw[bs_drop,hqd]
             clear hqd hx1 hx1';have HNW:Hid _:=newB wr (cn);have hOa:(wr.alloc (.cells #[.int .u8 (cn)] 5)).ownsRow w.heap.size 5 1 _ o.length (cellsU o):=World.ownsRow.alloc H.out.2.2.2.1 _;have hsz:w.heap.size<=wr.heap.size:=H.out.2.2.2.2.2.2.size;go_wp2_with (at_builtin;refine wpList_append_own2 _ rfl (.tmp 94) (.tmp 96) 63 rfl w.heap.size 5 i0 (.int .u8 0) 1 1 Tryz.underlying63 hi hz0 hz1 hz2 rfl (by decide) _ _ _ rfl hOa ⟨wr.heap.size,0,none⟩ 1 1 [.int .u8 (cn)] rfl rfl HNW.out (by simp[Value.oneCell']) (by unfold maxLen;omega) (by omega) (by simp<;>omega) ?_);intro v2 W2 hown hgrow hblk;have hkx:Kept (fun k=>k<w.heap.size) wr W2:=((Kept.refl _ wr).alloc (fun k h=>Nat.lt_of_lt_of_le h hsz) _).grown hgrow (fun k h=>by simp;omega) (fun k e h=>by have:=(hOa.lt k e).1;omega);have hO2:W2.ownsRow w.heap.size 5 1 v2 (o++[c]).length (cellsU (o++[c])):=by rw[List.length_append,hcc];exact hown
             have hR2:=H.out.2.2.2.2.1.kept hkx hRl;have hS2:=H.out.2.2.2.2.2.1.kept hkx hSl;have hK2:=H.out.2.2.2.2.2.2.trans (hkx.mono (fun k h=>h.1));clear hown hgrow hblk HNW hOa hkx c0;have c0:=hR2.cell (i:=0) rfl;have zR:=hR2.frozen;have lR:=hR2.lt;obtain⟨g2,cap2,hv2⟩:=owns_form hO2;subst hv2;have hS3:=hS2.off (B':=R) 0 (.string (bs qd)) (fun e=>hne e.symm);have hR3:=hR2.set 0 (.string (bs qd));have hO3:=owns_kept (S:=fun k=>w.heap.size<=k) hO2 ((Kept.refl _ W2).setCell (p:=⟨R,0,none⟩) (fun h=>by have:w.heap.size<=R:=h;omega) (.string (bs qd))) (fun k e=>(hO2.lt k e).1);have hK3:=hK2.setCell (p:=⟨R,0,none⟩) (fun h=>h.2.1 rfl) (.string (bs qd));have HG:Hid (LtAt R S x LT w (o++[c]) qd (p+0) (.slice g2 (o++[c]).length cap2) _):=HQD.out ▸ H.out.go HST.out HKK.out hO3 (HQD.out.symm ▸ hR3) hS3 hK3;clear hS3 hR3 hO3 hK3;have HMS:Hid (qd.length<q.length):=by show _<_;rw[<-HQD.out,List.length_drop];have:=hql;omega
             have HRW:Hid (Row wr R 78 #[.string (bs q)]):=H.out.2.2.2.2.1;clear hR2 hS2 hK2 hO2 H;go_wp2;go_roundw
             case rel=>exact⟨o++[c],qd,_,HG⟩
             case measure=>rw[rLen_row HG.out.2.2.2.2.1,rLen_row HRW.out];exact HMS.out
            ·have hc41:¬ c=41:=fun e=>h41 ((hcU 41 (by omega)).2 e);have g41:((cn:Int)==41)=false:=by simp;omega
             by_cases h47:cn=47
             ·have hc:c=47:=(hcU 47 (by omega)).1 h47;have g47:((cn:Int)==47)=true:=by simp;omega
              have HST:Hid (litStep x.tx q=some ([c],0,1)):=by show _=_;rw[HLS.out,if_pos (by rw[hc];rfl)]
              clear hcU h34 h92 h37 h64 h32 h36 h45 h43 h40 h41;clear hc HLS h47;obtain⟨qd,hqd⟩:∃qd,q.drop 1=qd:=⟨_,rfl⟩;have HQD:Hid (q.drop 1=qd):=hqd;have hxq:(bs q).extract 1 (bs q).size=bs qd:=by rw[bs_drop,hqd]
              clear hqd hx1 hx1';have HNW:Hid _:=newB wr (cn);have hOa:(wr.alloc (.cells #[.int .u8 (cn)] 5)).ownsRow w.heap.size 5 1 _ o.length (cellsU o):=World.ownsRow.alloc H.out.2.2.2.1 _;have hsz:w.heap.size<=wr.heap.size:=H.out.2.2.2.2.2.2.size;go_wp2_with (at_builtin;refine wpList_append_own2 _ rfl (.tmp 94) (.tmp 96) 63 rfl w.heap.size 5 i0 (.int .u8 0) 1 1 Tryz.underlying63 hi hz0 hz1 hz2 rfl (by decide) _ _ _ rfl hOa ⟨wr.heap.size,0,none⟩ 1 1 [.int .u8 (cn)] rfl rfl HNW.out (by simp[Value.oneCell']) (by unfold maxLen;omega) (by omega) (by simp<;>omega) ?_);intro v2 W2 hown hgrow hblk;have hkx:Kept (fun k=>k<w.heap.size) wr W2:=((Kept.refl _ wr).alloc (fun k h=>Nat.lt_of_lt_of_le h hsz) _).grown hgrow (fun k h=>by simp;omega) (fun k e h=>by have:=(hOa.lt k e).1;omega);have hO2:W2.ownsRow w.heap.size 5 1 v2 (o++[c]).length (cellsU (o++[c])):=by rw[List.length_append,hcc];exact hown
              have hR2:=H.out.2.2.2.2.1.kept hkx hRl;have hS2:=H.out.2.2.2.2.2.1.kept hkx hSl;have hK2:=H.out.2.2.2.2.2.2.trans (hkx.mono (fun k h=>h.1));clear hown hgrow hblk HNW hOa hkx c0;have c0:=hR2.cell (i:=0) rfl;have zR:=hR2.frozen;have lR:=hR2.lt;obtain⟨g2,cap2,hv2⟩:=owns_form hO2;subst hv2;have hS3:=hS2.off (B':=R) 0 (.string (bs qd)) (fun e=>hne e.symm);have hR3:=hR2.set 0 (.string (bs qd));have hO3:=owns_kept (S:=fun k=>w.heap.size<=k) hO2 ((Kept.refl _ W2).setCell (p:=⟨R,0,none⟩) (fun h=>by have:w.heap.size<=R:=h;omega) (.string (bs qd))) (fun k e=>(hO2.lt k e).1);have hK3:=hK2.setCell (p:=⟨R,0,none⟩) (fun h=>h.2.1 rfl) (.string (bs qd));have HG:Hid (LtAt R S x LT w (o++[c]) qd (p+0) (.slice g2 (o++[c]).length cap2) _):=HQD.out ▸ H.out.go HST.out HKK.out hO3 (HQD.out.symm ▸ hR3) hS3 hK3;clear hS3 hR3 hO3 hK3;have HMS:Hid (qd.length<q.length):=by show _<_;rw[<-HQD.out,List.length_drop];have:=hql;omega
              have HRW:Hid (Row wr R 78 #[.string (bs q)]):=H.out.2.2.2.2.1;clear hR2 hS2 hK2 hO2 H;go_wp2;go_roundw
              case rel=>exact⟨o++[c],qd,_,HG⟩
              case measure=>rw[rLen_row HG.out.2.2.2.2.1,rLen_row HRW.out];exact HMS.out
             ·have hc47:¬ c=47:=fun e=>h47 ((hcU 47 (by omega)).2 e);have g47:((cn:Int)==47)=false:=by simp;omega
              by_cases h58:cn=58
              ·have hc:c=58:=(hcU 58 (by omega)).1 h58;have g58:((cn:Int)==58)=true:=by simp;omega
               have HST:Hid (litStep x.tx q=some ([c],0,1)):=by show _=_;rw[HLS.out,if_pos (by rw[hc];rfl)]
               clear hcU h34 h92 h37 h64 h32 h36 h45 h43 h40 h41 h47;clear hc HLS h58;obtain⟨qd,hqd⟩:∃qd,q.drop 1=qd:=⟨_,rfl⟩;have HQD:Hid (q.drop 1=qd):=hqd;have hxq:(bs q).extract 1 (bs q).size=bs qd:=by rw[bs_drop,hqd]
               clear hqd hx1 hx1';have HNW:Hid _:=newB wr (cn);have hOa:(wr.alloc (.cells #[.int .u8 (cn)] 5)).ownsRow w.heap.size 5 1 _ o.length (cellsU o):=World.ownsRow.alloc H.out.2.2.2.1 _;have hsz:w.heap.size<=wr.heap.size:=H.out.2.2.2.2.2.2.size;go_wp2_with (at_builtin;refine wpList_append_own2 _ rfl (.tmp 94) (.tmp 96) 63 rfl w.heap.size 5 i0 (.int .u8 0) 1 1 Tryz.underlying63 hi hz0 hz1 hz2 rfl (by decide) _ _ _ rfl hOa ⟨wr.heap.size,0,none⟩ 1 1 [.int .u8 (cn)] rfl rfl HNW.out (by simp[Value.oneCell']) (by unfold maxLen;omega) (by omega) (by simp<;>omega) ?_);intro v2 W2 hown hgrow hblk;have hkx:Kept (fun k=>k<w.heap.size) wr W2:=((Kept.refl _ wr).alloc (fun k h=>Nat.lt_of_lt_of_le h hsz) _).grown hgrow (fun k h=>by simp;omega) (fun k e h=>by have:=(hOa.lt k e).1;omega);have hO2:W2.ownsRow w.heap.size 5 1 v2 (o++[c]).length (cellsU (o++[c])):=by rw[List.length_append,hcc];exact hown
               have hR2:=H.out.2.2.2.2.1.kept hkx hRl;have hS2:=H.out.2.2.2.2.2.1.kept hkx hSl;have hK2:=H.out.2.2.2.2.2.2.trans (hkx.mono (fun k h=>h.1));clear hown hgrow hblk HNW hOa hkx c0;have c0:=hR2.cell (i:=0) rfl;have zR:=hR2.frozen;have lR:=hR2.lt;obtain⟨g2,cap2,hv2⟩:=owns_form hO2;subst hv2;have hS3:=hS2.off (B':=R) 0 (.string (bs qd)) (fun e=>hne e.symm);have hR3:=hR2.set 0 (.string (bs qd));have hO3:=owns_kept (S:=fun k=>w.heap.size<=k) hO2 ((Kept.refl _ W2).setCell (p:=⟨R,0,none⟩) (fun h=>by have:w.heap.size<=R:=h;omega) (.string (bs qd))) (fun k e=>(hO2.lt k e).1);have hK3:=hK2.setCell (p:=⟨R,0,none⟩) (fun h=>h.2.1 rfl) (.string (bs qd));have HG:Hid (LtAt R S x LT w (o++[c]) qd (p+0) (.slice g2 (o++[c]).length cap2) _):=HQD.out ▸ H.out.go HST.out HKK.out hO3 (HQD.out.symm ▸ hR3) hS3 hK3;clear hS3 hR3 hO3 hK3;have HMS:Hid (qd.length<q.length):=by show _<_;rw[<-HQD.out,List.length_drop];have:=hql;omega
               have HRW:Hid (Row wr R 78 #[.string (bs q)]):=H.out.2.2.2.2.1;clear hR2 hS2 hK2 hO2 H;go_wp2;go_roundw
               case rel=>exact⟨o++[c],qd,_,HG⟩
               case measure=>rw[rLen_row HG.out.2.2.2.2.1,rLen_row HRW.out];exact HMS.out
              ·have hc58:¬ c=58:=fun e=>h58 ((hcU 58 (by omega)).2 e);have g58:((cn:Int)==58)=false:=by simp;omega
               have HST:Hid (litStep x.tx q=none):=by show _=_;rw[HLS.out,if_neg (by unfold litC;simp[hc32,hc36,hc45,hc43,hc40,hc41,hc47,hc58])]
               have hcv:=conv_own H.out.2.2.2.1;clear hcU h34 h92 h37 h64 h32 h36 h45 h43 h40 h41 h47 h58 hc32 hc36 hc45 hc43 hc40 hc41 hc47 hc58 HLS;have HF:Hid (LT=(o,p,q)):=H.out.fin HST.out;clear HST;go_wp2;try rw[Exit.noGoto_ret]
               go_ret;rw[HF.out];exact⟨rfl,H.out.2.2.2.2.1,H.out.2.2.2.2.2.1,H.out.2.2.2.2.2.2⟩
set_option maxRecDepth 100000
set_option maxHeartbeats 8000000
open Go.RowKit Go.Shelf
theorem noughts_any (n:Int) (hn:n<=1000) (w:World):Calls Tryz.prog 85 #[.int .i64 n] w fun r w'=>r=.returned (.string (bs (Lib.repeatL [48] n.toNat)))/\Below w.heap.size w w':=by
 have HR:∀ V,Hid (Calls Tryz.prog 114 #[.string ⟨#[48]⟩,.int .i64 (max n 0)] V fun e w'=>e=.returned (.string (bs (Lib.repeatL [48] n.toNat)))/\Below V.heap.size V w'):=fun V=>by have:=Tryz.strings_Repeat (bs [48]) n.toNat V (by omega) (by rw[bs_size];simp;omega);rw[show ((n.toNat:Nat):Int)=max n 0 by omega] at this;exact this
 generalize Lib.repeatL [48] n.toNat=R at *;clear hn;go_enter Tryz.func85,Tryz.ntmps85;go_wp2_with fail;refine Calls.mono (HR _).out ?_;rintro _ w1 ⟨rfl,b1⟩;go_wp2;go_ret;exact⟨rfl,b1⟩
def grpF (L : Nat) : Nat → List UInt8 → List UInt8
  | _, [] => []
  | i, c :: r => (if 0 < i ∧ (L - i) % 3 = 0 then [44, c] else [c]) ++ grpF L (i + 1) r
def groupL (l : List UInt8) : List UInt8 := grpF l.length 0 l
def GrAt (l G : List UInt8) (w : World) (k : Nat) (o : List UInt8) (v : Value) (W : World) : Prop :=
  G = o ++ grpF l.length k (l.drop k) ∧ o.length ≤ 2 * k ∧ k ≤ l.length ∧ W.ownsRow w.heap.size 5 1 v o.length (cellsU o) ∧ Below w.heap.size w W
theorem GrAt.go {l G:List UInt8} {w:World} {k:Nat} {o:List UInt8} {v:Value} {W:World} (h:GrAt l G w k o v W) (hk:k<l.length) {a:List UInt8} (ha:a=if 0<k/\(l.length-k) % 3=0 then [44,l[k]] else [l[k]]) {v':Value} {W':World} (hO:W'.ownsRow w.heap.size 5 1 v' (o++a).length (cellsU (o++a))) (hB:Below w.heap.size w W'):GrAt l G w (k+1) (o++a) v' W':=by
 obtain⟨e,h1,h2,_⟩:=h;refine⟨?_,?_,hk,hO,hB⟩
 ·rw[e,List.drop_eq_getElem_cons hk,grpF,<-ha,List.append_assoc]
 ·have:a.length<=2:=by rw[ha];split<;>simp
  rw[List.length_append];omega
theorem grouped_any (l:List UInt8) (hl:l.length<=200) (w:World):Calls Tryz.prog 86 #[.string (bs l)] w fun r w'=>r=.returned (.string (bs (groupL l)))/\Below w.heap.size w w':=by
 obtain⟨G,hG⟩:∃ G,groupL l=G:=⟨_,rfl⟩;rw[hG];have h0:Hid (GrAt l G w 0 [] (.slice none 0 0) w):=⟨by rw[<-hG];rfl,by simp,Nat.zero_le _,World.ownsRow_nil _ _ _ _,Below.refl _ w⟩;have HSL:Hid ((bs l).size=l.length):=bs_size l;have s1:(bs l).size<=200:=by rw[bs_size];exact hl
 clear hG;go_enter Tryz.func86,Tryz.ntmps86;go_wp2;go_loopw [3,7] (fun v3 v7 wr=>∃(k:Nat) (o:List UInt8),v7=.int .i64 (k:Int)/\Hid (GrAt l G w k o v3 wr)) (fun _ v7 _=>l.length-(intOf v7).toNat)
 case atStart=>exact⟨0,[],rfl,h0⟩
 case round =>
  clear h0;obtain⟨k,o,rfl,H⟩:=hrel;have hkl:=H.out.2.2.1;have hol:=H.out.2.1;obtain⟨g5,cap5,hv5⟩:=owns_form H.out.2.2.2.1;subst hv5;obtain⟨i0,hi,hzz⟩:=Option.map_eq_some_iff.1 Tryz.info5;simp only[Prod.mk.injEq] at hzz;obtain⟨hz0,hz1,hz2⟩:=hzz;have hOwr:=H.out.2.2.2.1;have hBwr:=H.out.2.2.2.2;by_cases hlt:k<(bs l).size
  ·have hlt2:k<l.length:=by rw[<-HSL.out];exact hlt
   obtain⟨cn,hcn⟩:∃cn:Nat,((bs l)[k]'hlt).toNat=cn:=⟨_,rfl⟩;have hcc:∀z:List UInt8,cellsU (z++[l[k]])=cellsU z++[.int .u8 (cn:Int)]:=fun z=>by rw[cellsU_snoc];rw[show l[k].toNat=cn from hcn]
   have hk2:(k:Int)<200:=by omega
   by_cases hk0:0<k
   ·have gk:(0:Int)<(k:Int):=by omega
    by_cases h3:(l.length-k) % 3=0
    ·have HYE:Hid (0<k/\(l.length-k) % 3=0):=⟨hk0,h3⟩;have g3:((((bs l).size:Int)-(k:Int)) % 3==0)=true:=by rw[HSL.out];simp;omega
     clear hk0 h3;have HNWxa:Hid _:=newB wr (44);have hOaxa:(wr.alloc (.cells #[.int .u8 (44)] 5)).ownsRow w.heap.size 5 1 _ o.length (cellsU o):=World.ownsRow.alloc hOwr _;have hBaxa:=hBwr.alloc hBwr.size (.cells #[.int .u8 (44)] 5);have hszxa:=hBwr.size;go_wp2_with (at_builtin;refine wpList_append_own2 _ rfl (.tmp 20) (.tmp 21) 63 rfl w.heap.size 5 i0 (.int .u8 0) 1 1 Tryz.underlying63 hi hz0 hz1 hz2 rfl (by decide) _ _ _ rfl hOaxa ⟨wr.heap.size,0,none⟩ 1 1 [.int .u8 (44)] rfl rfl HNWxa.out (by simp[Value.oneCell']) (by unfold maxLen;omega) (by omega) (by simp<;>omega) ?_);intro vxa xa hown hgrow hblk;have hBxa:Below w.heap.size w xa:=hBaxa.grown hgrow hBaxa.size (fun k e=>(hOaxa.lt k e).1);have hOxa:xa.ownsRow w.heap.size 5 1 vxa (o++[44]).length (cellsU (o++[44])):=by rw[List.length_append,cellsU_snoc];exact hown
     clear hown hgrow hblk HNWxa hOaxa hBaxa hszxa;obtain⟨gxa,capxa,hvxa⟩:=owns_form hOxa;subst hvxa;generalize hoo:o++[44]=o2 at *;have hol2:o2.length<=2*k+1:=by rw[<-hoo];simp;omega
     have HOO:Hid (o++[44]=o2):=hoo;clear hoo;have HNWxb:Hid _:=newB xa (cn);have hOaxb:(xa.alloc (.cells #[.int .u8 (cn)] 5)).ownsRow w.heap.size 5 1 _ o2.length (cellsU o2):=World.ownsRow.alloc hOxa _;have hBaxb:=hBxa.alloc hBxa.size (.cells #[.int .u8 (cn)] 5);have hszxb:=hBxa.size;go_wp2_with (at_builtin;refine wpList_append_own2 _ rfl (.tmp 23) (.tmp 27) 63 rfl w.heap.size 5 i0 (.int .u8 0) 1 1 Tryz.underlying63 hi hz0 hz1 hz2 rfl (by decide) _ _ _ rfl hOaxb ⟨xa.heap.size,0,none⟩ 1 1 [.int .u8 (cn)] rfl rfl HNWxb.out (by simp[Value.oneCell']) (by unfold maxLen;omega) (by omega) (by simp<;>omega) ?_);intro vxb xb hown hgrow hblk;have hBxb:Below w.heap.size w xb:=hBaxb.grown hgrow hBaxb.size (fun k e=>(hOaxb.lt k e).1);have hOxb:xb.ownsRow w.heap.size 5 1 vxb (o2++[l[k]]).length (cellsU (o2++[l[k]])):=by rw[List.length_append,hcc];exact hown
     clear hown hgrow hblk HNWxb hOaxb hBaxb hszxb;obtain⟨gxb,capxb,hvxb⟩:=owns_form hOxb;subst hvxb;have HG:Hid (GrAt l G w (k+1) (o2++[l[k]]) (.slice gxb (o2++[l[k]]).length capxb) xb):=by
      have e:o2++[l[k]]=o++[44,l[k]]:=by rw[<-HOO.out];simp
      rw[e] at hOxb ⊢;exact H.out.go hlt2 (by rw[if_pos HYE.out]) hOxb hBxb
     have HLT:Hid (k<l.length):=hlt2;clear hOxb hBxb hBxa hOxa hBwr hOwr H;go_wp2;go_roundw
     case rel=>exact⟨k+1,_,by go_num,HG⟩
     case measure=>have:=HLT.out;simp[intOf];omega
    ·have HNO:Hid (¬ (0<k/\(l.length-k) % 3=0)):=fun h=>h3 h.2;have g3:((((bs l).size:Int)-(k:Int)) % 3==0)=false:=by rw[HSL.out];simp;omega
     clear hk0 h3;have HNWxa:Hid _:=newB wr (cn);have hOaxa:(wr.alloc (.cells #[.int .u8 (cn)] 5)).ownsRow w.heap.size 5 1 _ o.length (cellsU o):=World.ownsRow.alloc hOwr _;have hBaxa:=hBwr.alloc hBwr.size (.cells #[.int .u8 (cn)] 5);have hszxa:=hBwr.size;go_wp2_with (at_builtin;refine wpList_append_own2 _ rfl (.tmp 23) (.tmp 27) 63 rfl w.heap.size 5 i0 (.int .u8 0) 1 1 Tryz.underlying63 hi hz0 hz1 hz2 rfl (by decide) _ _ _ rfl hOaxa ⟨wr.heap.size,0,none⟩ 1 1 [.int .u8 (cn)] rfl rfl HNWxa.out (by simp[Value.oneCell']) (by unfold maxLen;omega) (by omega) (by simp<;>omega) ?_);intro vxa xa hown hgrow hblk;have hBxa:Below w.heap.size w xa:=hBaxa.grown hgrow hBaxa.size (fun k e=>(hOaxa.lt k e).1);have hOxa:xa.ownsRow w.heap.size 5 1 vxa (o++[l[k]]).length (cellsU (o++[l[k]])):=by rw[List.length_append,hcc];exact hown
     clear hown hgrow hblk HNWxa hOaxa hBaxa hszxa;obtain⟨gxa,capxa,hvxa⟩:=owns_form hOxa;subst hvxa;have HG:Hid (GrAt l G w (k+1) (o++[l[k]]) (.slice gxa (o++[l[k]]).length capxa) xa):=H.out.go hlt2 (by rw[if_neg HNO.out]) hOxa hBxa;have HLT:Hid (k<l.length):=hlt2;clear hOxa hBxa hBwr hOwr H;go_wp2;go_roundw
     case rel=>exact⟨k+1,_,by go_num,HG⟩
     case measure=>have:=HLT.out;simp[intOf];omega
   ·have HNO:Hid (¬ (0<k/\(l.length-k) % 3=0)):=fun h=>hk0 h.1;have gk:¬ (0:Int)<(k:Int):=by omega
    have gk2:decide ((0:Int)<(k:Int))=false:=decide_eq_false gk;clear hk0;have HNWxa:Hid _:=newB wr (cn);have hOaxa:(wr.alloc (.cells #[.int .u8 (cn)] 5)).ownsRow w.heap.size 5 1 _ o.length (cellsU o):=World.ownsRow.alloc hOwr _;have hBaxa:=hBwr.alloc hBwr.size (.cells #[.int .u8 (cn)] 5);have hszxa:=hBwr.size;go_wp2_with (at_builtin;refine wpList_append_own2 _ rfl (.tmp 23) (.tmp 27) 63 rfl w.heap.size 5 i0 (.int .u8 0) 1 1 Tryz.underlying63 hi hz0 hz1 hz2 rfl (by decide) _ _ _ rfl hOaxa ⟨wr.heap.size,0,none⟩ 1 1 [.int .u8 (cn)] rfl rfl HNWxa.out (by simp[Value.oneCell']) (by unfold maxLen;omega) (by omega) (by simp<;>omega) ?_);intro vxa xa hown hgrow hblk;have hBxa:Below w.heap.size w xa:=hBaxa.grown hgrow hBaxa.size (fun k e=>(hOaxa.lt k e).1);have hOxa:xa.ownsRow w.heap.size 5 1 vxa (o++[l[k]]).length (cellsU (o++[l[k]])):=by rw[List.length_append,hcc];exact hown
    clear hown hgrow hblk HNWxa hOaxa hBaxa hszxa;obtain⟨gxa,capxa,hvxa⟩:=owns_form hOxa;subst hvxa;have HG:Hid (GrAt l G w (k+1) (o++[l[k]]) (.slice gxa (o++[l[k]]).length capxa) xa):=H.out.go hlt2 (by rw[if_neg HNO.out]) hOxa hBxa;have HLT:Hid (k<l.length):=hlt2;clear hOxa hBxa hBwr hOwr H;go_wp2;go_roundw
    case rel=>exact⟨k+1,_,by go_num,HG⟩
    case measure=>have:=HLT.out;simp[intOf];omega
  ·have HF:Hid (G=o):=by show _=_;rw[H.out.1,List.drop_eq_nil_of_le (by have:=HSL.out;omega)];simp[grpF]
   have hge:¬ (k:Int)<((bs l).size:Int):=by omega
   have hcv:=conv_own hOwr;go_wp2;go_ret;rw[HF.out];exact⟨rfl,hBwr⟩
end Go.Proofs.YtoncpcdepemlcaaGreatDoor
