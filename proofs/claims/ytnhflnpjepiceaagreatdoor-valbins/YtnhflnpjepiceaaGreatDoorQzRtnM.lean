import Derived.Test.YtnhflnpjepiceaaGreatDoorPqzM
import Derived.BigRegion
namespace Go.Proofs.YtnhflnpjepiceaaGreatDoor
set_option maxRecDepth 100000
set_option maxHeartbeats 4000000
open Go.RowKit
theorem make41b (n:Nat) (hn:n<=3000) (w:World):(Instr.makeSlice 71 (.int .i64 (n:Int)) (.int .i64 (n:Int))).run Tryz.prog w=.ok (.slice (some ⟨w.heap.size,0,none⟩) n n) (w.alloc (.cells (madeCells #[.int .i64 0] n) 3)):=by
 obtain⟨i0,hi,hzz⟩:=Option.map_eq_some_iff.1 Tryz.info3;simp only[Prod.mk.injEq] at hzz;obtain⟨hz0,hz1,hz2⟩:=hzz;have:=run_makeSlice (P:=Tryz.prog) w 71 3 i0 _ Tryz.underlying71 hi hz0 .i64 .i64 (n:Int) (n:Int) (by omega) (by omega) (by rw[hz1];simp;omega) (by rw[hz2];omega) (by omega);rw[hz1] at this;simpa [Value.cells] using this
theorem times_digs (na nb:Bool) (sa sb:Value) (da db:List Int) (w:World) (hA:zr w sa da) (hB:zr w sb db) (ga:DgL da) (gb:DgL db) (la:da.length<=1400) (lb:db.length<=40):Calls Tryz.prog 120 #[bv na sa,bv nb sb] w fun r w'=>∃v',r=.returned v'/\(∃ps,DgL ps/\zi ps=zi da*zi db/\zR w' (zV (na != nb) ps) v')/\jb w.heap.size v'/\Below w.heap.size w w':=by
 obtain⟨_,a1,c1,rfl,_,_⟩:=id hA;obtain⟨_,a2,c2,rfl,_,_⟩:=id hB;have HA:Hid (zr w (.slice a1 da.length c1) da):=hA;have HB:Hid (zr w (.slice a2 db.length c2) db):=hB;have HGA:Hid (DgL da):=ga;have HGB:Hid (DgL db):=gb;unfold bv;clear hA hB ga gb;obtain⟨n,hn⟩:∃n,da.length+db.length+1=n:=⟨_,rfl⟩;have mk0:∀ W:World,(Instr.makeSlice 71 (.int .i64 ((da.length:Int)+(db.length:Int)+1)) (.int .i64 ((da.length:Int)+(db.length:Int)+1))).run Tryz.prog W=.ok (.slice (some ⟨W.heap.size,0,none⟩) n n) (W.alloc (.cells (xp (List.replicate n 0)) 3)):=fun W=>by rw[<-hn,<-dcell_zeros];exact make41b (da.length+db.length+1) (by omega) W
 go_enter Tryz.func120,Tryz.ntmps120;go_wp2_with fail;have r1:=((Row.new w 73 #[.bool na,.slice a1 da.length c1]).alloc (.cells #[.bool nb,.slice a2 db.length c2] 73)).alloc (.cells #[.bool false,.slice none 0 0] 73);have r2:=(Row.new1 w (.cells #[.bool na,.slice a1 da.length c1] 73) 73 #[.bool nb,.slice a2 db.length c2]).alloc (.cells #[.bool false,.slice none 0 0] 73);have r3:=Row.new ((w.alloc (.cells #[.bool na,.slice a1 da.length c1] 73)).alloc (.cells #[.bool nb,.slice a2 db.length c2] 73)) 73 #[.bool false,.slice none 0 0];have hB0:=(((Below.refl _ w).alloc (Nat.le_refl _) (.cells #[.bool na,.slice a1 da.length c1] 73)).alloc (by simp) (.cells #[.bool nb,.slice a2 db.length c2] 73)).alloc (by simp;omega) (.cells #[.bool false,.slice none 0 0] 73);have hWs:((((w.alloc (.cells #[.bool na,.slice a1 da.length c1] 73)).alloc (.cells #[.bool nb,.slice a2 db.length c2] 73)).alloc (.cells #[.bool false,.slice none 0 0] 73))).heap.size=w.heap.size+1+1+1:=by simp
 simp only[World.size_alloc] at r3;generalize ((w.alloc (.cells #[.bool na,.slice a1 da.length c1] 73)).alloc (.cells #[.bool nb,.slice a2 db.length c2] 73)).alloc (.cells #[.bool false,.slice none 0 0] 73)=W at *;have mk:=mk0 W;rw[hWs] at mk;have HT0:Hid (TiSt w na nb (.slice a1 da.length c1) (.slice a2 db.length c2) (List.replicate n 0) (W.alloc (.cells (xp (List.replicate n 0)) 3))):=⟨r1.alloc _,r2.alloc _,r3.alloc _,by rw[<-hWs];exact Row.new W 3 _,hB0.alloc hB0.size _⟩;obtain⟨d0,d1⟩:=r1.duo;obtain⟨e0,e1⟩:=r2.duo;clear mk0;go_wp2_with fail;clear d0 d1 e0 e1 r1 r2 r3 hB0 mk;generalize W.alloc (.cells (xp (List.replicate n 0)) 3)=W1 at *;clear hWs;obtain⟨D,hD⟩:∃ D,w.heap.size+1+1+1=D:=⟨_,rfl⟩;have HDe:Hid (w.heap.size+1+1+1=D):=hD;rw[hD];clear hD;go_loopw [6,7,8] (fun v6 v7 v8 wr=>∃(i:Nat) (ds:List Int),i<=da.length/\v6=.int .i64 (i:Int)/\ds.length=n/\Hid (OuAt da db ds i)/\Hid (TiSt w na nb (.slice a1 da.length c1) (.slice a2 db.length c2) ds wr)) (fun v6 _ _ _=>da.length-(intOf v6).toNat)
 case atStart=>exact⟨0,List.replicate n 0,Nat.zero_le _,rfl,List.length_replicate,OuAt.start _ _ _,HT0⟩
 case round =>
  obtain⟨i,ds,hi,rfl,hl,HO,HT⟩:=hrel;clear HT0;obtain⟨d0,d1⟩:=HT.out.ra.duo;obtain⟨e0,e1⟩:=HT.out.rb.duo;by_cases hi2:i<da.length
  ·obtain⟨b1,o1,rfl,hb1,hx0⟩:=HA.out.1.at i hi2;obtain⟨x,hx⟩:∃x,da[i]?.getD 0=x:=⟨_,rfl⟩;have hxb:=HGA.out.get i;rw[hx] at hx0 hxb;have HX:Hid (∀ V,Below w.heap.size w V->V.cell? ⟨b1,o1+i,none⟩=some (.int .i64 x)):=fun V hV=>(World.cell?_of_block (w:=w) (a:=⟨b1,o1+i,none⟩) (hV.block b1 hb1)).trans hx0;have HXE:Hid (da[i]?.getD 0=x):=hx;have HP0:Hid (PrAt (zi (da.take i)*zi db) x i db ds 0):=by
    have:=HO.out.first
    rw[hx] at this;exact this
   clear hx hx0 hb1;go_wp2_with fail;clear d0 d1 e0 e1;go_loopw [7] (fun v7 wk=>∃(k:Nat) (es:List Int),k<=db.length/\v7=.int .i64 (k:Int)/\es.length=n/\Hid (PrAt (zi (da.take i)*zi db) x i db es k)/\Hid (TiSt w na nb (.slice (some ⟨b1,o1,none⟩) da.length c1) (.slice a2 db.length c2) es wk)) (fun v7 _=>db.length-(intOf v7).toNat)
   case atStart=>exact⟨0,ds,Nat.zero_le _,rfl,hl,HP0,HT⟩
   case round =>
    clear HP0 HT HO hl;obtain⟨k,es,hk,rfl,hes,HPr,HT⟩:=hrel;obtain⟨wk,hwk⟩:∃wk,wk=wr:=⟨_,rfl⟩;clear hwk;by_cases hk2:k<db.length
    ·obtain⟨b2,o2,rfl,hb2,hy0⟩:=HB.out.1.at k hk2;obtain⟨y,hy⟩:∃y,db[k]?.getD 0=y:=⟨_,rfl⟩;have hyb:=HGB.out.get k;rw[hy] at hy0 hyb;obtain⟨m,hm⟩:∃m,i+k=m:=⟨_,rfl⟩;have hmn:m<n:=by omega
     obtain⟨z,hz⟩:∃z,es[m]?.getD 0=z:=⟨_,rfl⟩;have hz1:=HPr.out.lo m;have hz2:=HPr.out.hi m;rw[hz] at hz1 hz2;have hz3:z<=90:=by split at hz2<;>omega
     clear hz2;obtain⟨p,hp⟩:∃p,x*y=p:=⟨_,rfl⟩;have hpb:=mul_dig hxb hyb;rw[hp] at hpb;obtain⟨q,hq⟩:∃q,z+p=q:=⟨_,rfl⟩;have HP2:Hid (PrAt (zi (da.take i)*zi db) x i db (es.set m q) (k+1)):=by have:=HPr.out.step hxb HGB.out hk2 (by rw[hes];omega);rw[hm,hz,hy,hp,hq] at this;exact this
     have w1:IntKind.i64.wrap ((i:Int)+(k:Int))=(m:Int):=by rw[IntKind.wrap_i64];omega
     have w2:IntKind.i64.wrap (x*y)=p:=by rw[hp,IntKind.wrap_i64];omega
     have w3:IntKind.i64.wrap (z+p)=q:=by rw[hq,IntKind.wrap_i64];omega
     have HTd:=HT.out;obtain⟨d0,d1⟩:=HTd.ra.duo;obtain⟨e0,e1⟩:=HTd.rb.duo;have x1:=HX.out _ HTd.be;have y1:wr.cell? ⟨b2,o2+k,none⟩=some (.int .i64 y):=(World.cell?_of_block (w:=w) (a:=⟨b2,o2+k,none⟩) (HTd.be.block b2 hb2)).trans hy0;have z1:=HTd.at m (by rw[hes];exact hmn);have zf:=HTd.rd.frozen m;rw[HDe.out] at z1 zf;rw[hz] at z1;have HT2:Hid (TiSt w na nb (.slice (some ⟨b1,o1,none⟩) da.length c1) (.slice (some ⟨b2,o2,none⟩) db.length c2) (es.set m q) (wr.setCell ⟨D,m,none⟩ (.int .i64 q)).drew):=by have:=(HTd.set m q).drew;rw[HDe.out] at this;exact this
     have hes2:(es.set m q).length=n:=by rw[List.length_set];exact hes
     clear HTd hb2 hy0 hp hq hz hy HPr HT hm;go_wp2_with fail;go_region;all_goals go_wp2
     all_goals go_roundw
     case rel=>exact⟨k+1,es.set m q,by omega,by go_num,hes2,HP2,HT2⟩
     case measure=>simp[intOf];omega
    ·obtain rfl:k=db.length:=by omega
     have HC0:Hid (CaAt (zi (da.take i)*zi db+x*10 ^ i*zi db) es 0):=HPr.out.carry rfl;obtain⟨d0,d1⟩:=HT.out.rb.duo;clear HPr;go_wp2_with fail;clear d0 d1;go_loopw [8] (fun v8 wk=>∃(j:Nat) (fs:List Int),j+1<=n/\v8=.int .i64 (j:Int)/\fs.length=n/\Hid (CaAt (zi (da.take i)*zi db+x*10 ^ i*zi db) fs j)/\Hid (TiSt w na nb (.slice (some ⟨b1,o1,none⟩) da.length c1) (.slice a2 db.length c2) fs wk)) (fun v8 _=>n-(intOf v8).toNat)
     case atStart=>exact⟨0,es,by omega,rfl,hes,HC0,HT⟩
     case round =>
      clear HC0 HT hes;obtain⟨j,fs,hj,rfl,hfs,HC,HT⟩:=hrel;by_cases hj2:j+1<n
      ·have hj3:(j:Int)+1<(n:Int):=by omega
       obtain⟨m,hm⟩:∃m,j+1=m:=⟨_,rfl⟩;have hmn:m<n:=by omega
       obtain⟨u,hu⟩:∃u,fs[j]?.getD 0=u:=⟨_,rfl⟩;obtain⟨z,hz⟩:∃z,fs[m]?.getD 0=z:=⟨_,rfl⟩;have hu1:=HC.out.lo j;have hu2:=HC.out.hi j;have hz1:=HC.out.lo m;have hz2:=HC.out.hi m;rw[hu] at hu1 hu2;rw[hz] at hz1 hz2;have hu3:u<=100:=by split at hu2<;>(try split at hu2)<;>omega
       have hz3:z<=100:=by split at hz2<;>(try split at hz2)<;>omega
       clear hu2 hz2;obtain⟨c,hc⟩:∃c,u.tdiv 10=c:=⟨_,rfl⟩;obtain⟨r,hr⟩:∃r,u.tmod 10=r:=⟨_,rfl⟩;have hcd:c=u / 10:=by rw[<-hc,Int.tdiv_eq_ediv_of_nonneg hu1]
       have hrd:r=u % 10:=by rw[<-hr,Int.tmod_eq_emod_of_nonneg hu1]
       obtain⟨q,hq⟩:∃q,z+c=q:=⟨_,rfl⟩;have HC2:Hid (CaAt (zi (da.take i)*zi db+x*10 ^ i*zi db) ((fs.set m q).set j r) m):=by have:=HC.out.step (by rw[hfs];exact hj2);rw[hm,hz,hu,<-hcd,<-hrd,hq] at this;exact this
       have w1:IntKind.i64.wrap ((j:Int)+1)=(m:Int):=by rw[IntKind.wrap_i64];omega
       have w3:IntKind.i64.wrap (z+c)=q:=by rw[hq,IntKind.wrap_i64];omega
       have hrb:0<=r/\r<=9:=by omega
       have hcb:0<=c/\c<=10:=by omega
       have w4:IntKind.i64.wrap c=c:=by rw[IntKind.wrap_i64];omega
       have w5:IntKind.i64.wrap r=r:=by rw[IntKind.wrap_i64];omega
       have HTd:=HT.out;have z1:=HTd.at m (by rw[hfs];exact hmn);have u1:=HTd.at j (by rw[hfs];omega);have zf:=HTd.rd.frozen m;have HTe:=(HTd.set m q).drew;have u2:=HTe.at j (by rw[List.length_set,hfs];omega);rw[List.getElem?_set_ne (by omega),hu] at u2;have uf:=HTe.rd.frozen j;rw[hz] at z1;rw[hu] at u1;have HT2:Hid (TiSt w na nb (.slice (some ⟨b1,o1,none⟩) da.length c1) (.slice a2 db.length c2) ((fs.set m q).set j r) ((wr.setCell ⟨D,m,none⟩ (.int .i64 q)).drew.setCell ⟨D,j,none⟩ (.int .i64 r))):=by have:=HTe.set j r;rw[HDe.out] at this;exact this
       rw[HDe.out] at z1 zf u1 u2 uf;have HU:Hid ((wr.setCell ⟨D,m,none⟩ (.int .i64 q)).drew.cell? ⟨D,j,none⟩=some (.int .i64 u)):=u2;have HF:Hid ((wr.setCell ⟨D,m,none⟩ (.int .i64 q)).drew.frozen? ⟨D,j,none⟩=false):=uf;have hfs2:((fs.set m q).set j r).length=n:=by rw[List.length_set,List.length_set];exact hfs
       clear HTd HTe hcd hrd hz hu HC HT u2 uf hq;go_wp2_with fail;go_region;all_goals generalize (wr.setCell ⟨D,m,none⟩ (.int .i64 q)).drew=wq at *
       all_goals have u2:=HU.out
       all_goals have uf:=HF.out
       all_goals go_wp2
       all_goals go_roundw
       case rel=>exact⟨m,(fs.set m q).set j r,by omega,by have:=hm;subst this;go_num,hfs2,HC2,HT2⟩
       case measure=>simp[intOf];omega
      ·have hj3:¬ (j:Int)+1<(n:Int):=by omega
       have HN:Hid (OuAt da db fs (i+1)):=by
        refine OuAt.next (k:=j) hi2 HGA.out HGB.out ?_ (by omega) (by omega)
        rw[HXE.out];exact HC.out
       clear HC;go_wp2;go_roundw
       case rel=>exact⟨i+1,fs,by omega,by go_num,hfs,HN,HT⟩
       case measure=>simp[intOf];omega
  ·obtain rfl:i=da.length:=by omega
   have hT:=HT.out;have HD2:Hid (zr wr (.slice (some ⟨D,0,none⟩) n n) ds):=by have:=hT.dg hl;rw[HDe.out] at this;exact this
   have HTR:Hid (∀ng:Bool,Calls Tryz.prog 93 #[.agg #[.bool ng,.slice (some ⟨D,0,none⟩) n n]] wr fun r w'=>∃v,r=.returned v/\zR w' (zV ng ds) v/\jb wr.heap.size v/\Below wr.heap.size wr w'):=fun ng=>kp ng _ ds wr HD2.out HO.out.dg (by omega);have hlt:=hT.rz.lt;have HP:Hid (DgL ds/\zi ds=zi da*zi db):=⟨HO.out.dg,by rw[HO.out.val,List.take_length]⟩;clear HD2 HO;go_wp2_with fail;refine Calls.mono (HTR.out _) ?_;rintro _ w2 ⟨v2,rfl,hV2,hN2,b2⟩;have HNW:Hid (jb w.heap.size v2):=hN2.mono hT.be.size;clear hN2;obtain⟨s2,rfl,hD2⟩:=hV2;obtain⟨_,a3,c3,rfl,_,_⟩:=id hD2;have p2:=hT.rz.below b2 hlt;obtain⟨y0,y1⟩:=p2.duo;have zf:=p2.frozen;obtain⟨sg,HSG⟩:∃sg,Hid (decide (zV (!(na==nb)) ds<0)=sg):=⟨_,rfl⟩;unfold bv;rw[HSG.out];have hBx:=hT.be.trans (b2.mono hT.be.size);have hBe:=za (za hBx (B:=w.heap.size+1+1) 0 (.bool sg) (by omega)) (B:=w.heap.size+1+1) 1 (.slice a3 (digs (zV (!(na==nb)) ds).natAbs).length c3) (by omega);have hZe:=Row.set2 p2 (.bool sg) (.slice a3 (digs (zV (!(na==nb)) ds).natAbs).length c3);have hDe:=hD2.store p2 (.bool sg) (.slice a3 (digs (zV (!(na==nb)) ds).natAbs).length c3);have HZ:Hid _:=hZe;have HE:Hid _:=hBe;have HW:Hid _:=hDe;clear hBe hDe hZe hBx hD2 d0 d1 e0 e1 hT HT HTR;go_wp2;exact bodyPost_ret (zb rfl (g:=w.heap.size+1+1) rfl (xy HZ.out rfl)) rfl ⟨_,rfl,⟨ds,HP.out.1,HP.out.2,_,by show _=bv (decide (zV (!(na==nb)) ds<0)) _;rw[HSG.out];rfl,HW.out⟩,by have:=HNW.out;rw[HSG.out] at this;exact this,HE.out⟩
theorem bval_sign (x y:Int) (ps:List Int) (h:zi ps=(x.natAbs:Int)*(y.natAbs:Int)):zV (decide (x<0) != decide (y<0)) ps=x*y:=by
 unfold zV;rw[h];rcases Int.lt_or_le x 0 with hx|hx<;>rcases Int.lt_or_le y 0 with hy|hy
 ·rw[decide_eq_true hx,decide_eq_true hy,show ((x.natAbs:Int)) = -x by omega,show ((y.natAbs:Int)) = -y by omega,Int.neg_mul_neg];rfl
 ·rw[decide_eq_true hx,decide_eq_false (by omega),show ((x.natAbs:Int)) = -x by omega,show ((y.natAbs:Int))=y by omega,Int.neg_mul];simp
 ·rw[decide_eq_false (by omega),decide_eq_true hy,show ((x.natAbs:Int))=x by omega,show ((y.natAbs:Int)) = -y by omega,Int.mul_neg];simp
 ·rw[decide_eq_false (by omega),decide_eq_false (by omega),show ((x.natAbs:Int))=x by omega,show ((y.natAbs:Int))=y by omega];rfl
theorem Z4 (x y:Int) (v u:Value) (w:World) (hx:zR w x v) (hy:zR w y u) (lx:(digs x.natAbs).length<=1400) (ly:(digs y.natAbs).length<=40):Calls Tryz.prog 120 #[v,u] w fun r w'=>∃v',r=.returned v'/\zR w' (x*y) v'/\jb w.heap.size v'/\Below w.heap.size w w':=by
 obtain⟨sa,rfl,hA⟩:=hx;obtain⟨sb,rfl,hB⟩:=hy;refine(times_digs _ _ sa sb _ _ w hA hB (zA _) (zA _) lx ly).mono ?_;rintro r w' ⟨v',h1,⟨ps,_,h3,h4⟩,hN,h5⟩;rw[zq,zq] at h3;rw[bval_sign x y ps h3] at h4;exact⟨v',h1,h4,hN,h5⟩
theorem rtimes_big (x y:Int) (v u:Value) (w:World) (hx:zR w x v) (hy:zR w y u) (lx:(digs x.natAbs).length<=1400) (ly:(digs y.natAbs).length<=40):Calls Tryz.prog 120 #[v,u] w fun r w'=>∃v',r=.returned v'/\zR w' (x*y) v'/\Below w.heap.size w w':=by
 refine(Z4 x y v u w hx hy lx ly).mono ?_;rintro r w' ⟨v,h1,h2,_,h3⟩;exact⟨v,h1,h2,h3⟩
theorem rtimes_any (x y:Int) (v u:Value) (w:World) (hx:zR w x v) (hy:zR w y u) (lx:(digs x.natAbs).length≤40) (ly:(digs y.natAbs).length≤40):Calls Tryz.prog 120 #[v,u] w fun r w'=>∃v',r=.returned v'∧zR w' (x*y) v'∧Below w.heap.size w w':=rtimes_big x y v u w hx hy (by omega) ly
end Go.Proofs.YtnhflnpjepiceaaGreatDoor
