import Derived.Test.YtoncpcdepemlcaaGreatDoorRat
import Derived.Deep.AppendSrc
namespace Go.Proofs.YtoncpcdepemlcaaGreatDoor
open Go.RowKit
theorem Tryz.info3:(Tryz.prog.info? 3).map (fun i=>(i.zero,i.size,i.bytes))=some (some (.int .i64 0),1,8):=by kernel_rfl
def OwnD (B : Nat) (W : World) (v : Value) (ds : List Int) : Prop := W.ownsRow B 3 1 v ds.length (ds.map (Value.int .i64))
theorem OwnD.below {B:Nat} {W W':World} {v:Value} {ds:List Int} (h:OwnD B W v ds) (hb:Below W.heap.size W W'):OwnD B W' v ds:=owns_kept h (Kept.of_below hb (fun _ hk=>hk)) (fun k hk=>(h.lt k hk).2)
theorem OwnD.form {B:Nat} {W:World} {v:Value} {ds:List Int} (h:OwnD B W v ds):∃g c,v=.slice g ds.length c:=owns_form h
theorem OwnD.ints {B:Nat} {W:World} {v:Value} {ds:List Int} (h:OwnD B W v ds):IntsIn (· < W.heap.size) W v ds:=by
 rcases h.2 with ⟨rfl,hx⟩|⟨g,cap,cur,rfl,h1,h2,_⟩
 ·have:ds=[]:=List.eq_nil_of_length_eq_zero hx;subst this;exact .inl ⟨rfl,_,_,rfl⟩
 ·refine .inr ⟨g,0,cap,rfl,(Array.getElem?_eq_some_iff.1 h2).1,fun j hj => ?_⟩;have:=World.ownsRow.cellAt h j (by omega);rw[Nat.zero_add,this];simp[List.getElem?_eq_getElem hj]
def DgAt (w : World) (sv : Value) (ds : List Int) : Prop := IntsIn (· < w.heap.size) w sv ds ∧ ∃ a c, sv = .slice a ds.length c ∧ ds.length ≤ c ∧ (a = none → c = 0)
theorem DgAt.below {w w':World} {sv:Value} {ds:List Int} (h:DgAt w sv ds) (hb:Below w.heap.size w w'):DgAt w' sv ds:=⟨(h.1.kept (Kept.of_below hb (fun _ hk=>hk))).mono (fun _ hk=>Nat.lt_of_lt_of_le hk hb.size),h.2⟩
theorem dg_nil (w:World):DgAt w (.slice none 0 0) []:=⟨.inl ⟨rfl,_,_,rfl⟩,none,0,rfl,Nat.le_refl _,fun _=>rfl⟩
theorem OwnD.dg {B:Nat} {W:World} {v:Value} {ds:List Int} (h:OwnD B W v ds):DgAt W v ds:=by
 refine⟨h.ints,?_⟩;rcases h.2 with ⟨rfl,hx⟩|⟨g,cap,cur,rfl,h1,h2,h3,_⟩
 ·exact⟨none,0,by rw[hx],by omega,fun _=>rfl⟩
 ·exact⟨_,cap,rfl,h3,fun h=>by cases h⟩
def NewS (lo : Nat) (sv : Value) : Prop := ∀ b off sp n c, sv = .slice (some ⟨b, off, sp⟩) n c → 0 < n → lo ≤ b
theorem NewS.mono {lo lo':Nat} {sv:Value} (h:NewS lo sv) (hl:lo'≤lo):NewS lo' sv:=fun b off sp n c e hn=>Nat.le_trans hl (h b off sp n c e hn)
theorem new_nil (lo:Nat):NewS lo (.slice none 0 0):=fun _ _ _ _ _ e=>by simp at e
theorem OwnD.new {B:Nat} {W:World} {v:Value} {ds:List Int} (h:OwnD B W v ds):NewS B v:=by
 intro b off sp n c e _;rcases h.2 with ⟨rfl,_⟩|⟨g,cap,cur,rfl,h1,_⟩
 ·simp at e
 ·simp only[Value.slice.injEq,Option.some.injEq,Addr.mk.injEq] at e;obtain⟨⟨rfl,_⟩,_⟩:=e;exact h1
def NewV (lo : Nat) (v : Value) : Prop := ∃ ng sv, v = bv ng sv ∧ NewS lo sv
theorem NewV.mono {lo lo':Nat} {v:Value} (h:NewV lo v) (hl:lo'<=lo):NewV lo' v:=by
 obtain⟨ng,sv,e,h⟩:=h;exact⟨ng,sv,e,h.mono hl⟩
theorem NewV.get {lo:Nat} {ng:Bool} {sv:Value} (h:NewV lo (bv ng sv)):NewS lo sv:=by
 obtain⟨ng',sv',e,h⟩:=h;unfold bv at e;simp only[Value.agg.injEq,Array.mk.injEq,List.cons.injEq,and_true] at e;rw[e.2];exact h
theorem OwnD.snoc {B:Nat} {W:World} {v:Value} {ds:List Int} {d:Int} (h:W.ownsRow B 3 1 v (ds.length+1) (ds.map (Value.int .i64)++[.int .i64 d])):OwnD B W v (ds++[d]):=by
 unfold OwnD;rw[List.length_append,List.map_append];exact h
theorem new_one (wr:World) (d:Int):∀(j:Nat) (u:Value),([.int .i64 d]:List Value)[j]? = some u->(wr.alloc (.cells #[.int .i64 d] 3)).cell? ((⟨wr.heap.size,0,none⟩:Addr).add j)=some u:=by
 intro j u hu;have hR:=Row.new wr 3 #[.int .i64 d];have h:=hR.cell (i:=j) (v:=u) (by simpa using hu);rw[Go.WideShapes.add_plain];simpa using h
theorem row_grownO {B:Nat} {A W:World} {v:Value} {n:Nat} {xs:List Value} {K:Nat} {t:TypeId} {cs:Array Value} (hR:Row A K t cs) (ho:A.ownsRow B 3 1 v n xs) (hg:A.grownBy W v.ownBlock) (ht:t≠3):Row W K t cs:=(hg.block K hR.lt (fun e=>row_ne ho hR ht e.symm)).trans hR
theorem below_grownO {B:Nat} {w A W:World} {v:Value} {n:Nat} {xs:List Value} (hB:Below B w A) (hs:B≤A.heap.size) (ho:A.ownsRow B 3 1 v n xs) (hg:A.grownBy W v.ownBlock):Below B w W:=hB.grown hg hs (fun k e=>(ho.lt k e).1)
theorem run_append_nilsrc {P:Program} (w:World) (base:Nat) (t ty e:TypeId) (i:TypeInfo) (size:Nat) (ht:P.underlying t=some (.slice e)) (hi:P.info? e=some i) (v:Value) (n:Nat) (xs:List Value) (hown:w.ownsRow base e size v n xs):(Builtin.append_ #[t,t] ty #[v,.slice none 0 0]).run P w=.ok v w:=by
 rcases hown.2 with ⟨rfl,rfl⟩|⟨g,cap,cur,rfl,hbg,hg,hnc,hcm,hcs,htake⟩
 ·simp[Builtin.append_,run_underlying ht,sizeOf,typeInfo,hi,Builtin.lenOf,Builtin.firstCells]
 ·exact run_append_room_src (P:=P) w t t ty e i ht hi g 0 n cap (.slice none 0 0) 0 [] (Src.ofNil w ht 0) (by omega) (fun j hj=>by simp at hj) (fun j hj=>by simp at hj)
theorem wpList_append_dg (w:World) {ops:Array Oper} {rest:List Oper} {o:Oper} {a:Act} {Q:Exit->Act->World->Prop} (hgd:o.guard=none) (s x:Operand) (ho:o.op=.call { callee:=.builtin .append,args:=#[s,x],argTypes:=#[70,70] }) (base:Nat) (v:Value) (n:Nat) (xs:List Value) (hs:a.eval s=v) (hown:w.ownsRow base 3 1 v n xs) (sv:Value) (ds:List Int) (hx:a.eval x=sv) (hD:DgAt w sv ds) (hl:n+ds.length<=100000) (hbase:base<=w.heap.size) (h:∀v' w',w'.ownsRow base 3 1 v' (n+ds.length) (xs++ds.map (Value.int .i64))->w.grownBy w' v.ownBlock->wpList Tryz.prog ops Q rest (a.put o.dst v') w'):wpList Tryz.prog ops Q (o::rest) a w:=by
 obtain⟨i0,hi,hzz⟩:=Option.map_eq_some_iff.1 Tryz.info3;simp only[Prod.mk.injEq] at hzz;obtain⟨hz0,hz1,hz2⟩:=hzz;obtain⟨hI,ad,c,rfl,hc,hn⟩:=hD;cases ad with
 | none =>
  obtain rfl:=hn rfl;have h0:ds=[]:=List.eq_nil_of_length_eq_zero (by omega);subst h0;have hr:=run_append_nilsrc (P:=Tryz.prog) w base 70 o.type 3 i0 1 Tryz.underlying70 hi v n xs hown;refine wpList_plain hgd fun K hK => ?_;unfold Oper.wp execOp;have hx:a.eval x=.slice none 0 0:=hx;simp only[ho,resolve,invoke,builtin,Sem.run_bind,Sem.run_pure,Result.andThen_ok,List.map_toArray,List.map_cons,List.map_nil,hs,hx,hr];exact hK _ _ (h v w (by simpa using hown) ⟨rfl,rfl,rfl,Nat.le_refl _,fun _ _ _=>rfl⟩)
 | some A =>
  refine wpList_append_own2 w hgd s x 70 ho base 3 i0 (.int .i64 0) 1 8 Tryz.underlying70 hi hz0 hz1 hz2 rfl (by decide) v n xs hs hown A ds.length c (ds.map (Value.int .i64)) hx (by simp) ?_ (by intro u hu;obtain⟨y,_,rfl⟩:=List.mem_map.1 hu;rfl) (by unfold maxLen;omega) (by omega) hbase (fun v' w' h1 h2 _=>h v' w' h1 h2);intro j u hu;rcases hI with ⟨rfl,_⟩|⟨b,off,c',he,hb,hcell⟩
  ·simp at hu
  ·simp only[Value.slice.injEq,Option.some.injEq,true_and] at he;obtain⟨rfl,rfl⟩:=he;have hj:j<ds.length:=by
    by_cases hj:j<ds.length
    ·exact hj
    ·rw[List.getElem?_eq_none (by simp;omega)] at hu;cases hu
   rw[Go.WideShapes.add_plain,hcell j hj];rw[List.getElem?_map,List.getElem?_eq_getElem hj] at hu;rw[List.getElem?_eq_getElem hj];exact hu
set_option maxRecDepth 100000
set_option maxHeartbeats 1000000
theorem of_pos (n0:Nat) (hn:n0<=9223372036854775808-1) (w:World):Calls Tryz.prog 33 #[.int .i64 (n0:Int)] w fun r w'=>∃v,r=.returned (bv false v)/\DgAt w' v (digs n0)/\NewS w.heap.size v/\Below w.heap.size w w':=by
 obtain⟨i0,hi,hzz⟩:=Option.map_eq_some_iff.1 Tryz.info3;simp only[Prod.mk.injEq] at hzz;obtain⟨hz0,hz1,hz2⟩:=hzz;have hl20:(digs n0).length<=20:=digs_len n0 20 (by omega);have HL:Hid ((digs n0).length<=20):=hl20;clear hl20;have hlt0:¬ (n0:Int)<0:=by omega
 go_enter Tryz.func33,Tryz.ntmps33;go_wp2_with fail;have hZ:=Row.new w 72 #[.bool false,.slice none 0 0];have hB:=(Below.refl _ w).alloc (Nat.le_refl _) (.cells #[.bool false,.slice none 0 0] 72);go_loopw [3,4] (fun v3 v4 wr=>∃(m:Nat) (ds:List Int),m<=9223372036854775808-1/\v4=.int .i64 (m:Int)/\Hid (ds++digs m=digs n0)/\OwnD w.heap.size wr v3 ds/\Row wr w.heap.size 72 #[.bool false,.slice none 0 0]/\Below w.heap.size w wr) (fun _ v4 _=>(intOf v4).natAbs)
 case atStart=>exact⟨n0,[],hn,rfl,rfl,World.ownsRow_nil _ _ _ _,hZ,hB⟩
 case round =>
  clear hZ hB;obtain⟨m,ds,hm,rfl,HD,hO,hZ,hB⟩:=hrel;by_cases h0:m=0
  ·subst h0;obtain⟨gu,cu,rfl⟩:=hO.form;obtain⟨d0,d1⟩:=hZ.duo;have z:=hZ.frozen;have HE:Hid (ds=digs n0):=by have:=HD.out;rw[digs_zero,List.append_nil] at this;exact this
   have hOb:OwnD w.heap.size ((wr.setCell ⟨w.heap.size,0,none⟩ (.bool false)).setCell ⟨w.heap.size,1,none⟩ (.slice gu ds.length cu)) (.slice gu ds.length cu) ds:=by have hne:=row_ne hO hZ (by decide);exact owns_kept hO (((Kept.refl (fun k=>k≠w.heap.size) wr).setCell (p:=⟨w.heap.size,0,none⟩) (by simp) _).setCell (p:=⟨w.heap.size,1,none⟩) (by simp) _) (fun k hk e=>hne (e ▸ hk))
   have hOi:=hOb.dg;have hOn:=hOb.new;have hBe:=below_set (below_set hB (B:=w.heap.size) 0 (.bool false) (Nat.le_refl _)) (B:=w.heap.size) 1 (.slice gu ds.length cu) (Nat.le_refl _);have hZe:=Row.set2 hZ (.bool false) (.slice gu ds.length cu);clear hOb hO;go_wp2;refine bodyPost_ret (ret_one rfl (g:=w.heap.size) rfl (load43 hZe rfl)) rfl ⟨_,rfl,?_,hOn,hBe⟩;rw[<-HE.out];exact hOi
  ·have hne0:((m:Int) != 0)=true:=by simp;omega
   obtain⟨d,hd⟩:∃d,m % 10=d:=⟨_,rfl⟩;obtain⟨m',hm'⟩:∃m',m / 10=m':=⟨_,rfl⟩;have f1:(m:Int).tmod 10=(d:Int):=by rw[Int.tmod_eq_emod_of_nonneg (by omega)];omega
   have f2:(m:Int).tdiv 10=(m':Int):=by rw[Int.tdiv_eq_ediv_of_nonneg (by omega)];omega
   have hd9:d<=9:=by omega
   have hm9:m'<=922337203685477580:=by omega
   have HD2:Hid (ds++[(d:Int)]++digs m'=digs n0):=by show _=_;rw[<-HD.out,digs_pos m h0,hd,hm',List.append_assoc];rfl
   have hS1:ds.length+1<=20:=by have h1:=HD2.out;have h2:=HL.out;rw[<-h1] at h2;simp only[List.length_append,List.length_cons,List.length_nil] at h2;omega
   have HMM:Hid (m'<m):=by show _<_;omega
   clear hd hm' h0 HD;obtain⟨gu,cu,rfl⟩:=hO.form;have hlt:=hZ.lt;have hBs:=hB.size;have f3:¬ ((d:Int)<0):=by omega
   have HNW:Hid _:=new_one wr (d:Int);have hO1:(wr.alloc (.cells #[.int .i64 (d:Int)] 3)).ownsRow w.heap.size 3 1 (.slice gu ds.length cu) ds.length (ds.map (Value.int .i64)):=World.ownsRow.alloc hO _;have hZ1:=hZ.alloc (.cells #[.int .i64 (d:Int)] 3);have hB1:=hB.alloc hBs (.cells #[.int .i64 (d:Int)] 3);clear hO hZ hB;go_wp2_with (at_builtin;refine wpList_append_own2 _ rfl (.tmp 15) (.tmp 17) 70 rfl w.heap.size 3 i0 (.int .i64 0) 1 8 Tryz.underlying70 hi hz0 hz1 hz2 rfl (by decide) _ _ _ rfl hO1 ⟨wr.heap.size,0,none⟩ 1 1 [.int .i64 (d:Int)] rfl rfl HNW.out (by simp[Value.oneCell']) (by unfold maxLen;omega) (by omega) (by simp;omega) ?_);intro v1 x1 hown1 hgrow1 hblk1;have hZ2:=row_grownO hZ1 hO1 hgrow1 (by decide);have hB2:=below_grownO hB1 (by simp;omega) hO1 hgrow1;have hO2:=OwnD.snoc hown1;clear hown1 hgrow1 hblk1 hZ1 hB1 hO1;go_wp2;go_roundw
   case rel=>exact⟨m',ds++[(d:Int)],by omega,rfl,HD2,hO2,hZ2,hB2⟩
   case measure=>have:=HMM.out;simp[intOf];omega
theorem of_neg (n0:Nat) (hn:n0<=9223372036854775808) (hpos:n0≠0) (w:World):Calls Tryz.prog 33 #[.int .i64 (-(n0:Int))] w fun r w'=>∃v,r=.returned (bv true v)/\DgAt w' v (digs n0)/\NewS w.heap.size v/\Below w.heap.size w w':=by
 obtain⟨i0,hi,hzz⟩:=Option.map_eq_some_iff.1 Tryz.info3;simp only[Prod.mk.injEq] at hzz;obtain⟨hz0,hz1,hz2⟩:=hzz;have hl20:(digs n0).length<=20:=digs_len n0 20 (by omega);have HL:Hid ((digs n0).length<=20):=hl20;clear hl20;have hlt0 : -(n0:Int)<0:=by omega
 have hlt1:0<n0:=by omega
 have hlt2:(0:Int)<(n0:Int):=by omega
 go_enter Tryz.func33,Tryz.ntmps33;go_wp2_with fail;have hZ:=Row.new w 72 #[.bool false,.slice none 0 0];have hB:=(Below.refl _ w).alloc (Nat.le_refl _) (.cells #[.bool false,.slice none 0 0] 72);go_loopw [3,4] (fun v3 v4 wr=>∃(m:Nat) (ds:List Int),m<=9223372036854775808/\v4=.int .i64 (-(m:Int))/\Hid (ds++digs m=digs n0)/\OwnD w.heap.size wr v3 ds/\Row wr w.heap.size 72 #[.bool false,.slice none 0 0]/\Below w.heap.size w wr) (fun _ v4 _=>(intOf v4).natAbs)
 case atStart=>exact⟨n0,[],hn,rfl,rfl,World.ownsRow_nil _ _ _ _,hZ,hB⟩
 case round =>
  clear hZ hB;obtain⟨m,ds,hm,rfl,HD,hO,hZ,hB⟩:=hrel;by_cases h0:m=0
  ·subst h0;obtain⟨gu,cu,rfl⟩:=hO.form;obtain⟨d0,d1⟩:=hZ.duo;have z:=hZ.frozen;have HE:Hid (ds=digs n0):=by have:=HD.out;rw[digs_zero,List.append_nil] at this;exact this
   have hOb:OwnD w.heap.size ((wr.setCell ⟨w.heap.size,0,none⟩ (.bool true)).setCell ⟨w.heap.size,1,none⟩ (.slice gu ds.length cu)) (.slice gu ds.length cu) ds:=by have hne:=row_ne hO hZ (by decide);exact owns_kept hO (((Kept.refl (fun k=>k≠w.heap.size) wr).setCell (p:=⟨w.heap.size,0,none⟩) (by simp) _).setCell (p:=⟨w.heap.size,1,none⟩) (by simp) _) (fun k hk e=>hne (e ▸ hk))
   have hOi:=hOb.dg;have hOn:=hOb.new;have hBe:=below_set (below_set hB (B:=w.heap.size) 0 (.bool true) (Nat.le_refl _)) (B:=w.heap.size) 1 (.slice gu ds.length cu) (Nat.le_refl _);have hZe:=Row.set2 hZ (.bool true) (.slice gu ds.length cu);clear hOb hO;go_wp2;refine bodyPost_ret (ret_one rfl (g:=w.heap.size) rfl (load43 hZe rfl)) rfl ⟨_,rfl,?_,hOn,hBe⟩;rw[<-HE.out];exact hOi
  ·have hne0:((-(m:Int)) != 0)=true:=by simp;omega
   obtain⟨d,hd⟩:∃d,m % 10=d:=⟨_,rfl⟩;obtain⟨m',hm'⟩:∃m',m / 10=m':=⟨_,rfl⟩;have f1:(-(m:Int)).tmod 10 = -(d:Int):=by rw[Int.neg_tmod,Int.tmod_eq_emod_of_nonneg (by omega)];omega
   have f2:(-(m:Int)).tdiv 10=(-(m':Int)):=by rw[Int.neg_tdiv,Int.tdiv_eq_ediv_of_nonneg (by omega)];omega
   have hd9:d<=9:=by omega
   have hm9:m'<=922337203685477580:=by omega
   have HD2:Hid (ds++[(d:Int)]++digs m'=digs n0):=by show _=_;rw[<-HD.out,digs_pos m h0,hd,hm',List.append_assoc];rfl
   have hS1:ds.length+1<=20:=by have h1:=HD2.out;have h2:=HL.out;rw[<-h1] at h2;simp only[List.length_append,List.length_cons,List.length_nil] at h2;omega
   have HMM:Hid (m'<m):=by show _<_;omega
   clear hd hm' h0 HD;obtain⟨gu,cu,rfl⟩:=hO.form;have hlt:=hZ.lt;have hBs:=hB.size;by_cases hdz:d=0
   ·subst hdz;have f1:(-(m:Int)).tmod 10=0:=f1;have HD2:Hid (ds++[(0:Int)]++digs m'=digs n0):=HD2;have HNW:Hid _:=new_one wr (0:Int);have hO1:(wr.alloc (.cells #[.int .i64 (0:Int)] 3)).ownsRow w.heap.size 3 1 (.slice gu ds.length cu) ds.length (ds.map (Value.int .i64)):=World.ownsRow.alloc hO _;have hZ1:=hZ.alloc (.cells #[.int .i64 (0:Int)] 3);have hB1:=hB.alloc hBs (.cells #[.int .i64 (0:Int)] 3);clear hO hZ hB;go_wp2_with (at_builtin;refine wpList_append_own2 _ rfl (.tmp 15) (.tmp 17) 70 rfl w.heap.size 3 i0 (.int .i64 0) 1 8 Tryz.underlying70 hi hz0 hz1 hz2 rfl (by decide) _ _ _ rfl hO1 ⟨wr.heap.size,0,none⟩ 1 1 [.int .i64 (0:Int)] rfl rfl HNW.out (by simp[Value.oneCell']) (by unfold maxLen;omega) (by omega) (by simp;omega) ?_);intro v1 x1 hown1 hgrow1 hblk1;have hZ2:=row_grownO hZ1 hO1 hgrow1 (by decide);have hB2:=below_grownO hB1 (by simp;omega) hO1 hgrow1;have hO2:=OwnD.snoc hown1;clear hown1 hgrow1 hblk1 hZ1 hB1 hO1;go_wp2;go_roundw
    case rel=>exact⟨m',ds++[(0:Int)],by omega,rfl,HD2,hO2,hZ2,hB2⟩
    case measure=>have:=HMM.out;simp[intOf];omega
   ·have f4 : -(d:Int)<0:=by omega
    have HNW:Hid _:=new_one wr (d:Int);have hO1:(wr.alloc (.cells #[.int .i64 (d:Int)] 3)).ownsRow w.heap.size 3 1 (.slice gu ds.length cu) ds.length (ds.map (Value.int .i64)):=World.ownsRow.alloc hO _;have hZ1:=hZ.alloc (.cells #[.int .i64 (d:Int)] 3);have hB1:=hB.alloc hBs (.cells #[.int .i64 (d:Int)] 3);clear hO hZ hB;go_wp2_with (at_builtin;refine wpList_append_own2 _ rfl (.tmp 15) (.tmp 17) 70 rfl w.heap.size 3 i0 (.int .i64 0) 1 8 Tryz.underlying70 hi hz0 hz1 hz2 rfl (by decide) _ _ _ rfl hO1 ⟨wr.heap.size,0,none⟩ 1 1 [.int .i64 (d:Int)] rfl rfl HNW.out (by simp[Value.oneCell']) (by unfold maxLen;omega) (by omega) (by simp;omega) ?_);intro v1 x1 hown1 hgrow1 hblk1;have hZ2:=row_grownO hZ1 hO1 hgrow1 (by decide);have hB2:=below_grownO hB1 (by simp;omega) hO1 hgrow1;have hO2:=OwnD.snoc hown1;clear hown1 hgrow1 hblk1 hZ1 hB1 hO1;go_wp2;go_roundw
    case rel=>exact⟨m',ds++[(d:Int)],by omega,rfl,HD2,hO2,hZ2,hB2⟩
    case measure=>have:=HMM.out;simp[intOf];omega
def BigV (w : World) (z : Int) (v : Value) : Prop := ∃ sv, v = bv (decide (z < 0)) sv ∧ DgAt w sv (digs z.natAbs)
theorem BigV.below {w w':World} {z:Int} {v:Value} (h:BigV w z v) (hb:Below w.heap.size w w'):BigV w' z v:=by
 obtain⟨sv,rfl,h⟩:=h;exact⟨sv,rfl,h.below hb⟩
theorem of_new (c:Int) (hc:I64 c) (w:World):Calls Tryz.prog 33 #[.int .i64 c] w fun r w'=>∃v,r=.returned v/\BigV w' c v/\NewV w.heap.size v/\Below w.heap.size w w':=by
 by_cases h:c<0
 ·obtain⟨n,rfl⟩:∃n:Nat,c = -(n:Int):=⟨c.natAbs,by omega⟩;refine(of_neg n (by have:=hc.1;omega) (by omega) w).mono ?_;rintro r w' ⟨sv,rfl,hI,hN,hB⟩;refine⟨_,rfl,⟨sv,by rw[decide_eq_true h],?_⟩,⟨_,_,rfl,hN⟩,hB⟩;rw[show (-(n:Int)).natAbs=n by omega];exact hI
 ·obtain⟨n,rfl⟩:∃n:Nat,c=(n:Int):=⟨c.natAbs,by omega⟩;refine(of_pos n (by have:=hc.2;omega) w).mono ?_;rintro r w' ⟨sv,rfl,hI,hN,hB⟩;exact⟨_,rfl,⟨sv,by rw[decide_eq_false h],by simpa using hI⟩,⟨_,_,rfl,hN⟩,hB⟩
theorem of_any (c:Int) (hc:I64 c) (w:World):Calls Tryz.prog 33 #[.int .i64 c] w fun r w'=>∃v,r=.returned v/\BigV w' c v/\Below w.heap.size w w':=by
 refine(of_new c hc w).mono ?_;rintro r w' ⟨v,h1,h2,_,h3⟩;exact⟨v,h1,h2,h3⟩
def DgL (ds : List Int) : Prop := ∀ d ∈ ds, 0 ≤ d ∧ d ≤ 9
theorem DgL.get {ds:List Int} (h:DgL ds) (i:Nat):0<=ds[i]?.getD 0/\ds[i]?.getD 0<=9:=by
 by_cases hi:i<ds.length
 ·rw[List.getElem?_eq_getElem hi];exact h _ (List.getElem_mem hi)
 ·rw[List.getElem?_eq_none (by omega)];exact⟨by decide,by decide⟩
theorem dval_nonneg {ds:List Int} (h:DgL ds):0<=dval ds:=by
 induction ds with
 | nil=>exact Int.le_refl _
 | cons d r ih =>
  have h1:=h d (by simp);have h2:=ih (fun x hx=>h x (by simp[hx]));show 0<=d+10*dval r;omega
theorem dval_append (a b:List Int):dval (a++b)=dval a+10 ^ a.length*dval b:=by
 induction a with
 | nil=>simp[dval]
 | cons d r ih =>
  show d+10*dval (r++b)=d+10*dval r+_;rw[ih,List.length_cons,Int.pow_succ,Int.mul_add,<-Int.mul_assoc,Int.mul_comm 10 (10 ^ r.length)];omega
theorem dval_zeros {ds:List Int} (h:∀d ∈ ds,d=0):dval ds=0:=by
 induction ds with
 | nil=>rfl
 | cons d r ih =>
  show d+10*dval r=0;rw[h d (by simp),ih (fun x hx=>h x (by simp[hx]))];rfl
theorem digs_dg (n:Nat):DgL (digs n):=by
 induction n using Nat.strongRecOn with
 | ind n ih =>
  by_cases h:n=0
  ·subst h;rw[digs_zero];intro d hd;simp at hd
  ·rw[digs_pos n h];intro d hd;rcases List.mem_cons.1 hd with rfl|hd
   ·omega
   ·exact ih (n / 10) (by omega) d hd
theorem digs_of : ∀ {es : List Int}, DgL es → (es = [] ∨ es.getLast? ≠ some 0) → es = digs (dval es).toNat
  | [], _, _ => by rw [show (dval []).toNat = 0 from rfl, digs_zero]
  | d :: r, h, hl => by
    have h1 := h d (by simp)
    have hr : DgL r := fun x hx => h x (by simp [hx])
    have hl2 : (d :: r).getLast? ≠ some 0 := by rcases hl with hl | hl; cases hl; exact hl
    have hlr : r = [] ∨ r.getLast? ≠ some 0 := by
      cases r with
      | nil => exact .inl rfl
      | cons a s => exact .inr (by simpa [List.getLast?_cons_cons] using hl2)
    have ih := digs_of hr hlr
    have hn := dval_nonneg hr
    have hv : dval (d :: r) = d + 10 * dval r := rfl
    have hpos : dval (d :: r) ≠ 0 := by
      rw [hv]
      intro hz
      have hd0 : d = 0 := by omega
      have hr0 : dval r = 0 := by omega
      rw [hr0, show (0 : Int).toNat = 0 from rfl, digs_zero] at ih
      subst ih
      exact hl2 (by simp [hd0])
    rw [digs_pos _ (by rw [hv] at hpos ⊢; omega)]
    have e1 : (((dval (d :: r)).toNat % 10 : Nat) : Int) = d := by rw [hv]; omega
    have e2 : (dval (d :: r)).toNat / 10 = (dval r).toNat := by rw [hv]; omega
    rw [e1, e2, ← ih]
theorem trim_digs {ds:List Int} (h:DgL ds) (n:Nat) (hn:n<=ds.length) (hz:∀j,n<=j->ds[j]?.getD 0=0) (hl:n=0\/ds[n-1]?.getD 0≠0):ds.take n=digs (dval ds).toNat/\dval (ds.take n)=dval ds:=by
 have e:dval ds=dval (ds.take n):=by
  conv=>lhs;rw[<-List.take_append_drop n ds,dval_append]
  rw[dval_zeros (ds:=ds.drop n),Int.mul_zero,Int.add_zero];intro d hd;obtain⟨i,hi,rfl⟩:=List.getElem_of_mem hd;rw[List.length_drop] at hi;have:=hz (n+i) (by omega);rw[List.getElem?_eq_getElem (by omega)] at this;rw[List.getElem_drop];exact this
 refine⟨?_,e.symm⟩;rw[e];refine digs_of (fun d hd=>h d (List.mem_of_mem_take hd)) ?_;rcases hl with rfl|hl
 ·exact .inl (by simp)
 ·by_cases h0:n=0
  ·subst h0;exact .inl (by simp)
  ·right;have hlt:n-1<ds.length:=by omega
   rw[List.getLast?_eq_getElem?,List.length_take,Nat.min_eq_left hn,List.getElem?_take_of_lt (by omega),List.getElem?_eq_getElem hlt];rw[List.getElem?_eq_getElem hlt] at hl;intro hc;exact hl (by simpa using hc)
theorem dval_set (ds:List Int) (i:Nat) (v:Int) (h:i<ds.length):dval (ds.set i v)=dval ds+(v-ds[i]?.getD 0)*10 ^ i:=by
 induction ds generalizing i with
 | nil=>simp at h
 | cons d t ih =>
  cases i with
  | zero=>simp[dval];omega
  | succ i =>
   have h2:=ih i (by simpa using h);simp only[List.set_cons_succ,dval,List.getElem?_cons_succ];rw[h2,Int.pow_succ,Int.mul_add,show (10:Int)*((v-t[i]?.getD 0)*10 ^ i)=(v-t[i]?.getD 0)*(10 ^ i*10) by rw[Int.mul_comm,Int.mul_assoc]];omega
theorem dval_carry (ds:List Int) (k:Nat) (h:k+1<ds.length):dval ((ds.set (k+1) (ds[k+1]?.getD 0+ds[k]?.getD 0 / 10)).set k (ds[k]?.getD 0 % 10))=dval ds:=by
 rw[dval_set _ _ _ (by simp;omega),dval_set _ _ _ h,List.getElem?_set_ne (by omega),Int.pow_succ];generalize ds[k]?.getD 0=a;generalize ds[k+1]?.getD 0=b;generalize (10:Int) ^ k=p;have h1:a=10*(a / 10)+a % 10:=(Int.mul_ediv_add_emod a 10).symm;generalize a / 10=q at *;generalize a % 10=r at *;subst h1;rw[show b+q-b=q by omega,show r-(10*q+r) = -(10*q) by omega,Int.neg_mul,Int.mul_comm p 10,<-Int.mul_assoc,Int.mul_comm q 10];omega
end Go.Proofs.YtoncpcdepemlcaaGreatDoor
