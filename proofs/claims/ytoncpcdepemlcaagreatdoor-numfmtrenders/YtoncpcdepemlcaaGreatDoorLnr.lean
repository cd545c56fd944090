/- NumfmtRenders is proved: for any text (within the form's reach) and any value the program's Render tells what the document's own tells; the chapter's examples hold. Its conditions: the listed tables and variables (the program's own table of the errors' names, tables of Go's own library, sentinel errors) hold what the program's text gives them, as the card says; the tie was made over a pruned copy of the project, and that nothing else writes them is the translator's report. -/
import Derived.Test.YtoncpcdepemlcaaGreatDoorNsdM
import Derived.Test.YtoncpcdepemlcaaGreatDoorVop
import Derived.Test.YtoncpcdepemlcaaGreatDoorCards
import Derived.Test.YtoncpcdepemlcaaGreatDoorTie
import Derived.ProofKit
import Derived.OpenShut
import Derived.ChangeMaps5
import Derived.Lay
import Derived.Shelf.Vars
import Derived.Deep.DeepHandedRow
import Derived.SevenTiedAt
namespace Go.Proofs.YtoncpcdepemlcaaGreatDoor
set_option maxRecDepth 100000
namespace numfmtRenders
open Go.ChangeShapes Go.WideShapes Go.ChangeAt Go.RowKit Go.ChangeMaps
theorem open_val {H:Type} {enc:TypeId × Value->H} {W:World} {base:Nat} {v:Value} {d:DataW H} {p:List MemPlace} (hv:Value.okWide Tryz.prog W .any base 40 v) (h:DataW.Trod enc Tryz.prog W 0 (fun _=>true) true 40 v d p):∃x:Vl,v=x.v/\I64 x.k/\I64 x.c/\I64 x.e/\I64 x.x/\x.s.size<=maxLen:=by
 obtain⟨cs,rfl,hsz⟩:=okWide_struct Tryz.underlying40 hv;obtain⟨fuel,hf⟩:=h;have c40:Tryz.prog.cellsOf 40=6:=by kernel_rfl
 rw[c40] at hsz;obtain⟨xs,k,hk,hxy,_,hxl,hff⟩:=DataW.trod_struct Tryz.underlying40 hf;obtain⟨l⟩:=cs;match xs,hxl,l,hsz with
 | [y0,y1,y2,y3,y4],_,[v0,v1,v2,v3,v4,v5],_ =>
  have g0:=hff 0 _ rfl;have g1:=hff 1 _ rfl;have g2:=hff 2 _ rfl;have g3:=hff 3 _ rfl;have g4:=hff 4 _ rfl;have c38:Tryz.prog.cellsOf 38=2:=by kernel_rfl
  have c9:Tryz.prog.cellsOf 9=1:=by kernel_rfl
  have c3:Tryz.prog.cellsOf 3=1:=by kernel_rfl
  have c2:Tryz.prog.cellsOf 2=1:=by kernel_rfl
  have c4:Tryz.prog.cellsOf 4=1:=by kernel_rfl
  simp[c9,c3,c4,c38,Value.cells] at g0 g1 g2 g3 g4;obtain⟨k0,e0,_,w0⟩:=DataW.trod_int Tryz.underlying3 g0;obtain⟨s2,e2,_,w2⟩:=DataW.trod_string Tryz.underlying9 g2;obtain⟨b3,e3,_⟩:=DataW.trod_bool Tryz.underlying4 g3;obtain⟨k4,e4,_,w4⟩:=DataW.trod_int Tryz.underlying3 g4;obtain⟨xs1,k1,hk1,hxy1,_,hxl1,hff1⟩:=DataW.trod_struct Tryz.underlying38 g1;match xs1,hxl1 with
  | [z0,z1],_ =>
   have i0:=hff1 0 _ rfl;have i1:=hff1 1 _ rfl;simp[c3,c2] at i0 i1;obtain⟨n0,f0,_,u0⟩:=DataW.trod_int Tryz.underlying2 i0;obtain⟨n1,f1,_,u1⟩:=DataW.trod_int Tryz.underlying3 i1;simp at e0 e2 e3 e4 f0 f1;subst e0 e2 e3 e4 f0 f1;exact⟨⟨k0,n0,n1,s2,b3,k4⟩,rfl,i64_bd w0,i64_bd u0,i64_bd u1,i64_bd w4,w2⟩
theorem keep_pow : Rows.numfmtRendersRow.laid.filter (fun x => x.1 == "internal/strconv.uint64pow10") = [("internal/strconv.uint64pow10", Lib.tabData .u64 Lib.pow10Tab)] := by kernel_rfl
theorem keep_names : Rows.numfmtRendersRow.laid.filter (fun x => x.1 == "quire/val.errorNames") = [("quire/val.errorNames", strData namesL)] := by kernel_rfl
theorem contract (H:Type) (enc:TypeId × Value->H) (W:World) (base:Nat) (args:Array Value) (ds gs:List (DataW H)) (before:List MemPlace) (hval:∀(j:Nat) t v,Tryz.f4.params[j]? = some t->args[j]? = some v->Value.okWide Tryz.prog W .any base t v) (hW:DataW.Whole enc Tryz.prog Tryz.f4.params.toList Rows.numfmtRendersSpec.vars false W args.toList ds gs before) (hsz0:(DataW.weightsEach Tryz.prog (Tryz.f4.params.toList++Rows.numfmtRendersSpec.plain.varTypes Tryz.prog) (ds++gs)).all (· <= reachBytes)=true) (hL:laidMetH Tryz.prog Rows.numfmtRendersRow.laid W) (hsh:W.ShapedOpen Tryz.prog):Calls Tryz.prog 4 args W fun e W'=>∃v,e=.returned v/\Rows.numfmtRendersSpec.post enc Tryz.prog Tryz.f4 false true false false W args v W':=by
 have hE:EnvN W:=env_of ⟨pow_tab _ keep_pow hL,names_tab _ keep_names hL⟩ (max_cell hsh);have hW':=hW;obtain⟨p,q,hA0,hV,rfl,hfz,hnd⟩:=hW;have hA:DataW.TrodAll enc Tryz.prog W 0 (fun _=>true) true Tryz.f4.params.toList args.toList ds p:=hA0;have hsz:=hsz0;rw[Tryz.params4] at hA hval hsz;obtain⟨v0,vs0,d0,ds0,p0,q0,hargs0,rfl,rfl,h0,r0⟩:=trodAll_cons hA;obtain⟨v1,vs1,d1,ds1,p1,q1,hargs1,rfl,rfl,h1,r1⟩:=trodAll_cons r0;obtain⟨rfl,rfl,rfl⟩:=trodAll_nil r1;obtain rfl:args=#[v0,v1]:=by cases args;simp_all
 obtain⟨rfl,rfl⟩:=trodVars_none hV;have k0:=h0;have lt0:∀x ∈ p0,x.block<W.heap.size:=by obtain⟨m,hm⟩:=k0;exact DataW.trod_lt m _ _ _ hm
 obtain⟨s0,rfl,rfl,rfl,w0⟩:=open_string Tryz.underlying9 (hval 0 9 v0 rfl rfl) h0;have k1:=h1;have lt1:∀x ∈ p1,x.block<W.heap.size:=by obtain⟨m,hm⟩:=k1;exact DataW.trod_lt m _ _ _ hm
 obtain⟨x1,rfl,bk1,bc1,be1,bx1,ws1⟩:=open_val (hval 1 40 v1 rfl rfl) h1;clear hsz;clear hA0;refine(renders_any s0.data.toList x1 bc1 W hE).mono fun e W' ⟨he,bel⟩ => ?_;subst he;exact⟨_,rfl,_,_,_,[],_,[],hW',trodAll_mk1 (shut_bool Tryz.underlying4 _),(trodAll_cons_mk (Below.trod laidOut (by kernel_rfl) (of_decide_eq_true (by kernel_rfl)) k0 bel lt0) (trodAll_cons_mk (Below.trod laidOut (by kernel_rfl) (of_decide_eq_true (by kernel_rfl)) k1 bel lt1) trodAll_mk0)),rfl,bel.frame _,fun h=>by cases h⟩
noncomputable def laidWorld (os : Os) : World := World.laidAll Tryz.prog os Rows.numfmtRendersRow.laid
theorem laid_met (os:Os):laidMet Tryz.prog Rows.numfmtRendersRow.laid ((laidWorld os).forCall (fun _ _=>0) ⟨#[],#[.string .empty,.agg #[.int .i64 0,.int .i64 0,.int .i64 0,.string .empty,.bool false,.int .i64 0]],[]⟩).memory:=laidMet_laidAll _ (by kernel_rfl) (by kernel_rfl)
theorem shaped (os:Os):((laidWorld os).forCall (fun _ _=>0) ⟨#[],#[.string .empty,.agg #[.int .i64 0,.int .i64 0,.int .i64 0,.string .empty,.bool false,.int .i64 0]],[]⟩).Shaped Tryz.prog:=World.shaped_of_ZipB (by kernel_rfl) (by kernel_rfl)
theorem okB (os:Os):Input.okWideB Tryz.prog ((laidWorld os).forCall (fun _ _=>0) ⟨#[],#[.string .empty,.agg #[.int .i64 0,.int .i64 0,.int .i64 0,.string .empty,.bool false,.int .i64 0]],[]⟩) 4 ⟨#[],#[.string .empty,.agg #[.int .i64 0,.int .i64 0,.int .i64 0,.string .empty,.bool false,.int .i64 0]],[]⟩=true:=by kernel_rfl
theorem reads (os:Os) {H:Type} (enc:TypeId × Value→H):∃places,DataW.whole enc Tryz.prog ((laidWorld os).forCall (fun _ _=>0) ⟨#[],#[.string .empty,.agg #[.int .i64 0,.int .i64 0,.int .i64 0,.string .empty,.bool false,.int .i64 0]],[]⟩).memory Tryz.f4.params.toList Rows.numfmtRendersSpec.vars false #[Value.string .empty,Value.agg #[.int .i64 0,.int .i64 0,.int .i64 0,.string .empty,.bool false,.int .i64 0]].toList 8=some ([.lit (.string []),.agg [.lit (.int .i64 0),.agg [.lit (.int .i64 0),.lit (.int .i64 0)],.lit (.string []),.lit (.bool false),.lit (.int .i64 0)]],[],places):=⟨[],by kernel_rfl⟩
theorem lifted (os:Os) (started:os.Started) (H:Type) (enc:TypeId × Value->H) (F:Stop.Interp):ReturnsInHanded {} Tryz.checked os 4 .any ((OpenSpec.ofChange Rows.numfmtRendersSpec).preRow enc Tryz.prog Tryz.f4 Rows.numfmtRendersRow.domain false Rows.numfmtRendersRow.laid) (((OpenSpec.ofChange Rows.numfmtRendersSpec).at F).post enc Tryz.prog Tryz.f4 false true false false):=by
 obtain⟨places,hx⟩:=reads os enc;refine returnsInHanded_of_row (C:=Tryz.checked) (s:=OpenSpec.ofChange Rows.numfmtRendersSpec) own started (by kernel_rfl) Tryz.func4 ⟨laidWorld os,fun _ _=>0,⟨#[],#[.string .empty,.agg #[.int .i64 0,.int .i64 0,.int .i64 0,.string .empty,.bool false,.int .i64 0]],[]⟩,World.laidAll_os _ _ _,shaped os,(Input.okWide_of_okWideB (base:=0) (okB os)).1,(Input.okWide_of_okWideB (okB os)).2,(OpenSpec.preRow_of_cond 8 hx (by kernel_rfl) (fun k hk=>by cases hk) (by kernel_rfl) (laid_met os)),by simp only[Assume.holds];exact⟨by simp,by simp,fun _=>Modest.zero,by simp,by simp⟩⟩ ?_
 intro W base args ds gs before hval hW _ _ hsz hL hsh _;exact contract H enc W base args ds gs before hval hW hsz hL hsh
theorem said:Rows.NumfmtRendersSaid:=OpenClaim.holds_of_cond 4 Tryz.f4 rfl rfl rfl rfl rfl rfl rfl ⟨rfl,rfl,rfl,rfl,rfl⟩ rfl rfl rfl rfl rfl (by kernel_rfl) Tryz.func4 (by kernel_rfl) (of_decide_eq_true (by kernel_rfl)) (by unfold Func.isWrapper;first|(rw[if_pos (by decide +kernel)];kernel_rfl)|(rw[if_neg (by decide +kernel)];exact⟨rfl,rfl⟩)) (fun os started H enc _ F=>by rw[OpenClaim.pre_eq_preRow];exact lifted os started H enc F)
theorem plain (f : FuncId) (fn : Func) (hf : Tryz.pinned.checked.prog.funcNamed "quire/quirelaw14.NumfmtRenders" = some f) (hfn : Tryz.pinned.checked.prog.funcs[f]? = some fn) :
    false = Tryz.pinned.checked.prog.looks [] ∧ ∀ (j : Nat) t, fn.params[j]? = some t → Tryz.pinned.checked.prog.wantsStandIn t = false := by
  obtain rfl : f = 4 := Option.some.inj ((show Tryz.prog.funcNamed "quire/quirelaw14.NumfmtRenders" = some 4 by kernel_rfl).symm.trans hf) |>.symm
  obtain rfl : fn = Tryz.f4 := (Option.some.inj (Tryz.func4.symm.trans hfn)).symm
  refine ⟨by kernel_rfl, fun j t ht => ?_⟩
  rw [Tryz.params4] at ht
  have h3 : Tryz.prog.wantsStandIn 40 = false := by kernel_rfl
  have h9 : Tryz.prog.wantsStandIn 9 = false := by kernel_rfl
  have hm := Array.mem_of_getElem? ht
  simp at hm
  rcases hm with rfl | rfl
  · exact h9
  · exact h3
theorem card:Rows.NumfmtRendersCardSaid:=Claim7.holds_tied_plain_at .later [] _ _ _ _ said (fun _ h=>by cases h) (by kernel_rfl) (fun _ h=>by cases h) numfmtRenders_row_tie rfl ⟨rfl,rfl⟩ (by kernel_rfl) rfl plain (by kernel_rfl)
end numfmtRenders
theorem numfmtRenders_holds:Rows.NumfmtRendersCardSaid:=numfmtRenders.card
end Go.Proofs.YtoncpcdepemlcaaGreatDoor
