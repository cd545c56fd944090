/- NumfmtParses is proved: for any text (within the form's reach) and any number the program's Parse tells the sections that the document's own tells, or the same error, and Builtin and Id answer what the document's do; the chapter's examples hold. Its conditions: the listed tables and variables (the program's own tables of the formats that come with every file and of the errors' names, tables of Go's own library, sentinel errors) hold what the program's text gives them, as the card says; the tie was made over a pruned copy of the project, and that nothing else writes them is the translator's report. -/
import Derived.Test.YtoncpcdepemlcaaGreatDoorNsdM
import Derived.Test.YtoncpcdepemlcaaGreatDoorVopM
import Derived.Test.YtoncpcdepemlcaaGreatDoorVopM
import Derived.Test.YtoncpcdepemlcaaGreatDoorCards
import Derived.Test.YtoncpcdepemlcaaGreatDoorTie
import Derived.ProofKit
import Derived.OpenShut
import Derived.ChangeMaps5
import Derived.Lay
import Derived.Shelf.Vars
import Derived.Deep.DeepHandedRow
import Derived.SevenTiedAt
namespace Go.Proofs.YtoncpcdepemlcaaGreatDoor
set_option maxRecDepth 100000
namespace numfmtParses
open Go.ChangeShapes Go.WideShapes Go.ChangeAt Go.RowKit Go.ChangeMaps
theorem keep_pow : Rows.numfmtParsesRow.laid.filter (fun x => x.1 == "internal/strconv.uint64pow10") = [("internal/strconv.uint64pow10", Lib.tabData .u64 Lib.pow10Tab)] := by kernel_rfl
theorem keep_bti : Rows.numfmtParsesRow.laid.filter (fun x => x.1 == "quire/numfmt.builtins") = [("quire/numfmt.builtins", Rows.laid_quire_numfmt_builtins)] := by kernel_rfl
theorem keep_names : Rows.numfmtParsesRow.laid.filter (fun x => x.1 == "quire/val.errorNames") = [("quire/val.errorNames", strData namesL)] := by kernel_rfl
theorem contract (H:Type) (enc:TypeId × Value->H) (W:World) (base:Nat) (args:Array Value) (ds gs:List (DataW H)) (before:List MemPlace) (hval:∀(j:Nat) t v,Tryz.f3.params[j]? = some t->args[j]? = some v->Value.okWide Tryz.prog W .any base t v) (hW:DataW.Whole enc Tryz.prog Tryz.f3.params.toList Rows.numfmtParsesSpec.vars false W args.toList ds gs before) (hsz0:(DataW.weightsEach Tryz.prog (Tryz.f3.params.toList++Rows.numfmtParsesSpec.plain.varTypes Tryz.prog) (ds++gs)).all (· <= reachBytes)=true) (hL:laidMetH Tryz.prog Rows.numfmtParsesRow.laid W) (hsh:W.ShapedOpen Tryz.prog):Calls Tryz.prog 3 args W fun e W'=>∃v,e=.returned v/\Rows.numfmtParsesSpec.post enc Tryz.prog Tryz.f3 false true false false W args v W':=by
 have hE:EnvN W:=env_of ⟨pow_tab _ keep_pow hL,names_tab _ keep_names hL⟩ (max_cell hsh);have hT:Bti W:=bti_tab _ keep_bti hL;have hW':=hW;obtain⟨p,q,hA0,hV,rfl,hfz,hnd⟩:=hW;have hA:DataW.TrodAll enc Tryz.prog W 0 (fun _=>true) true Tryz.f3.params.toList args.toList ds p:=hA0;have hsz:=hsz0;rw[Tryz.params3] at hA hval hsz;obtain⟨v0,vs0,d0,ds0,p0,q0,hargs0,rfl,rfl,h0,r0⟩:=trodAll_cons hA;obtain⟨v1,vs1,d1,ds1,p1,q1,hargs1,rfl,rfl,h1,r1⟩:=trodAll_cons r0;obtain⟨rfl,rfl,rfl⟩:=trodAll_nil r1;obtain rfl:args=#[v0,v1]:=by cases args;simp_all
 obtain⟨rfl,rfl⟩:=trodVars_none hV;have k0:=h0;have lt0:∀x ∈ p0,x.block<W.heap.size:=by obtain⟨m,hm⟩:=k0;exact DataW.trod_lt m _ _ _ hm
 obtain⟨s0,rfl,rfl,rfl,w0⟩:=open_string Tryz.underlying9 (hval 0 9 v0 rfl rfl) h0;have k1:=h1;have lt1:∀x ∈ p1,x.block<W.heap.size:=by obtain⟨m,hm⟩:=k1;exact DataW.trod_lt m _ _ _ hm
 obtain⟨n1,rfl⟩:∃m,v1=.int .i64 m:=okWide_int Tryz.underlying3 (hval 1 3 v1 rfl rfl);have bd1 : -9223372036854775808<=n1/\n1<=9223372036854775807:=by obtain⟨fu,hfu⟩:=h1;obtain⟨kk,ee,_,ww⟩:=DataW.trod_int Tryz.underlying3 hfu;simp[Value.cells] at ee;subst ee;exact i64_bd ww
 clear hsz;clear hA0;refine(parses_any s0.data.toList n1 W hE hT).mono fun e W' ⟨he,bel⟩ => ?_;subst he;exact⟨_,rfl,_,_,_,[],_,[],hW',trodAll_mk1 (shut_bool Tryz.underlying4 _),(trodAll_cons_mk (Below.trod laidOut (by kernel_rfl) (of_decide_eq_true (by kernel_rfl)) k0 bel lt0) (trodAll_cons_mk (Below.trod laidOut (by kernel_rfl) (of_decide_eq_true (by kernel_rfl)) k1 bel lt1) trodAll_mk0)),rfl,bel.frame _,fun h=>by cases h⟩
noncomputable def laidWorld (os : Os) : World := World.laidAll Tryz.prog os Rows.numfmtParsesRow.laid
theorem laid_met (os:Os):laidMet Tryz.prog Rows.numfmtParsesRow.laid ((laidWorld os).forCall (fun _ _=>0) ⟨#[],#[.string .empty,.int .i64 0],[]⟩).memory:=laidMet_laidAll _ (by kernel_rfl) (by kernel_rfl)
theorem shaped (os:Os):((laidWorld os).forCall (fun _ _=>0) ⟨#[],#[.string .empty,.int .i64 0],[]⟩).Shaped Tryz.prog:=World.shaped_of_ZipB (by kernel_rfl) (by kernel_rfl)
theorem okB (os:Os):Input.okWideB Tryz.prog ((laidWorld os).forCall (fun _ _=>0) ⟨#[],#[.string .empty,.int .i64 0],[]⟩) 3 ⟨#[],#[.string .empty,.int .i64 0],[]⟩=true:=by kernel_rfl
theorem reads (os:Os) {H:Type} (enc:TypeId × Value→H):∃places,DataW.whole enc Tryz.prog ((laidWorld os).forCall (fun _ _=>0) ⟨#[],#[.string .empty,.int .i64 0],[]⟩).memory Tryz.f3.params.toList Rows.numfmtParsesSpec.vars false #[Value.string .empty,Value.int .i64 0].toList 8=some ([.lit (.string []),.lit (.int .i64 0)],[],places):=⟨[],by kernel_rfl⟩
theorem lifted (os:Os) (started:os.Started) (H:Type) (enc:TypeId × Value->H) (F:Stop.Interp):ReturnsInHanded {} Tryz.checked os 3 .any ((OpenSpec.ofChange Rows.numfmtParsesSpec).preRow enc Tryz.prog Tryz.f3 Rows.numfmtParsesRow.domain false Rows.numfmtParsesRow.laid) (((OpenSpec.ofChange Rows.numfmtParsesSpec).at F).post enc Tryz.prog Tryz.f3 false true false false):=by
 obtain⟨places,hx⟩:=reads os enc;refine returnsInHanded_of_row (C:=Tryz.checked) (s:=OpenSpec.ofChange Rows.numfmtParsesSpec) own started (by kernel_rfl) Tryz.func3 ⟨laidWorld os,fun _ _=>0,⟨#[],#[.string .empty,.int .i64 0],[]⟩,World.laidAll_os _ _ _,shaped os,(Input.okWide_of_okWideB (base:=0) (okB os)).1,(Input.okWide_of_okWideB (okB os)).2,(OpenSpec.preRow_of_cond 8 hx (by kernel_rfl) (fun k hk=>by cases hk) (by kernel_rfl) (laid_met os)),by simp only[Assume.holds];exact⟨by simp,by simp,fun _=>Modest.zero,by simp,by simp⟩⟩ ?_
 intro W base args ds gs before hval hW _ _ hsz hL hsh _;exact contract H enc W base args ds gs before hval hW hsz hL hsh
theorem said:Rows.NumfmtParsesSaid:=OpenClaim.holds_of_cond 3 Tryz.f3 rfl rfl rfl rfl rfl rfl rfl ⟨rfl,rfl,rfl,rfl,rfl⟩ rfl rfl rfl rfl rfl (by kernel_rfl) Tryz.func3 (by kernel_rfl) (of_decide_eq_true (by kernel_rfl)) (by unfold Func.isWrapper;first|(rw[if_pos (by decide +kernel)];kernel_rfl)|(rw[if_neg (by decide +kernel)];exact⟨rfl,rfl⟩)) (fun os started H enc _ F=>by rw[OpenClaim.pre_eq_preRow];exact lifted os started H enc F)
theorem plain (f : FuncId) (fn : Func) (hf : Tryz.pinned.checked.prog.funcNamed "quire/quirelaw14.NumfmtParses" = some f) (hfn : Tryz.pinned.checked.prog.funcs[f]? = some fn) :
    false = Tryz.pinned.checked.prog.looks [] ∧ ∀ (j : Nat) t, fn.params[j]? = some t → Tryz.pinned.checked.prog.wantsStandIn t = false := by
  obtain rfl : f = 3 := Option.some.inj ((show Tryz.prog.funcNamed "quire/quirelaw14.NumfmtParses" = some 3 by kernel_rfl).symm.trans hf) |>.symm
  obtain rfl : fn = Tryz.f3 := (Option.some.inj (Tryz.func3.symm.trans hfn)).symm
  refine ⟨by kernel_rfl, fun j t ht => ?_⟩
  rw [Tryz.params3] at ht
  have h3 : Tryz.prog.wantsStandIn 3 = false := by kernel_rfl
  have h9 : Tryz.prog.wantsStandIn 9 = false := by kernel_rfl
  have hm := Array.mem_of_getElem? ht
  simp at hm
  rcases hm with rfl | rfl
  · exact h9
  · exact h3
theorem card:Rows.NumfmtParsesCardSaid:=Claim7.holds_tied_plain_at .later [] _ _ _ _ said (fun _ h=>by cases h) (by kernel_rfl) (fun _ h=>by cases h) numfmtParses_row_tie rfl ⟨rfl,rfl⟩ (by kernel_rfl) rfl plain (by kernel_rfl)
end numfmtParses
theorem numfmtParses_holds:Rows.NumfmtParsesCardSaid:=numfmtParses.card
end Go.Proofs.YtoncpcdepemlcaaGreatDoor
