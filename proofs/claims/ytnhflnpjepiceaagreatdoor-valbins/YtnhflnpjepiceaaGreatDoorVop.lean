import Derived.Test.YtnhflnpjepiceaaGreatDoorVcpM
import Derived.Test.YtnhflnpjepiceaaGreatDoorRowk
import Derived.Test.YtnhflnpjepiceaaGreatDoorRows
import Derived.ProofKit
import Derived.OpenShut
import Derived.SizedLaws
import Derived.ChangeSame
import Derived.ChangeMaps5
import Derived.LaidSub
import Derived.Lay
import Derived.Shelf.Vars
namespace Go.Proofs.YtnhflnpjepiceaaGreatDoor
set_option maxRecDepth 100000
open Go.ChangeShapes Go.WideShapes Go.ChangeAt Go.RowKit
theorem open_val {H:Type} {enc:TypeId × Value->H} {W:World} {base:Nat} {v:Value} {d:DataW H} {p:List MemPlace} (hv:Value.okWide Tryz.prog W .any base 25 v) (h:DataW.Trod enc Tryz.prog W 0 (fun _=>true) true 25 v d p):∃x:Vl,v=x.v/\I64 x.k/\I64 x.c/\I64 x.e/\I64 x.x/\x.s.size<=maxLen:=by
 obtain⟨cs,rfl,hsz⟩:=okWide_struct Tryz.underlying25 hv;obtain⟨fuel,hf⟩:=h;have c25:Tryz.prog.cellsOf 25=6:=by kernel_rfl
 rw[c25] at hsz;obtain⟨xs,k,hk,hxy,_,hxl,hff⟩:=DataW.trod_struct Tryz.underlying25 hf;obtain⟨l⟩:=cs;match xs,hxl,l,hsz with
 | [y0,y1,y2,y3,y4],_,[v0,v1,v2,v3,v4,v5],_ =>
  have g0:=hff 0 _ rfl;have g1:=hff 1 _ rfl;have g2:=hff 2 _ rfl;have g3:=hff 3 _ rfl;have g4:=hff 4 _ rfl;have c23:Tryz.prog.cellsOf 23=2:=by kernel_rfl
  have c9:Tryz.prog.cellsOf 9=1:=by kernel_rfl
  have c3:Tryz.prog.cellsOf 3=1:=by kernel_rfl
  have c2:Tryz.prog.cellsOf 2=1:=by kernel_rfl
  have c4:Tryz.prog.cellsOf 4=1:=by kernel_rfl
  simp[c9,c3,c4,c23,Value.cells] at g0 g1 g2 g3 g4;obtain⟨k0,e0,_,w0⟩:=DataW.trod_int Tryz.underlying3 g0;obtain⟨s2,e2,_,w2⟩:=DataW.trod_string Tryz.underlying9 g2;obtain⟨b3,e3,_⟩:=DataW.trod_bool Tryz.underlying4 g3;obtain⟨k4,e4,_,w4⟩:=DataW.trod_int Tryz.underlying3 g4;obtain⟨xs1,k1,hk1,hxy1,_,hxl1,hff1⟩:=DataW.trod_struct Tryz.underlying23 g1;match xs1,hxl1 with
  | [z0,z1],_ =>
   have i0:=hff1 0 _ rfl;have i1:=hff1 1 _ rfl;simp[c3,c2] at i0 i1;obtain⟨n0,f0,_,u0⟩:=DataW.trod_int Tryz.underlying2 i0;obtain⟨n1,f1,_,u1⟩:=DataW.trod_int Tryz.underlying3 i1;simp at e0 e2 e3 e4 f0 f1;subst e0 e2 e3 e4 f0 f1;exact⟨⟨k0,n0,n1,s2,b3,k4⟩,rfl,YH w0,YH u0,YH u1,YH w4,w2⟩
theorem gPow : Tryz.prog.globalNamed "internal/strconv.uint64pow10" = some 5 := by kernel_rfl
theorem gPowType:(Tryz.prog.globals[5]?).map (·.type)=some 175:=by kernel_rfl
theorem cells175:Tryz.prog.cellsOf 175=20:=by kernel_rfl
theorem cellsU64:Tryz.prog.cellsOf 83=1:=by kernel_rfl
theorem pow_tab {W : World} {laid : List (String × DataW Unit)} (keep : String × DataW Unit → Bool) (hk : laid.filter keep = [("internal/strconv.uint64pow10", Lib.tabData .u64 Lib.pow10Tab)]) (h : laidMetH Tryz.prog laid W) :
    Lib.TabIs Tryz.prog W "internal/strconv.uint64pow10" .u64 Lib.pow10Tab := by
  have h2 := h.filter keep
  rw [hk] at h2
  exact Lib.tabIs_of_head (rest := []) gPow gPowType Tryz.underlying175 Tryz.underlying83 cellsU64 cells175 h2
def Ya {H : Type} (ls : List (List UInt8)) : DataW H := .agg (ls.map fun l => .lit (.string l))
theorem cells_of_strs {H:Type} {enc:TypeId × Value->H} {P:Program} {w:World} {base:Nat} {sp:Nat->Bool} {held:Bool} {fuel:Nat} {t e:TypeId} {n:Nat} {cs:List Value} {ls:List (List UInt8)} {p:List MemPlace} (ht:P.underlying t=some (.array n e)) (he:P.underlying e=some .string) (hce:P.cellsOf e=1) (hct:P.cellsOf t=n) (h:DataW.trod enc P w base sp held fuel t cs=some (Ya ls,p)):cs=ls.map fun l=>Value.string (bs l):=by
 cases fuel with
 | zero=>simp[DataW.trod] at h
 | succ fuel =>
  simp only[DataW.trod,ht,hce,hct,Nat.mul_one] at h;split at h
  ·rename_i hl;obtain⟨xs,hm,hx⟩:=Option.map_eq_some_iff.1 h;have hxs:xs.map (·.1)=ls.map fun l=>(DataW.lit (.string l):DataW H):=by have:=congrArg Prod.fst hx;simpa [Ya] using this
   have hxl:xs.length=n:=by simpa using Lib.mapM_length hm
   have hzl:ls.length=n:=by have:=congrArg List.length hxs;simp at this;omega
   apply List.ext_getElem?;intro i;by_cases hi:i<n
   ·obtain⟨b,hb,hf⟩:=Lib.mapM_at hm i i (by simp[hi]);obtain⟨z,hc,rfl,_⟩:=DataW.trod_string he hf;have h1:cs[i]? = some (.string z):=by have:=congrArg (·[0]?) hc;simpa [List.getElem?_take,List.getElem?_drop] using this
    have h2:(xs.map (·.1))[i]? = some (DataW.lit (.string z.data.toList):DataW H):=by simp[hb]
    rw[hxs] at h2;simp only[List.getElem?_map,Option.map_eq_some_iff,DataW.lit.injEq,Lit.string.injEq] at h2;obtain⟨z',hz',e⟩:=h2;rw[h1,List.getElem?_map,hz',e];rfl
   ·rw[List.getElem?_eq_none (by omega),List.getElem?_eq_none (by simp;omega)]
  ·cases h
theorem gNames : Tryz.prog.globalNamed "quire/val.errorNames" = some 0 := by kernel_rfl
theorem gNamesType:(Tryz.prog.globals[0]?).map (·.type)=some 56:=by kernel_rfl
theorem cells56:Tryz.prog.cellsOf 56=8:=by kernel_rfl
theorem cells9:Tryz.prog.cellsOf 9=1:=by kernel_rfl
def Xz : List (List UInt8) := [[], [35, 68, 73, 86, 47, 48, 33], [35, 86, 65, 76, 85, 69, 33], [35, 82, 69, 70, 33], [35, 78, 65, 77, 69, 63], [35, 78, 85, 77, 33], [35, 78, 47, 65], [35, 67, 89, 67, 76, 69, 33]]
theorem names_tab {W : World} {laid : List (String × DataW Unit)} (keep : String × DataW Unit -> Bool) (hk : laid.filter keep = [("quire/val.errorNames", Ya Xz)]) (h : laidMetH Tryz.prog laid W) : Names W := by
 have h2:=h.filter keep;rw[hk] at h2;obtain⟨ps,⟨g',t',cs,fuel,p,q,hg',ht',hvar,hd,_,_⟩,_⟩:=h2;obtain rfl:=Option.some.inj (gNames.symm.trans hg');obtain rfl:=Option.some.inj (gNamesType.symm.trans ht');have e:=cells_of_strs Tryz.underlying56 Tryz.underlying9 cells9 cells56 hd;have hc:∀i,W.cell? ⟨0,i,none⟩=cs[i]? := fun i=>World.var?_cell gNames hvar i;obtain rfl:cs=(Xz.map fun l=>Value.string (bs l)).toArray:=by rw[<-e]
 exact⟨hc 0,hc 1,hc 2,hc 3,hc 4,hc 5,hc 6,hc 7⟩
end Go.Proofs.YtnhflnpjepiceaaGreatDoor
