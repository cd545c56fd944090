import Derived.Test.YtoncpcdepemlcaaGreatDoorNsdM
import Derived.Test.YtoncpcdepemlcaaGreatDoorRowk
import Derived.Test.YtoncpcdepemlcaaGreatDoorRows
import Derived.ProofKit
import Derived.OpenShut
import Derived.SizedLaws
import Derived.ChangeSame
import Derived.ChangeMaps5
import Derived.LaidSub
import Derived.Lay
import Derived.Shelf.Vars
namespace Go.Proofs.YtoncpcdepemlcaaGreatDoor
open Go.ChangeShapes Go.WideShapes Go.ChangeAt Go.RowKit
theorem gPow : Tryz.prog.globalNamed "internal/strconv.uint64pow10" = some 7 := by kernel_rfl
theorem gPowType:(Tryz.prog.globals[7]?).map (·.type)=some 204:=by kernel_rfl
theorem cells204:Tryz.prog.cellsOf 204=20:=by kernel_rfl
theorem cellsU64:Tryz.prog.cellsOf 123=1:=by kernel_rfl
theorem pow_tab {W : World} {laid : List (String × DataW Unit)} (keep : String × DataW Unit → Bool) (hk : laid.filter keep = [("internal/strconv.uint64pow10", Lib.tabData .u64 Lib.pow10Tab)]) (h : laidMetH Tryz.prog laid W) :
    Lib.TabIs Tryz.prog W "internal/strconv.uint64pow10" .u64 Lib.pow10Tab := by
  have h2 := h.filter keep
  rw [hk] at h2
  exact Lib.tabIs_of_head (rest := []) gPow gPowType Tryz.underlying204 Tryz.underlying123 cellsU64 cells204 h2
def strData {H : Type} (ls : List (List UInt8)) : DataW H := .agg (ls.map fun l => .lit (.string l))
theorem cells_of_strs {H:Type} {enc:TypeId × Value->H} {P:Program} {w:World} {base:Nat} {sp:Nat->Bool} {held:Bool} {fuel:Nat} {t e:TypeId} {n:Nat} {cs:List Value} {ls:List (List UInt8)} {p:List MemPlace} (ht:P.underlying t=some (.array n e)) (he:P.underlying e=some .string) (hce:P.cellsOf e=1) (hct:P.cellsOf t=n) (h:DataW.trod enc P w base sp held fuel t cs=some (strData ls,p)):cs=ls.map fun l=>Value.string (bs l):=by
 cases fuel with
 | zero=>simp[DataW.trod] at h
 | succ fuel =>
  simp only[DataW.trod,ht,hce,hct,Nat.mul_one] at h;split at h
  ·rename_i hl;obtain⟨xs,hm,hx⟩:=Option.map_eq_some_iff.1 h;have hxs:xs.map (·.1)=ls.map fun l=>(DataW.lit (.string l):DataW H):=by have:=congrArg Prod.fst hx;simpa [strData] using this
   have hxl:xs.length=n:=by simpa using Lib.mapM_length hm
   have hzl:ls.length=n:=by have:=congrArg List.length hxs;simp at this;omega
   apply List.ext_getElem?;intro i;by_cases hi:i<n
   ·obtain⟨b,hb,hf⟩:=Lib.mapM_at hm i i (by simp[hi]);obtain⟨z,hc,rfl,_⟩:=DataW.trod_string he hf;have h1:cs[i]? = some (.string z):=by have:=congrArg (·[0]?) hc;simpa [List.getElem?_take,List.getElem?_drop] using this
    have h2:(xs.map (·.1))[i]? = some (DataW.lit (.string z.data.toList):DataW H):=by simp[hb]
    rw[hxs] at h2;simp only[List.getElem?_map,Option.map_eq_some_iff,DataW.lit.injEq,Lit.string.injEq] at h2;obtain⟨z',hz',e⟩:=h2;rw[h1,List.getElem?_map,hz',e];rfl
   ·rw[List.getElem?_eq_none (by omega),List.getElem?_eq_none (by simp;omega)]
  ·cases h
theorem gNames : Tryz.prog.globalNamed "quire/val.errorNames" = some 1 := by kernel_rfl
theorem gNamesType:(Tryz.prog.globals[1]?).map (·.type)=some 117:=by kernel_rfl
theorem cells117:Tryz.prog.cellsOf 117=8:=by kernel_rfl
theorem cells9:Tryz.prog.cellsOf 9=1:=by kernel_rfl
def namesL : List (List UInt8) := [[], [35, 68, 73, 86, 47, 48, 33], [35, 86, 65, 76, 85, 69, 33], [35, 82, 69, 70, 33], [35, 78, 65, 77, 69, 63], [35, 78, 85, 77, 33], [35, 78, 47, 65], [35, 67, 89, 67, 76, 69, 33]]
theorem names_tab {W : World} {laid : List (String × DataW Unit)} (keep : String × DataW Unit -> Bool) (hk : laid.filter keep = [("quire/val.errorNames", strData namesL)]) (h : laidMetH Tryz.prog laid W) : Names W := by
 have h2:=h.filter keep;rw[hk] at h2;obtain⟨ps,⟨g',t',cs,fuel,p,q,hg',ht',hvar,hd,_,_⟩,_⟩:=h2;obtain rfl:=Option.some.inj (gNames.symm.trans hg');obtain rfl:=Option.some.inj (gNamesType.symm.trans ht');have e:=cells_of_strs Tryz.underlying117 Tryz.underlying9 cells9 cells117 hd;have hc:∀i,W.cell? ⟨1,i,none⟩=cs[i]? := fun i=>World.var?_cell gNames hvar i;obtain rfl:cs=(namesL.map fun l=>Value.string (bs l)).toArray:=by rw[<-e]
 exact⟨hc 0,hc 1,hc 2,hc 3,hc 4,hc 5,hc 6,hc 7⟩
theorem max_cell {W:World} (hsh:W.ShapedOpen Tryz.prog):∃m,W.cell? ⟨2,0,none⟩=some (.int .i64 m):=cell_of_shapedOpen_int (zero:=#[.int .i64 0]) (t:=3) hsh (of_decide_eq_true (by kernel_rfl)) (by kernel_rfl) rfl (by kernel_rfl) (by kernel_rfl) Tryz.underlying3
theorem env_of {W:World} (h1:Env W) (h2:∃m,W.cell? ⟨2,0,none⟩=some (.int .i64 m)):EnvN W:=by
 obtain⟨m,hm⟩:=h2;exact⟨h1,⟨m,hm⟩,World.block_lt_of_cell? _ _ hm⟩
end Go.Proofs.YtoncpcdepemlcaaGreatDoor
