import Derived.Test.YtoncpcdepemlcaaGreatDoorNsdM
import Derived.Test.YtoncpcdepemlcaaGreatDoorRowk
import Derived.Test.YtoncpcdepemlcaaGreatDoorRows
import Derived.ProofKit
import Derived.OpenShut
import Derived.SizedLaws
import Derived.ChangeSame
import Derived.ChangeMaps5
import Derived.LaidSub
import Derived.Lay
import Derived.Shelf.Vars
import Derived.Test.YtoncpcdepemlcaaGreatDoorNpsM
namespace Go.Proofs.YtoncpcdepemlcaaGreatDoor
open Go.ChangeShapes Go.WideShapes Go.ChangeAt Go.RowKit
theorem gPow : Tryz.prog.globalNamed "internal/strconv.uint64pow10" = some 7 := by kernel_rfl
theorem gPowType:(Tryz.prog.globals[7]?).map (·.type)=some 204:=by kernel_rfl
theorem cells204:Tryz.prog.cellsOf 204=20:=by kernel_rfl
theorem cellsU64:Tryz.prog.cellsOf 123=1:=by kernel_rfl
theorem pow_tab {W : World} {laid : List (String × DataW Unit)} (keep : String × DataW Unit → Bool) (hk : laid.filter keep = [("internal/strconv.uint64pow10", Lib.tabData .u64 Lib.pow10Tab)]) (h : laidMetH Tryz.prog laid W) :
    Lib.TabIs Tryz.prog W "internal/strconv.uint64pow10" .u64 Lib.pow10Tab := by
  have h2 := h.filter keep
  rw [hk] at h2
  exact Lib.tabIs_of_head (rest := []) gPow gPowType Tryz.underlying204 Tryz.underlying123 cellsU64 cells204 h2
def strData {H : Type} (ls : List (List UInt8)) : DataW H := .agg (ls.map fun l => .lit (.string l))
theorem cells_of_strs {H:Type} {enc:TypeId × Value->H} {P:Program} {w:World} {base:Nat} {sp:Nat->Bool} {held:Bool} {fuel:Nat} {t e:TypeId} {n:Nat} {cs:List Value} {ls:List (List UInt8)} {p:List MemPlace} (ht:P.underlying t=some (.array n e)) (he:P.underlying e=some .string) (hce:P.cellsOf e=1) (hct:P.cellsOf t=n) (h:DataW.trod enc P w base sp held fuel t cs=some (strData ls,p)):cs=ls.map fun l=>Value.string (bs l):=by
 cases fuel with
 | zero=>simp[DataW.trod] at h
 | succ fuel =>
  simp only[DataW.trod,ht,hce,hct,Nat.mul_one] at h;split at h
  ·rename_i hl;obtain⟨xs,hm,hx⟩:=Option.map_eq_some_iff.1 h;have hxs:xs.map (·.1)=ls.map fun l=>(DataW.lit (.string l):DataW H):=by have:=congrArg Prod.fst hx;simpa [strData] using this
   have hxl:xs.length=n:=by simpa using Lib.mapM_length hm
   have hzl:ls.length=n:=by have:=congrArg List.length hxs;simp at this;omega
   apply List.ext_getElem?;intro i;by_cases hi:i<n
   ·obtain⟨b,hb,hf⟩:=Lib.mapM_at hm i i (by simp[hi]);obtain⟨z,hc,rfl,_⟩:=DataW.trod_string he hf;have h1:cs[i]? = some (.string z):=by have:=congrArg (·[0]?) hc;simpa [List.getElem?_take,List.getElem?_drop] using this
    have h2:(xs.map (·.1))[i]? = some (DataW.lit (.string z.data.toList):DataW H):=by simp[hb]
    rw[hxs] at h2;simp only[List.getElem?_map,Option.map_eq_some_iff,DataW.lit.injEq,Lit.string.injEq] at h2;obtain⟨z',hz',e⟩:=h2;rw[h1,List.getElem?_map,hz',e];rfl
   ·rw[List.getElem?_eq_none (by omega),List.getElem?_eq_none (by simp;omega)]
  ·cases h
theorem gNames : Tryz.prog.globalNamed "quire/val.errorNames" = some 1 := by kernel_rfl
theorem gNamesType:(Tryz.prog.globals[1]?).map (·.type)=some 117:=by kernel_rfl
theorem cells117:Tryz.prog.cellsOf 117=8:=by kernel_rfl
theorem cells9:Tryz.prog.cellsOf 9=1:=by kernel_rfl
def namesL : List (List UInt8) := [[], [35, 68, 73, 86, 47, 48, 33], [35, 86, 65, 76, 85, 69, 33], [35, 82, 69, 70, 33], [35, 78, 65, 77, 69, 63], [35, 78, 85, 77, 33], [35, 78, 47, 65], [35, 67, 89, 67, 76, 69, 33]]
theorem names_tab {W : World} {laid : List (String × DataW Unit)} (keep : String × DataW Unit -> Bool) (hk : laid.filter keep = [("quire/val.errorNames", strData namesL)]) (h : laidMetH Tryz.prog laid W) : Names W := by
 have h2:=h.filter keep;rw[hk] at h2;obtain⟨ps,⟨g',t',cs,fuel,p,q,hg',ht',hvar,hd,_,_⟩,_⟩:=h2;obtain rfl:=Option.some.inj (gNames.symm.trans hg');obtain rfl:=Option.some.inj (gNamesType.symm.trans ht');have e:=cells_of_strs Tryz.underlying117 Tryz.underlying9 cells9 cells117 hd;have hc:∀i,W.cell? ⟨1,i,none⟩=cs[i]? := fun i=>World.var?_cell gNames hvar i;obtain rfl:cs=(namesL.map fun l=>Value.string (bs l)).toArray:=by rw[<-e]
 exact⟨hc 0,hc 1,hc 2,hc 3,hc 4,hc 5,hc 6,hc 7⟩
theorem max_cell {W:World} (hsh:W.ShapedOpen Tryz.prog):∃m,W.cell? ⟨2,0,none⟩=some (.int .i64 m):=cell_of_shapedOpen_int (zero:=#[.int .i64 0]) (t:=3) hsh (of_decide_eq_true (by kernel_rfl)) (by kernel_rfl) rfl (by kernel_rfl) (by kernel_rfl) Tryz.underlying3
theorem env_of {W:World} (h1:Env W) (h2:∃m,W.cell? ⟨2,0,none⟩=some (.int .i64 m)):EnvN W:=by
 obtain⟨m,hm⟩:=h2;exact⟨h1,⟨m,hm⟩,World.block_lt_of_cell? _ _ hm⟩
theorem gBti : Tryz.prog.globalNamed "quire/numfmt.builtins" = some 0 := by kernel_rfl
theorem gBtiType:(Tryz.prog.globals[0]?).map (·.type)=some 57:=by kernel_rfl
theorem cells57:Tryz.prog.cellsOf 57=14:=by kernel_rfl
theorem cells56:Tryz.prog.cellsOf 56=2:=by kernel_rfl
theorem cells3:Tryz.prog.cellsOf 3=1:=by kernel_rfl
theorem two_of {α : Type} : ∀ (l : List α), l.length = 2 → ∃ a b, l = [a, b]
  | [a, b], _ => ⟨a, b, rfl⟩
theorem bti_entry {H:Type} {enc:TypeId × Value->H} {w:World} {base:Nat} {sp:Nat->Bool} {held:Bool} {m:Nat} {cs2:List Value} {n:Int} {c:List UInt8} {p:List MemPlace} (h:DataW.trod enc Tryz.prog w base sp held m 56 cs2=some (.agg [.lit (.int .i64 n),.lit (.string c)],p)):cs2=[.int .i64 n,.string (bs c)]:=by
 obtain⟨ys,k,rfl,hx,hl,hlen,hf⟩:=DataW.trod_struct Tryz.underlying56 h;rw[cells56] at hl;obtain⟨a,b,rfl⟩:=two_of cs2 hl;have hlen:ys.length=2:=hlen;obtain⟨y0,y1,rfl⟩:=two_of ys hlen;have h0:DataW.trod enc Tryz.prog w base sp held k 3 (([a,b].drop 0).take (Tryz.prog.cellsOf 3))=some y0:=hf 0 _ rfl;have h1:DataW.trod enc Tryz.prog w base sp held k 9 (([a,b].drop 1).take (Tryz.prog.cellsOf 9))=some y1:=hf 1 _ rfl;rw[cells3] at h0;rw[cells9] at h1;simp only[List.map_cons,List.map_nil,Prod.mk.injEq,DataW.agg.injEq,List.cons.injEq,and_true] at hx;obtain⟨⟨e0,e1⟩,_⟩:=hx;obtain⟨n',hc0,hx0,_⟩:=DataW.trod_int Tryz.underlying3 h0;obtain⟨s,hc1,hx1,_⟩:=DataW.trod_string Tryz.underlying9 h1;have ha:a=.int .i64 n':=by simpa using hc0
 have hb:b=.string s:=by simpa using hc1
 rw[hx0] at e0;rw[hx1] at e1;simp only[DataW.lit.injEq,Lit.int.injEq,Lit.string.injEq,true_and] at e0 e1;rw[ha,hb,e0,e1];rfl
theorem bti_tab {W : World} {laid : List (String × DataW Unit)} (keep : String × DataW Unit -> Bool) (hk : laid.filter keep = [("quire/numfmt.builtins", Rows.laid_quire_numfmt_builtins)]) (h : laidMetH Tryz.prog laid W) : Bti W := by
 have h2:=h.filter keep;rw[hk] at h2;obtain⟨ps,⟨g',t',cs,fuel,p,q,hg',ht',hvar,hd,_,_⟩,_⟩:=h2;obtain rfl:=Option.some.inj (gBti.symm.trans hg');obtain rfl:=Option.some.inj (gBtiType.symm.trans ht');have hc:∀i,W.cell? ⟨0,i,none⟩=cs[i]? := fun i=>World.var?_cell gBti hvar i;obtain⟨xs,m,rfl,hx,hl,hlen,hf⟩:=DataW.trod_array Tryz.underlying57 hd;rw[cells56] at hf;have hm:xs.map (·.1)=[.agg [.lit (.int .i64 0),.lit (.string [71,101,110,101,114,97,108])],.agg [.lit (.int .i64 1),.lit (.string [48])],.agg [.lit (.int .i64 2),.lit (.string [48,46,48,48])],.agg [.lit (.int .i64 3),.lit (.string [35,44,35,35,48])],.agg [.lit (.int .i64 4),.lit (.string [35,44,35,35,48,46,48,48])],.agg [.lit (.int .i64 9),.lit (.string [48,37])],.agg [.lit (.int .i64 10),.lit (.string [48,46,48,48,37])]]:=by have:=congrArg Prod.fst hx;simp only[Rows.laid_quire_numfmt_builtins,DataW.agg.injEq] at this;exact this.symm
 have key:∀(i:Nat) (n:Int) (c:List UInt8),i<7->(xs.map (·.1))[i]? = some (.agg [.lit (.int .i64 n),.lit (.string c)])->cs[i*2]? = some (.int .i64 n)/\cs[i*2+1]? = some (.string (bs c)):=by intro i n c hi hxi;rw[List.getElem?_map,Option.map_eq_some_iff] at hxi;obtain⟨y,hy,hy2⟩:=hxi;obtain⟨d,pp⟩:=y;have e:=hf i hi;rw[hy] at e;have hy2:d=.agg [.lit (.int .i64 n),.lit (.string c)]:=hy2;subst hy2;have e2:=bti_entry e;have f0:=congrArg (·[0]?) e2;have f1:=congrArg (·[1]?) e2;simp only[List.getElem?_take,List.getElem?_drop] at f0 f1;refine⟨by simpa using f0,by simpa using f1⟩
 rw[hm] at key;have k0:=key 0 0 [71,101,110,101,114,97,108] (by decide) rfl;have k1:=key 1 1 [48] (by decide) rfl;have k2:=key 2 2 [48,46,48,48] (by decide) rfl;have k3:=key 3 3 [35,44,35,35,48] (by decide) rfl;have k4:=key 4 4 [35,44,35,35,48,46,48,48] (by decide) rfl;have k5:=key 5 9 [48,37] (by decide) rfl;have k6:=key 6 10 [48,46,48,48,37] (by decide) rfl;exact⟨(hc 0).trans k0.1,(hc 1).trans k0.2,(hc 2).trans k1.1,(hc 3).trans k1.2,(hc 4).trans k2.1,(hc 5).trans k2.2,(hc 6).trans k3.1,(hc 7).trans k3.2,(hc 8).trans k4.1,(hc 9).trans k4.2,(hc 10).trans k5.1,(hc 11).trans k5.2,(hc 12).trans k6.1,(hc 13).trans k6.2⟩
end Go.Proofs.YtoncpcdepemlcaaGreatDoor
