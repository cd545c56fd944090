import Derived.Test.YtoncpcdepemlcaaGreatDoorDdg
import Derived.Test.YtoncpcdepemlcaaGreatDoorWbsM
import Derived.Test.YtoncpcdepemlcaaGreatDoorPahM
import Derived.Test.YtoncpcdepemlcaaGreatDoorPdk
import Derived.Test.YtoncpcdepemlcaaGreatDoorVrtM
import Derived.Test.YtoncpcdepemlcaaGreatDoorSh3
namespace Go.Proofs.YtoncpcdepemlcaaGreatDoor
open Go.RowKit Go.Shelf
attribute [local go_sem] Oper.semAt_some
def foldS (xs : List (Int × Nat)) : Option Wd := xs.foldl (fun o x => o.bind (fun y => sumW y ⟨false, x.2, x.1⟩)) (some ⟨false, 0, 0⟩)
def parsedD (l : List UInt8) : Option (Int × Int) := match foldS (readR l).1.digs with
  | none => none
  | some y => tellW (readR l).1.neg y.n y.e
def decPv (l : List UInt8) : Value := if decide (255 < l.length) || !(readR l).2 then .tuple #[dv 0 0, .int .i64 40] else decV (parsedD l)
theorem row_grownP {B7:Nat} {A B:World} {row:Option Nat} {t:TypeId} {cs:Array Value} (h:Row A B7 t cs) (hg:A.grownBy B row) (hr:∀r,row=some r->∃o:Obj,A.heap[r]? = some o/\o.isCells=false):Row B B7 t cs:=by
 refine(hg.block B7 h.lt ?_).trans h;intro e;obtain⟨o,ho,hc⟩:=hr B7 e.symm;obtain rfl:=Option.some.inj (ho.symm.trans h);cases hc
theorem row_put {W:World} {D B:Nat} {t:TypeId} {cs:Array Value} {o:Obj} {os:Option (List Deferred)} (h:Row W B t cs) (hK:W.heap[D]? = some (.deferred os)):Row (W.putObj D o) B t cs:=by
 have hne:D≠B:=fun e=>by rw[e,show W.heap[B]? = _ from h] at hK;cases hK
 exact(World.putObj_heap_other (Ne.symm hne)).trans h
theorem loadE {W:World} {B:Nat} {n:Int} (h:Row W B 23 #[.int .i64 n]):(loadVar 23 ⟨B,0,none⟩).run Tryz.prog W=.ok (.int .i64 n) W:=by
 have c:=h.cell (i:=0) (v:=.int .i64 n) rfl;go_simp
theorem ret_cells {fn:Func} {p q:Tmp} {ty tz:TypeId} (h:fn.results=#[.cell p ty,.cell q tz]) {tmps:Array Value} {w:World} {g g2:Nat} {v v2:Value} (hp:tmps.getD p undef=.pointer (some ⟨g,0,none⟩)) (hq:tmps.getD q undef=.pointer (some ⟨g2,0,none⟩)) (hl:(loadVar ty ⟨g,0,none⟩).run Tryz.prog w=.ok v w) (hl2:(loadVar tz ⟨g2,0,none⟩).run Tryz.prog w=.ok v2 w):(results fn tmps).run Tryz.prog w=.ok (.tuple #[v,v2]) w:=by
 have hp':tmps[p]?.getD undef=.pointer (some ⟨g,0,none⟩):=by simpa using hp
 have hq':tmps[q]?.getD undef=.pointer (some ⟨g2,0,none⟩):=by simpa using hq
 simp[results,h,hp',hq',asAddr,hl,hl2]
theorem decV_formP (o:Option (Int × Int)):∃c e er:Int,decV o=.tuple #[.agg #[.int .i64 c,.int .i64 e],.int .i64 er]:=by
 cases o with
 | none=>exact⟨0,0,30,rfl⟩
 | some p=>exact⟨p.1,p.2,0,rfl⟩
theorem keeps_set (B:Nat) (W:World) (b i:Nat) (v:Value):KeepsFrom B W (W.setCell ⟨b,i,none⟩ v):=(KeepsOthers.setCell W ⟨b,i,none⟩ v).from B
end Go.Proofs.YtoncpcdepemlcaaGreatDoor
namespace Go.Proofs.YtoncpcdepemlcaaGreatDoor
open Go.RowKit Go.Shelf
theorem tellW_tell (neg:Bool) (n:Nat) (e:Int):tellW neg n e=tell (if neg then -(n:Int) else (n:Int)) e:=by
 unfold tell;by_cases h:n=0
 ·subst h;cases neg<;>simp[tellW_zero]
 ·cases neg
  ·rw[if_neg (by simp),decide_eq_false (by omega)];congr 1
  ·rw[if_pos rfl,decide_eq_true (by omega)];congr 1;omega
open Go.RowKit
def R1 (w W : World) (q : Array Value) : Prop := Row W w.heap.size 40 q ∧ Below w.heap.size w W
theorem R1.start (w:World) (q:Array Value):R1 w (w.alloc (.cells q 40)) q:=⟨Row.new w 40 q,(Below.refl _ w).alloc (Nat.le_refl _) _⟩
theorem R1.next {w W W':World} {q:Array Value} (h:R1 w W q) (b:Below W.heap.size W W'):R1 w W' q:=⟨h.1.below b h.1.lt,h.2.trans (b.mono h.2.size)⟩
theorem R1.drew {w W:World} {q:Array Value} (h:R1 w W q):R1 w W.drew q:=h.next (Below.refl _ W).drew
theorem R1.or {w W W':World} {q:Array Value} (h:R1 w W q) (e:W'=W\/W'=W.drew):R1 w W' q:=by
 rcases e with rfl|rfl
 ·exact h
 ·exact h.drew
theorem R1.alloc {w W:World} {q:Array Value} (h:R1 w W q) (o:Obj):R1 w (W.alloc o) q:=h.next ((Below.refl _ W).alloc (Nat.le_refl _) _)
theorem R1.set {w W:World} {a b c d e f:Value} (h:R1 w W #[a,b,c,d,e,f]) (a' b' c' d' e' f':Value):R1 w ((((((W.setCell ⟨w.heap.size,0,none⟩ a').setCell ⟨w.heap.size,1,none⟩ b').setCell ⟨w.heap.size,2,none⟩ c').setCell ⟨w.heap.size,3,none⟩ d').setCell ⟨w.heap.size,4,none⟩ e').setCell ⟨w.heap.size,5,none⟩ f') #[a',b',c',d',e',f']:=⟨h.1.set6 _ _ _ _ _ _,below_set6 h.2 (Nat.le_refl _) _ _ _ _ _ _⟩
theorem R1.res {w W:World} {q:Array Value} (h:R1 w W q) (hs:q.size=6):(loadVar 40 ⟨w.heap.size,0,none⟩).run Tryz.prog W=.ok (.agg q) W:=load25 h.1 hs
end Go.Proofs.YtoncpcdepemlcaaGreatDoor
