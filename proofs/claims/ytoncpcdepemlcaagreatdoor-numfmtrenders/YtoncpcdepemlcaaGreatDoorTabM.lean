import Derived.Test.YtoncpcdepemlcaaGreatDoorRows
import Derived.Test.YtoncpcdepemlcaaGreatDoorBase
import Derived.WalkKit
import Derived.WalkSpells
import Derived.WalkLawsBesides
import Derived.Deep.QuietTactic
import Derived.BigQuiet
import Derived.Deep.WholeRow
import Derived.Laws.ResultCell
import Derived.Test.YtoncpcdepemlcaaGreatDoorDpuM
import Derived.Laws.Rows
namespace Go.Proofs.YtoncpcdepemlcaaGreatDoor
open Go.RowKit
def Row (W : World) (B : Nat) (t : TypeId) (cs : Array Value) : Prop := W.heap[B]? = some (.cells cs t (0, 0))
theorem Row.lt {W:World} {B:Nat} {t:TypeId} {cs:Array Value} (h:Row W B t cs):B<W.heap.size:=(Array.getElem?_eq_some_iff.1 h).1
theorem Row.cell {W:World} {B:Nat} {t:TypeId} {cs:Array Value} (h:Row W B t cs) {i:Nat} {v:Value} (hi:cs[i]? = some v):W.cell? ⟨B,i,none⟩=some v:=by
 simp[World.cell?,show W.heap[B]? = _ from h,hi]
theorem Row.frozen {W:World} {B:Nat} {t:TypeId} {cs:Array Value} (h:Row W B t cs) (o:Nat):W.frozen? ⟨B,o,none⟩=false:=by simp[World.frozen?,show W.heap[B]? = _ from h]
theorem Row.new (W:World) (t:TypeId) (cs:Array Value):Row (W.alloc (.cells cs t)) W.heap.size t cs:=World.alloc_heap_new W _
theorem Row.kept {S:Nat→Prop} {W W':World} {B:Nat} {t:TypeId} {cs:Array Value} (h:Row W B t cs) (hk:Kept S W W') (hS:S B):Row W' B t cs:=(hk.block B hS).trans h
theorem Row.below {N:Nat} {W W':World} {B:Nat} {t:TypeId} {cs:Array Value} (h:Row W B t cs) (hk:Below N W W') (hS:B<N):Row W' B t cs:=(hk.block B hS).trans h
theorem Row.alloc {W:World} {B:Nat} {t:TypeId} {cs:Array Value} (h:Row W B t cs) (o:Obj):Row (W.alloc o) B t cs:=(Below.heap_alloc W o B h.lt).trans h
theorem Row.set {W:World} {B:Nat} {t:TypeId} {cs:Array Value} (i:Nat) (v:Value) (h:Row W B t cs):Row (W.setCell ⟨B,i,none⟩ v) B t (cs.setIfInBounds i v):=by
 obtain⟨hlt,hk⟩:=Array.getElem?_eq_some_iff.1 h;show (W.heap.modify B _)[B]? = _;rw[Array.getElem?_eq_getElem (by rw[Array.size_modify];exact hlt),Array.getElem_modify_self,hk];rfl
theorem Row.setRow {W:World} {B:Nat} {t:TypeId} {cs:Array Value} (cs':Array Value) (h:Row W B t cs):Row (W.setRow B cs') B t cs':=by
 obtain⟨hlt,hk⟩:=Array.getElem?_eq_some_iff.1 h;show (W.heap.modify B _)[B]? = _;rw[Array.getElem?_eq_getElem (by rw[Array.size_modify];exact hlt),Array.getElem_modify_self,hk]
theorem heap_setRow (W:World) (B:Nat) (cs:Array Value) (k:Nat) (hk:k≠B):(W.setRow B cs).heap[k]? = W.heap[k]? := by
 show (W.heap.modify B _)[k]? = _;rw[Array.getElem?_modify,if_neg (fun e=>hk e.symm)]
theorem Kept.setRow {S:Nat→Prop} {a w:World} (h:Kept S a w) {B:Nat} (hB:¬ S B) (cs:Array Value):Kept S a (w.setRow B cs):=h.trans ⟨rfl,rfl,rfl,by simp[World.setRow],fun k hk=>heap_setRow w B cs k (fun e=>hB (e ▸ hk))⟩
theorem below_setRow {N:Nat} {a w:World} (h:Below N a w) {B:Nat} (hB:N≤B) (cs:Array Value):Below N a (w.setRow B cs):=((Kept.of_below (S:=(· < N)) h (fun _ h=>h)).setRow (fun (e:B<N)=>absurd e (by omega)) cs).below (fun _ h=>h)
def IntsIn (S : Nat → Prop) (W : World) (sv : Value) (zs : List Int) : Prop :=
  (zs = [] ∧ ∃ a cap, sv = .slice a 0 cap) ∨
  ∃ b off cap, sv = .slice (some ⟨b, off, none⟩) zs.length cap ∧ S b ∧ ∀ j : Nat, j < zs.length → W.cell? ⟨b, off + j, none⟩ = some (.int .i64 (zs[j]?.getD 0))
theorem IntsIn.kept {S : Nat → Prop} {A B : World} (h : Kept S A B) {sv : Value} {zs : List Int} : IntsIn S A sv zs → IntsIn S B sv zs
  | .inl e => .inl e
  | .inr ⟨b, off, cap, e, hb, hc⟩ => .inr ⟨b, off, cap, e, hb, fun j hj => (h.cell (p := ⟨b, off + j, none⟩) hb).trans (hc j hj)⟩
theorem IntsIn.mono {S T : Nat → Prop} {A : World} (hT : ∀ k, S k → T k) {sv : Value} {zs : List Int} : IntsIn S A sv zs → IntsIn T A sv zs
  | .inl e => .inl e
  | .inr ⟨b, off, cap, e, hb, hc⟩ => .inr ⟨b, off, cap, e, hT _ hb, hc⟩
theorem IntsIn.below {N:Nat} {A B:World} (h:Below N A B) {sv:Value} {zs:List Int} (hi:IntsIn (· < N) A sv zs):IntsIn (· < N) B sv zs:=hi.kept (Kept.of_below h (fun _ h=>h))
theorem IntsIn.at {S:Nat->Prop} {A:World} {a:Option Addr} {n cap:Nat} {zs:List Int} (h:IntsIn S A (.slice a n cap) zs) (k:Nat) (hk:k<zs.length):∃b off,a=some ⟨b,off,none⟩/\S b/\A.cell? ⟨b,off+k,none⟩=some (.int .i64 (zs[k]?.getD 0)):=by
 rcases h with ⟨rfl,_⟩|⟨b,off,cap',e,hb,hc⟩
 ·simp at hk
 ·simp only[Value.slice.injEq] at e;exact⟨b,off,e.1,hb,hc k hk⟩
set_option maxRecDepth 100000
set_option maxHeartbeats 800000
def wv (neg : Bool) (hi lo : Nat) (e : Int) : Value := .agg #[.bool neg, .int .u64 hi, .int .u64 lo, .int .i64 e]
def dv (c e : Int) : Value := .agg #[.int .i64 c, .int .i64 e]
theorem Tryz.zero57:(Tryz.prog.info? 125).map (fun i=>(i.zero,i.size))=some (some (.agg #[.bool false,.int .u64 0,.int .u64 0,.int .i64 0]),4):=by kernel_rfl
theorem Tryz.zero23:(Tryz.prog.info? 38).map (fun i=>(i.zero,i.size))=some (some (.agg #[.int .i64 0,.int .i64 0]),2):=by kernel_rfl
theorem load57 {W:World} {B:Nat} {cs:Array Value} (h:Row W B 125 cs) (hs:cs.size=4):(loadVar 125 ⟨B,0,none⟩).run Tryz.prog W=.ok (.agg cs) W:=run_loadVar_row _ _ 125 125 cs (0,0) _ h Tryz.underlying125 rfl (by rw[hs];exact(zero_of_info Tryz.zero57).2)
theorem load23 {W:World} {B:Nat} {cs:Array Value} (h:Row W B 38 cs) (hs:cs.size=2):(loadVar 38 ⟨B,0,none⟩).run Tryz.prog W=.ok (.agg cs) W:=run_loadVar_row _ _ 38 38 cs (0,0) _ h Tryz.underlying38 rfl (by rw[hs];exact(zero_of_info Tryz.zero23).2)
theorem ret_one {fn:Func} {p:Tmp} {ty:TypeId} (h:fn.results=#[.cell p ty]) {tmps:Array Value} {w:World} {g:Nat} {v:Value} (hp:tmps.getD p undef=.pointer (some ⟨g,0,none⟩)) (hl:(loadVar ty ⟨g,0,none⟩).run Tryz.prog w=.ok v w):(results fn tmps).run Tryz.prog w=.ok v w:=by
 have hp':tmps[p]?.getD undef=.pointer (some ⟨g,0,none⟩):=by simpa using hp
 simp[results,h,hp',asAddr,hl]
theorem ret_two {fn:Func} {p u:Tmp} {ty:TypeId} (h:fn.results=#[.cell p ty,.tmp u]) {tmps:Array Value} {w:World} {g:Nat} {v x:Value} (hp:tmps.getD p undef=.pointer (some ⟨g,0,none⟩)) (hx:tmps.getD u undef=x) (hl:(loadVar ty ⟨g,0,none⟩).run Tryz.prog w=.ok v w):(results fn tmps).run Tryz.prog w=.ok (.tuple #[v,x]) w:=by
 rw[results_cell_tmp h,hp,hx];simp[asAddr,Result.andThen,hl]
theorem Row.four {W:World} {B:Nat} {t:TypeId} {a b c d:Value} (h:Row W B t #[a,b,c,d]):W.cell? ⟨B,0,none⟩=some a∧W.cell? ⟨B,1,none⟩=some b∧W.cell? ⟨B,2,none⟩=some c∧W.cell? ⟨B,3,none⟩=some d:=⟨h.cell rfl,h.cell rfl,h.cell rfl,h.cell rfl⟩
theorem Row.duo {W:World} {B:Nat} {t:TypeId} {a b:Value} (h:Row W B t #[a,b]):W.cell? ⟨B,0,none⟩=some a∧W.cell? ⟨B,1,none⟩=some b:=⟨h.cell rfl,h.cell rfl⟩
theorem Row.set4 {W:World} {B:Nat} {t:TypeId} {a b c d:Value} (h:Row W B t #[a,b,c,d]) (a' b' c' d':Value):Row ((((W.setCell ⟨B,0,none⟩ a').setCell ⟨B,1,none⟩ b').setCell ⟨B,2,none⟩ c').setCell ⟨B,3,none⟩ d') B t #[a',b',c',d']:=(((h.set 0 a').set 1 b').set 2 c').set 3 d'
theorem Row.new1 (w:World) (o:Obj) (t:TypeId) (cs:Array Value):Row ((w.alloc o).alloc (.cells cs t)) (w.heap.size+1) t cs:=by
 have:=Row.new (w.alloc o) t cs;simpa using this
theorem u64_wrap (c:Int):IntKind.u64.wrap c=c % 18446744073709551616:=by
 simp[IntKind.wrap,IntKind.bits,IntKind.signed]
theorem u64_neg (c:Int) (h1 : -9223372036854775808<=c) (hc:c<0):IntKind.u64.wrap (-IntKind.u64.wrap c)=((c.natAbs:Nat):Int):=by
 rw[u64_wrap,u64_wrap];omega
theorem within_any (e:Int) (w:World):Calls Tryz.prog 74 #[.int .i64 e] w fun r w'=>r=.returned (.bool (decide (-18<=e/\e<=18)))/\w'=w:=by
 by_cases h1 : -18<=e
 ·have e1:decide (-18<=e)=true:=decide_eq_true h1;have HF:Hid (decide (-18<=e/\e<=18)=decide (e<=18)):=by show _=_;rw[decide_eq_decide];omega
  go_enter Tryz.func74,Tryz.ntmps74;go_wp2;go_ret;exact⟨by rw[HF.out];rfl,rfl⟩
 ·have e1:decide (-18<=e)=false:=decide_eq_false h1;go_enter Tryz.func74,Tryz.ntmps74;go_wp2;go_ret;exact⟨rfl,rfl⟩
theorem zero_any (neg:Bool) (hi lo:Nat) (e:Int) (w:World):Calls Tryz.prog 107 #[wv neg hi lo e] w fun r w'=>r=.returned (.bool (decide (hi=0/\lo=0)))/\Below w.heap.size w w':=by
 unfold wv;by_cases h1:hi=0
 ·subst h1;have HF:Hid (decide (0=0/\lo=0)=((lo:Int)==0)):=by show _=_;by_cases h:lo=0<;>simp[h]
  go_enter Tryz.func107,Tryz.ntmps107;go_wp2;go_ret;exact⟨by rw[<-HF.out];simp,(Below.refl _ w).alloc (Nat.le_refl _) _⟩
 ·have e1:((hi:Int)==0)=false:=by simp;omega
  have HF:Hid (decide (hi=0/\lo=0)=false):=by show _=_;simp[h1]
  clear h1;go_enter Tryz.func107,Tryz.ntmps107;go_wp2;go_ret;exact⟨by rw[HF.out];rfl,(Below.refl _ w).alloc (Nat.le_refl _) _⟩
theorem number_any (c e:Int) (h1 : -9223372036854775808<=c) (h2:c<=9223372036854775807) (w:World):Calls Tryz.prog 105 #[.int .i64 c,.int .i64 e] w fun r w'=>r=.returned (wv (decide (c<0)) 0 c.natAbs e)/\Below w.heap.size w w':=by
 by_cases hc:c<0
 ·have e1:decide (c<0)=true:=decide_eq_true hc;have HW:Hid (IntKind.u64.wrap (-IntKind.u64.wrap c)=((c.natAbs:Nat):Int)):=u64_neg c h1 hc;go_enter Tryz.func105,Tryz.ntmps105;go_wp2;rw[HW.out];refine bodyPost_ret (v:=wv true 0 c.natAbs e) (ret_one rfl (g:=w.heap.size) rfl (load57 (Row.alloc (Row.new w 125 _) _) rfl)) rfl ⟨by rw[e1],?_⟩;exact((Below.refl _ w).alloc (Nat.le_refl _) _).alloc (by simp) _
 ·have e1:decide (c<0)=false:=decide_eq_false hc;obtain⟨n,rfl⟩:=Int.eq_ofNat_of_zero_le (Int.not_lt.1 hc);go_enter Tryz.func105,Tryz.ntmps105;go_wp2;refine bodyPost_ret (v:=wv false 0 n e) (ret_one rfl (g:=w.heap.size) rfl (load57 (Row.alloc (Row.new w 125 _) _) rfl)) rfl ⟨rfl,?_⟩;exact((Below.refl _ w).alloc (Nat.le_refl _) _).alloc (by simp) _
theorem turned_any (neg:Bool) (hi lo:Nat) (e:Int) (w:World):Calls Tryz.prog 109 #[wv neg hi lo e] w fun r w'=>r=.returned (wv (!neg) hi lo e)/\Below w.heap.size w w':=by
 unfold wv;go_enter Tryz.func109,Tryz.ntmps109;go_wp2;refine bodyPost_ret (ret_one rfl (g:=w.heap.size+1) rfl (load57 (Row.new1 w _ 125 _) rfl)) rfl ⟨rfl,?_⟩;exact((Below.refl _ w).alloc (Nat.le_refl _) _).alloc (by simp) _
theorem sign_any (neg:Bool) (hi lo:Nat) (e:Int) (w:World):Calls Tryz.prog 80 #[wv neg hi lo e] w fun r w'=>r=.returned (.int .i64 (if hi=0/\lo=0 then 0 else if neg then -1 else 1))/\Below w.heap.size w w':=by
 have hz:=zero_any neg hi lo e;unfold wv at *;have hb0:∀o,Below w.heap.size w (w.alloc o):=fun o=>(Below.refl _ w).alloc (Nat.le_refl _) _;by_cases h1:hi=0/\lo=0
 ·obtain⟨rfl,rfl⟩:=h1;go_enter Tryz.func80,Tryz.ntmps80;go_wp2_with fail;refine(hz _).mono ?_;rintro _ w1 ⟨rfl,hB⟩;go_wp2;go_ret;exact⟨rfl,(hb0 _).trans (hB.mono (by simp))⟩
 ·rw[decide_eq_false h1] at hz;rw[if_neg h1];clear h1;cases neg
  ·go_enter Tryz.func80,Tryz.ntmps80;go_wp2_with fail;have hr:=Row.new w 125 #[.bool false,.int .u64 hi,.int .u64 lo,.int .i64 e];refine(hz _).mono ?_;rintro _ w1 ⟨rfl,hB⟩;obtain⟨c0,c1,c2,c3⟩:=(hr.below hB (by simp)).four;go_wp2;go_ret;exact⟨rfl,(hb0 _).trans (hB.mono (by simp))⟩
  ·go_enter Tryz.func80,Tryz.ntmps80;go_wp2_with fail;have hr:=Row.new w 125 #[.bool true,.int .u64 hi,.int .u64 lo,.int .i64 e];refine(hz _).mono ?_;rintro _ w1 ⟨rfl,hB⟩;obtain⟨c0,c1,c2,c3⟩:=(hr.below hB (by simp)).four;go_wp2;go_ret;exact⟨rfl,(hb0 _).trans (hB.mono (by simp))⟩
theorem i64_neg (lo:Nat) (h:lo<=9223372036854775808):wrap64 (IntKind.u64.wrap (-(lo:Int))) = -(lo:Int):=by
 rw[u64_wrap];unfold wrap64;omega
theorem signed_any (neg : Bool) (hi lo : Nat) (e : Int) (w : World) : Calls Tryz.prog 126 #[wv neg hi lo e] w fun r w' =>
    r = .returned (if hi = 0 ∧ lo ≤ 9223372036854775807 + neg.toNat then .tuple #[.int .i64 (if neg then -(lo : Int) else lo), .bool true] else .tuple #[.int .i64 0, .bool false]) ∧ Below w.heap.size w w' := by
  unfold wv
  have hb0 : ∀ o, Below w.heap.size w (w.alloc o) := fun o => (Below.refl _ w).alloc (Nat.le_refl _) _
  by_cases h1 : hi = 0
  · subst h1
    cases neg
    · by_cases h2 : lo ≤ 9223372036854775807
      · have h3 : ¬ ((9223372036854775807 : Int) < (lo : Int)) := by omega
        rw [if_pos ⟨rfl, by simpa using h2⟩]
        go_enter Tryz.func126, Tryz.ntmps126
        go_wp2
        exact bodyPost_ret (results_tmp2 rfl _ _ _) rfl ⟨rfl, hb0 _⟩
      · have h3 : ((9223372036854775807 : Int) < (lo : Int)) := by omega
        rw [if_neg (fun h => h2 (by simpa using h.2))]
        go_enter Tryz.func126, Tryz.ntmps126
        go_wp2
        exact bodyPost_ret (results_tmp2 rfl _ _ _) rfl ⟨rfl, hb0 _⟩
    · by_cases h2 : lo ≤ 9223372036854775808
      · have h3 : ¬ ((9223372036854775808 : Int) < (lo : Int)) := by omega
        have HN : Hid (wrap64 (IntKind.u64.wrap (-(lo : Int))) = -(lo : Int)) := i64_neg lo h2
        rw [if_pos ⟨rfl, by simpa using h2⟩]
        go_enter Tryz.func126, Tryz.ntmps126
        go_wp2
        rw [HN.out]
        exact bodyPost_ret (results_tmp2 rfl _ _ _) rfl ⟨rfl, hb0 _⟩
      · have h3 : ((9223372036854775808 : Int) < (lo : Int)) := by omega
        rw [if_neg (fun h => h2 (by simpa using h.2))]
        go_enter Tryz.func126, Tryz.ntmps126
        go_wp2
        exact bodyPost_ret (results_tmp2 rfl _ _ _) rfl ⟨rfl, hb0 _⟩
  · have h3 : ((hi : Int) != 0) = true := by simp; omega
    rw [if_neg (fun h => h1 h.1)]
    clear h1
    cases neg
    · go_enter Tryz.func126, Tryz.ntmps126
      go_wp2
      exact bodyPost_ret (results_tmp2 rfl _ _ _) rfl ⟨rfl, hb0 _⟩
    · go_enter Tryz.func126, Tryz.ntmps126
      go_wp2
      exact bodyPost_ret (results_tmp2 rfl _ _ _) rfl ⟨rfl, hb0 _⟩
end Go.Proofs.YtoncpcdepemlcaaGreatDoor
