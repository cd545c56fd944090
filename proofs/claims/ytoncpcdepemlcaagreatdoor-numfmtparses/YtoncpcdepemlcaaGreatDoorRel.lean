import Derived.RangeFuncNested
import Derived.RangeFuncBox
import Derived.RangeFuncBound
import Derived.RangeFuncCalls
import Derived.RangeFuncLeaves
import Derived.Test.YtoncpcdepemlcaaGreatDoorBase
namespace Go.Proofs.YtoncpcdepemlcaaGreatDoor
set_option maxHeartbeats 1000000
open Go.RowKit
variable {P : Program} {F : Fence} {n : Nat}
def SeqRel {α : Type} (F : Fence) (n : Nat) (P : Program) (g : Nat) (lb : Array Value) (encs : α → Array Value) (Kp : World → World → Prop) (R : List α → α → Prop) (E : List α → Prop) (w : World) : Prop :=
  ∀ (l : Nat) (J : List α → World → Prop) (W : World), Below w.heap.size w W →
    (∀ pre x V, J pre V → R pre x → YieldAt F (n - 1) P l (encs x) V fun e V' => e = .returned (.bool true) ∧ J (pre ++ [x]) V' ∧ Kp V V') → J [] W →
    CallsIn F n P g (#[.func (.yield l) #[] #[]] ++ lb) W fun e V => (∃ v, e = .returned v) ∧ ∃ xs, E xs ∧ J xs V
def relPost {α : Type} (B : Nat) (Kp : World → World → Prop) (I : List α → World → Prop) (xs : List α) (W : World) : Exit → Act → World → Prop
  | .normal, _, V => KeepsFrom B W V ∧ Kp W V ∧ I xs V
  | _, _, _ => False
theorem wpIn_range_rel {α : Type} {g:Operand} {ps:Array Tmp} {assign body:Code} {Q:Exit->Act->World->Prop} {a:Act} {w:World} (hro:F.round=none) (h1:1<=n) {gf:Nat} {lb:Array Value} (hg:a.eval g=.func (.func gf) #[] lb) (hFg:F.fn gf) (eg:∀args w,(callFunc gf args).run P w=.ok (.enter gf args) w) {encs : α -> Array Value} {Kp:World->World->Prop} {R:List α -> α -> Prop} {E:List α -> Prop} (hseq:SeqRel F (n-1) P gf lb encs Kp R E w) (hKt:∀ {A B C:World},Kp A B->Kp B C->Kp A C) (hKb:∀(W:World) (l:Nat) (o o':Obj),w.heap.size<=l->W.heap[l]? = some o->o.isCells=false->o.isWalk=false->Kp W (W.putObj l o')) (hps:∀x,(encs x).size=ps.size) (I:List α -> World->Prop) (hI:OwnFrom w.heap.size I) (h0:I [] w) (a₁ : α -> Act) (hassign:∀(l:Nat) (x : α) (W:World) (K:Act->World->Prop),K (a₁ x) W->assign.wpIn (F.inRound l) (n-1-1) P (Exit.then K (fun _ _ _=>False)) { tmps:=(ps.zip (encs x)).foldl (fun t (p,v)=>t.setIfInBounds p v) a.tmps,defers:=[] } W) (hbody:∀(l:Nat) (pre:List α) (x : α) (W:World),I pre W->R pre x->body.wpIn (F.inRound l) (n-1-1) P (relPost w.heap.size Kp I (pre++[x]) W) (a₁ x) W) (hdone:∀(D:Nat) (xs:List α) (W:World),w.heap.size<=D->E xs->I xs W->W.heap[D]? = some (.deferred (some []))->Q .normal { a with defers:={ target:=.collected D,args:=#[] }::a.defers } W):(Code.rangeFunc g ps assign body).wpIn F n P Q a w:=by
 refine wpIn_rangeFunc fun fn hfn => ?_;rw[hro];let book (st:LoopState):Loop:={ state:=st,pending:=none,fn,tmps:=a.tmps,params:=ps,assign,body,defers:=w.heap.size };have mk:∃ V,V=(w.alloc (.deferred (some []))).alloc (.loop (book .ready)):=⟨_,rfl⟩;obtain⟨V,hV⟩:=mk;have bL:V.heap[w.heap.size+1]? = some (.loop (book .ready)):=by have:=World.alloc_heap_new (w.alloc (.deferred (some []))) (.loop (book .ready));rw[World.size_alloc] at this;rw[hV];exact this
 have bD:V.heap[w.heap.size]? = some (.deferred (some [])):=by rw[hV];exact(Below.heap_alloc _ _ _ (by simp)).trans (World.alloc_heap_new w _)
 have bB:Below w.heap.size w V:=hV ▸ ((Below.refl _ w).alloc (Nat.le_refl _) _).alloc (by simp) _;have bI:I [] V:=hV ▸ hI.alloc _ (hI.alloc _ h0);refine⟨w.heap.size+1,[{ target:=.collected w.heap.size,args:=#[] }],V,{ target:=.fn (.func gf) lb,args:=#[.func (.yield (w.heap.size+1)) #[] #[]] },V,gf,#[.func (.yield (w.heap.size+1)) #[] #[]]++lb,V,by rw[hV];exact run_enterLoop_outer _ _ _ _ _,by simp only[resolve,hg];simp[go_sem],?_,by simp[invoke,go_sem,eg],fun _=>h1,?_⟩
 ·intro f hf;simp[Target.leads] at hf;exact hf ▸ hFg
 refine(hseq (w.heap.size+1) (fun pre W=>I pre W/\W.heap[w.heap.size+1]? = some (.loop (book .ready))/\W.heap[w.heap.size]? = some (.deferred (some []))) V bB ?_ ⟨bI,bL,bD⟩).mono ?_
 ·rintro pre x W ⟨hi,hl,hd⟩ hR;have hsz:w.heap.size+1<W.heap.size:=(Array.getElem?_eq_some_iff.1 hl).1;refine⟨fn,_,assign,body,run_yield (P:=P) (args:=encs x) hl (hps x),roundIn_of_wpIn hfn (hassign _ x W _ ⟨_,run_beginRound hl rfl,?_⟩)⟩;have hb1:=World.putObj_heap_same (o:=.loop { book .ready with state:=.busy }) hsz;have hb2:(W.putObj (w.heap.size+1) (.loop { book .ready with state:=.busy })).heap[w.heap.size]? = some (.deferred (some [])):=(World.putObj_heap_other (by omega)).trans hd;have hk1:Kp W (W.putObj (w.heap.size+1) (.loop { book .ready with state:=.busy })):=hKb _ _ _ _ (by omega) hl rfl rfl;refine wpIn_mono (hbody _ pre x _ (hI.putObj _ hi (by omega) hl rfl) hR) ?_;intro e a3 W3 hp;cases e with
  | normal =>
   obtain⟨k3,kp3,i3⟩:=hp;have hl3:=k3.same _ _ (by omega) hb1 rfl;have hd3:=k3.same _ _ (Nat.le_refl _) hb2 rfl;exact⟨_,_,run_endRound (P:=P) none hl3,rfl,⟨hI.putObj _ i3 (by omega) hl3 rfl,World.putObj_heap_same (Array.getElem?_eq_some_iff.1 hl3).1,(World.putObj_heap_other (by omega)).trans hd3⟩,hKt (hKt hk1 kp3) (hKb _ _ _ _ (by omega) hl3 rfl rfl)⟩
  | ret=>exact hp.elim
  | exit id=>exact hp.elim
  | goto t=>exact hp.elim
  | panic ch=>exact hp.elim
  | outgrown=>exact hp.elim
 ·rintro e W2 ⟨⟨v,rfl⟩,xs,hE,hi,hl,hd⟩;exact⟨none,_,run_endLoop (P:=P) hl (by simp[book]),hdone _ xs _ (Nat.le_refl _) hE (hI.putObj _ hi (by omega) hl rfl) ((World.putObj_heap_other (by omega)).trans hd)⟩
end Go.Proofs.YtoncpcdepemlcaaGreatDoor
