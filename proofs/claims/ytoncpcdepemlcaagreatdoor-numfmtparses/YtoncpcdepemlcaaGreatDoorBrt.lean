import Derived.Test.YtoncpcdepemlcaaGreatDoorRel
import Derived.Deep.QuietTactic
import Derived.Sort.BigQuietIn
import Derived.OrdersIn
import Derived.OwnWalkIn
namespace Go.Proofs.YtoncpcdepemlcaaGreatDoor
set_option maxHeartbeats 1000000
open Go.RowKit
variable {P : Program} {F : Fence} {n : Nat}
def SeqBrk {α : Type} (F : Fence) (n : Nat) (P : Program) (g : Nat) (lb : Array Value) (encs : α → Array Value) (Kp : World → World → Prop) (R : List α → α → Prop) (E : List α → Prop) (w : World) : Prop :=
  ∀ (l : Nat) (J : List α → World → Prop) (Jx : World → Prop) (W : World), Below w.heap.size w W → (∀ pre V k, J pre V → J pre (V.drewN k)) →
    (∀ pre x V, J pre V → R pre x → YieldAt F (n - 1) P l (encs x) V fun e V' => (e = .returned (.bool true) ∧ J (pre ++ [x]) V' ∧ Kp V V') ∨ (e = .returned (.bool false) ∧ Jx V')) → J [] W →
    CallsIn F n P g (#[.func (.yield l) #[] #[]] ++ lb) W fun e V => (∃ v, e = .returned v) ∧ ((∃ xs, E xs ∧ J xs V) ∨ Jx V)
def brkPost {α : Type} (B : Nat) (Kp : World → World → Prop) (I : List α → World → Prop) (Ix : Code → World → Prop) (xs : List α) (W : World) : Exit → Act → World → Prop
  | .normal, _, V => KeepsFrom B W V ∧ Kp W V ∧ I xs V
  | .exit id, _, V => KeepsFrom B W V ∧ Ix (.exit id) V
  | .ret, _, V => KeepsFrom B W V ∧ Ix .ret V
  | _, _, _ => False
theorem grownBy_drewN (w:World) (k:Nat):w.grownBy (w.drewN k) none:=⟨rfl,rfl,rfl,Nat.le_refl _,fun _ _ _=>rfl⟩
theorem wpIn_range_brk {α : Type} {g:Operand} {ps:Array Tmp} {assign body:Code} {Q:Exit->Act->World->Prop} {a:Act} {w:World} (hro:F.round=none) (h1:1<=n) {gf:Nat} {lb:Array Value} (hg:a.eval g=.func (.func gf) #[] lb) (hFg:F.fn gf) (eg:∀args w,(callFunc gf args).run P w=.ok (.enter gf args) w) {encs : α -> Array Value} {Kp:World->World->Prop} {R:List α -> α -> Prop} {E:List α -> Prop} (hseq:SeqBrk F (n-1) P gf lb encs Kp R E w) (hKt:∀ {A B C:World},Kp A B->Kp B C->Kp A C) (hKb:∀(W:World) (l:Nat) (o o':Obj),w.heap.size<=l->W.heap[l]? = some o->o.isCells=false->o.isWalk=false->Kp W (W.putObj l o')) (hps:∀x,(encs x).size=ps.size) (I:List α -> World->Prop) (Ix:Code->World->Prop) (hI:OwnFrom w.heap.size I) (hIx:∀c,OwnFrom w.heap.size (fun (_:Unit)=>Ix c)) (h0:I [] w) (a₁ : α -> Act) (hassign:∀(l:Nat) (x : α) (W:World) (K:Act->World->Prop),K (a₁ x) W->assign.wpIn (F.inRound l) (n-1-1) P (Exit.then K (fun _ _ _=>False)) { tmps:=(ps.zip (encs x)).foldl (fun t (p,v)=>t.setIfInBounds p v) a.tmps,defers:=[] } W) (hbody:∀(l:Nat) (pre:List α) (x : α) (W:World),I pre W->R pre x->body.wpIn (F.inRound l) (n-1-1) P (brkPost w.heap.size Kp I Ix (pre++[x]) W) (a₁ x) W) (hdone:∀(D:Nat) (xs:List α) (W:World),w.heap.size<=D->E xs->I xs W->W.heap[D]? = some (.deferred (some []))->Q .normal { a with defers:={ target:=.collected D,args:=#[] }::a.defers } W) (hstop:∀(D:Nat) (c:Code) (W:World),w.heap.size<=D->Ix c W->W.heap[D]? = some (.deferred (some []))->c.wpIn F n P Q { a with defers:={ target:=.collected D,args:=#[] }::a.defers } W):(Code.rangeFunc g ps assign body).wpIn F n P Q a w:=by
 refine wpIn_rangeFunc fun fn hfn => ?_;rw[hro];let book (st:LoopState) (pe:Option Code):Loop:={ state:=st,pending:=pe,fn,tmps:=a.tmps,params:=ps,assign,body,defers:=w.heap.size };have mk:∃ V,V=(w.alloc (.deferred (some []))).alloc (.loop (book .ready none)):=⟨_,rfl⟩;obtain⟨V,hV⟩:=mk;have bL:V.heap[w.heap.size+1]? = some (.loop (book .ready none)):=by have:=World.alloc_heap_new (w.alloc (.deferred (some []))) (.loop (book .ready none));rw[World.size_alloc] at this;rw[hV];exact this
 have bD:V.heap[w.heap.size]? = some (.deferred (some [])):=by rw[hV];exact(Below.heap_alloc _ _ _ (by simp)).trans (World.alloc_heap_new w _)
 have bB:Below w.heap.size w V:=hV ▸ ((Below.refl _ w).alloc (Nat.le_refl _) _).alloc (by simp) _;have bI:I [] V:=hV ▸ hI.alloc _ (hI.alloc _ h0);refine⟨w.heap.size+1,[{ target:=.collected w.heap.size,args:=#[] }],V,{ target:=.fn (.func gf) lb,args:=#[.func (.yield (w.heap.size+1)) #[] #[]] },V,gf,#[.func (.yield (w.heap.size+1)) #[] #[]]++lb,V,by rw[hV];exact run_enterLoop_outer _ _ _ _ _,by simp only[resolve,hg];simp[go_sem],?_,by simp[invoke,go_sem,eg],fun _=>h1,?_⟩
 ·intro f hf;simp[Target.leads] at hf;exact hf ▸ hFg
 refine(hseq (w.heap.size+1) (fun pre W=>I pre W/\W.heap[w.heap.size+1]? = some (.loop (book .ready none))/\W.heap[w.heap.size]? = some (.deferred (some []))) (fun W=>∃c,Ix c W/\W.heap[w.heap.size+1]? = some (.loop (book .done (some c)))/\W.heap[w.heap.size]? = some (.deferred (some []))) V bB ?_ ?_ ⟨bI,bL,bD⟩).mono ?_
 ·rintro pre W k ⟨hi,hl,hd⟩;exact⟨hI _ _ _ _ hi (grownBy_drewN W k) (fun r e=>by cases e),hl,hd⟩
 ·rintro pre x W ⟨hi,hl,hd⟩ hR;have hsz:w.heap.size+1<W.heap.size:=(Array.getElem?_eq_some_iff.1 hl).1;refine⟨fn,_,assign,body,run_yield (P:=P) (args:=encs x) hl (hps x),roundIn_of_wpIn hfn (hassign _ x W _ ⟨_,run_beginRound hl rfl,?_⟩)⟩;have hb1:=World.putObj_heap_same (o:=.loop { book .ready none with state:=.busy }) hsz;have hb2:(W.putObj (w.heap.size+1) (.loop { book .ready none with state:=.busy })).heap[w.heap.size]? = some (.deferred (some [])):=(World.putObj_heap_other (by omega)).trans hd;have hk1:Kp W (W.putObj (w.heap.size+1) (.loop { book .ready none with state:=.busy })):=hKb _ _ _ _ (by omega) hl rfl rfl;refine wpIn_mono (hbody _ pre x _ (hI.putObj _ hi (by omega) hl rfl) hR) ?_;intro e a3 W3 hp;cases e with
  | normal =>
   obtain⟨k3,kp3,i3⟩:=hp;have hl3:=k3.same _ _ (by omega) hb1 rfl;have hd3:=k3.same _ _ (Nat.le_refl _) hb2 rfl;exact⟨_,_,run_endRound (P:=P) none hl3,.inl ⟨rfl,⟨hI.putObj _ i3 (by omega) hl3 rfl,World.putObj_heap_same (Array.getElem?_eq_some_iff.1 hl3).1,(World.putObj_heap_other (by omega)).trans hd3⟩,hKt (hKt hk1 kp3) (hKb _ _ _ _ (by omega) hl3 rfl rfl)⟩⟩
  | ret =>
   obtain⟨k3,i3⟩:=hp;have hl3:=k3.same _ _ (by omega) hb1 rfl;have hd3:=k3.same _ _ (Nat.le_refl _) hb2 rfl;exact⟨_,_,run_endRound (P:=P) (some .ret) hl3,.inr ⟨rfl,.ret,(hIx .ret).putObj (s:=()) _ i3 (by omega) hl3 rfl,World.putObj_heap_same (Array.getElem?_eq_some_iff.1 hl3).1,(World.putObj_heap_other (by omega)).trans hd3⟩⟩
  | exit id =>
   obtain⟨k3,i3⟩:=hp;have hl3:=k3.same _ _ (by omega) hb1 rfl;have hd3:=k3.same _ _ (Nat.le_refl _) hb2 rfl;exact⟨_,_,run_endRound (P:=P) (some (.exit id)) hl3,.inr ⟨rfl,.exit id,(hIx (.exit id)).putObj (s:=()) _ i3 (by omega) hl3 rfl,World.putObj_heap_same (Array.getElem?_eq_some_iff.1 hl3).1,(World.putObj_heap_other (by omega)).trans hd3⟩⟩
  | goto t=>exact hp.elim
  | panic ch=>exact hp.elim
  | outgrown=>exact hp.elim
 ·rintro e W2 ⟨⟨v,rfl⟩,⟨xs,hE,hi,hl,hd⟩|⟨id,hi,hl,hd⟩⟩
  ·exact⟨none,_,run_endLoop (P:=P) hl (by simp[book]),hdone _ xs _ (Nat.le_refl _) hE (hI.putObj _ hi (by omega) hl rfl) ((World.putObj_heap_other (by omega)).trans hd)⟩
  ·exact⟨some id,_,run_endLoop (P:=P) hl (by simp[book]),hstop _ id _ (Nat.le_refl _) ((hIx id).putObj (s:=()) _ hi (by omega) hl rfl) ((World.putObj_heap_other (by omega)).trans hd)⟩
end Go.Proofs.YtoncpcdepemlcaaGreatDoor
