import Derived.Test.YtoncpcdepemlcaaGreatDoorRel
import Derived.Test.YtoncpcdepemlcaaGreatDoorTabM
namespace Go.Proofs.YtoncpcdepemlcaaGreatDoor
set_option maxHeartbeats 1000000
open Go.RowKit
variable {P : Program} {F : Fence} {n : Nat}
structure Mild (B : Nat) (Z : Nat → Prop) (W W' : World) : Prop where
  os : W'.os = W.os
  tape : W'.tape = W.tape
  output : W'.output = W.output
  size : W.heap.size ≤ W'.heap.size
  block : ∀ k o, W.heap[k]? = some o → ¬ Z k → (o.isCells = true ∨ k < B) → W'.heap[k]? = some o
theorem Mild.of_kept {B:Nat} {Z:Nat→Prop} {W W':World} (h:Kept (fun k=>k<W.heap.size∧¬ Z k) W W'):Mild B Z W W':=⟨h.os,h.tape,h.output,h.size,fun k _ hk hq _=>(h.block k ⟨(Array.getElem?_eq_some_iff.1 hk).1,hq⟩).trans hk⟩
theorem Mild.alloc {B:Nat} {Z:Nat→Prop} (W:World) (o:Obj):Mild B Z W (W.alloc o):=.of_kept ((Kept.refl _ W).alloc (fun _ h=>h.1) o)
theorem Mild.putObj {B:Nat} {Z:Nat->Prop} (W:World) (l:Nat) (o o':Obj) (hl:W.heap[l]? = some o) (hB:B<=l) (hc:o.isCells=false):Mild B Z W (W.putObj l o'):=by
 have hg:=grownBy_putObj' W l o';refine⟨hg.os,hg.tape,hg.output,hg.size,fun k o2 hk _ hor => ?_⟩;refine(hg.block k (Array.getElem?_eq_some_iff.1 hk).1 (fun e => ?_)).trans hk;obtain rfl:k=l:=Option.some.inj e;rw[hl] at hk;obtain rfl:=Option.some.inj hk;rcases hor with h|h
 ·rw[hc] at h;cases h
 ·omega
theorem Mild.trans {B:Nat} {Z:Nat→Prop} {X Y W:World} (h:Mild B Z X Y) (k:Mild B Z Y W):Mild B Z X W:=⟨k.os.trans h.os,k.tape.trans h.tape,k.output.trans h.output,Nat.le_trans h.size k.size,fun i o hi hq hor=>k.block i o (h.block i o hi hq hor) hq hor⟩
theorem Mild.kept {B : Nat} {Z : Nat → Prop} {W W' : World} {T : Nat → Prop} (h : Mild B Z W W') (hT : ∀ k, T k → k < B ∧ ¬ Z k ∧ k < W.heap.size) : Kept T W W' :=
  ⟨h.os, h.tape, h.output, h.size, fun k hk => by
    obtain ⟨h1, h2, h3⟩ := hT k hk
    have hs : W.heap[k]? = some W.heap[k] := Array.getElem?_eq_getElem h3
    rw [hs]
    exact h.block k _ hs h2 (.inr h1)⟩
theorem Mild.row {B:Nat} {Z:Nat→Prop} {W W':World} {K:Nat} {t:TypeId} {cs:Array Value} (h:Mild B Z W W') (hR:Row W K t cs) (hn:¬ Z K):Row W' K t cs:=h.block K _ hR hn (.inl rfl)
def SeqOwn {α : Type} (F : Fence) (n : Nat) (P : Program) (g : Nat) (lb : Array Value) (encs : α → Array Value) (Z U : Nat → Prop) (R : List α → α → Prop) (E : List α → Prop) (w : World) : Prop :=
  ∀ (l : Nat) (J : List α → (Nat → Prop) → World → Prop) (W : World), Below w.heap.size w W →
    (∀ pre own V V', J pre own V → Kept (fun k => k < V.heap.size ∧ ¬ Z k) V V' → J pre own V') →
    (∀ pre own V k, J pre own V → own k → k < V.heap.size ∧ ¬ U k) →
    (∀ pre x own V, J pre own V → R pre x → YieldAt F (n - 1) P l (encs x) V fun e V' => e = .returned (.bool true) ∧ (∃ own', J (pre ++ [x]) own' V') ∧ Kept (fun k => k < V.heap.size ∧ ¬ own k) V V') →
    (∃ own, J [] own W) →
    CallsIn F n P g (#[.func (.yield l) #[] #[]] ++ lb) W fun e V => (∃ v, e = .returned v) ∧ ∃ xs own, E xs ∧ J xs own V
def ownEnd {α : Type} (B : Nat) (I : List α → (Nat → Prop) → World → Prop) (own : Nat → Prop) (xs : List α) (W : World) : Exit → Act → World → Prop
  | .normal, _, V => KeepsFrom B W V ∧ Kept (fun k => k < W.heap.size ∧ ¬ own k) W V ∧ ∃ own', I xs own' V
  | _, _, _ => False
theorem wpIn_range_own {α : Type} {g:Operand} {ps:Array Tmp} {assign body:Code} {Q:Exit->Act->World->Prop} {a:Act} {w:World} (hro:F.round=none) (h1:1<=n) {gf:Nat} {lb:Array Value} (hg:a.eval g=.func (.func gf) #[] lb) (hFg:F.fn gf) (eg:∀args w,(callFunc gf args).run P w=.ok (.enter gf args) w) {encs : α -> Array Value} {Z U:Nat->Prop} {R:List α -> α -> Prop} {E:List α -> Prop} (hseq:SeqOwn F (n-1) P gf lb encs Z U R E w) (hZ:∀k,Z k->k<w.heap.size) (hps:∀x,(encs x).size=ps.size) (I:List α -> (Nat->Prop)->World->Prop) (hI:∀pre own V V',I pre own V->Mild w.heap.size Z V V'->I pre own V') (hO:∀pre own V k,I pre own V->own k->k<V.heap.size/\¬ U k) (h0:∃own,I [] own w) (a₁ : α -> World->Act) (g₁ : α -> World->World) (hg₁ : ∀x W,Kept (fun k=>k<W.heap.size) W (g₁ x W)) (hassign:∀(l:Nat) (x : α) (W:World) (K:Act->World->Prop),K (a₁ x W) (g₁ x W)->assign.wpIn (F.inRound l) (n-1-1) P (Exit.then K (fun _ _ _=>False)) { tmps:=(ps.zip (encs x)).foldl (fun t (p,v)=>t.setIfInBounds p v) a.tmps,defers:=[] } W) (hbody:∀(l:Nat) (pre:List α) (x : α) (own:Nat->Prop) (W V:World),w.heap.size<=W.heap.size->I pre own W->I pre own V->Mild w.heap.size (fun _=>False) (g₁ x W) V->R pre x->body.wpIn (F.inRound l) (n-1-1) P (ownEnd w.heap.size I own (pre++[x]) V) (a₁ x W) V) (hdone:∀(D:Nat) (xs:List α) (own:Nat->Prop) (W:World),w.heap.size<=D->E xs->I xs own W->W.heap[D]? = some (.deferred (some []))->Q .normal { a with defers:={ target:=.collected D,args:=#[] }::a.defers } W):(Code.rangeFunc g ps assign body).wpIn F n P Q a w:=by
 refine wpIn_rangeFunc fun fn hfn => ?_;rw[hro];let book (st:LoopState):Loop:={ state:=st,pending:=none,fn,tmps:=a.tmps,params:=ps,assign,body,defers:=w.heap.size };have mk:∃ V,V=(w.alloc (.deferred (some []))).alloc (.loop (book .ready)):=⟨_,rfl⟩;obtain⟨V,hV⟩:=mk;have bL:V.heap[w.heap.size+1]? = some (.loop (book .ready)):=by have:=World.alloc_heap_new (w.alloc (.deferred (some []))) (.loop (book .ready));rw[World.size_alloc] at this;rw[hV];exact this
 have bD:V.heap[w.heap.size]? = some (.deferred (some [])):=by rw[hV];exact(Below.heap_alloc _ _ _ (by simp)).trans (World.alloc_heap_new w _)
 have bB:Below w.heap.size w V:=hV ▸ ((Below.refl _ w).alloc (Nat.le_refl _) _).alloc (by simp) _;obtain⟨own0,h0⟩:=h0;have bI:I [] own0 V:=hV ▸ hI _ _ _ _ h0 ((Mild.alloc w _).trans (Mild.alloc _ _));refine⟨w.heap.size+1,[{ target:=.collected w.heap.size,args:=#[] }],V,{ target:=.fn (.func gf) lb,args:=#[.func (.yield (w.heap.size+1)) #[] #[]] },V,gf,#[.func (.yield (w.heap.size+1)) #[] #[]]++lb,V,by rw[hV];exact run_enterLoop_outer _ _ _ _ _,by simp only[resolve,hg];simp[go_sem],?_,by simp[invoke,go_sem,eg],fun _=>h1,?_⟩
 ·intro f hf;simp[Target.leads] at hf;exact hf ▸ hFg
 refine(hseq (w.heap.size+1) (fun pre own W=>I pre own W/\W.heap[w.heap.size+1]? = some (.loop (book .ready))/\W.heap[w.heap.size]? = some (.deferred (some []))) V bB ?_ ?_ ?_ ⟨own0,bI,bL,bD⟩).mono ?_
 ·rintro pre own W W' ⟨hi,hl,hd⟩ hk;exact⟨hI _ _ _ _ hi (.of_kept hk),(hk.block _ ⟨(Array.getElem?_eq_some_iff.1 hl).1,fun h=>by have:=hZ _ h;omega⟩).trans hl,(hk.block _ ⟨(Array.getElem?_eq_some_iff.1 hd).1,fun h=>by have:=hZ _ h;omega⟩).trans hd⟩
 ·rintro pre own W k ⟨hi,_,_⟩ hk;exact hO _ _ _ _ hi hk
 ·rintro pre x own W0 ⟨hi0,hl0,hd0⟩ hR;have hsz0:w.heap.size+1<W0.heap.size:=(Array.getElem?_eq_some_iff.1 hl0).1;have hkg:=hg₁ x W0;refine⟨fn,_,assign,body,run_yield (P:=P) (args:=encs x) hl0 (hps x),roundIn_of_wpIn hfn (hassign _ x W0 _ ?_)⟩;have hl:=(hkg.block (w.heap.size+1) hsz0).trans hl0;have hd:=(hkg.block w.heap.size (by show w.heap.size<_;omega)).trans hd0;have hi:=hI _ _ _ _ hi0 (Mild.of_kept (hkg.mono (fun k h=>h.1)));have hbody':=fun V h1 h2=>hbody (w.heap.size+1) pre x own W0 V (by omega) hi0 h1 h2 hR;have hszg:=hkg.size;generalize g₁ x W0=W at *;refine⟨_,run_beginRound hl rfl,?_⟩;have hsz:w.heap.size+1<W.heap.size:=by omega
  have hb1:=World.putObj_heap_same (o:=.loop { book .ready with state:=.busy }) hsz;have hb2:(W.putObj (w.heap.size+1) (.loop { book .ready with state:=.busy })).heap[w.heap.size]? = some (.deferred (some [])):=(World.putObj_heap_other (by omega)).trans hd;have hsz1:(W.putObj (w.heap.size+1) (.loop { book .ready with state:=.busy })).heap.size=W.heap.size:=by simp[World.putObj]
  have hk1:Kept (fun k=>k≠w.heap.size+1) W (W.putObj (w.heap.size+1) (.loop { book .ready with state:=.busy })):=Kept.putObj (S:=fun k=>k≠w.heap.size+1) W _ _ (fun h=>h rfl);refine wpIn_mono (hbody' _ (hI _ _ _ _ hi (Mild.putObj _ _ _ _ hl (by omega) rfl)) (Mild.putObj _ _ _ _ hl (by omega) rfl)) ?_;intro e a3 W3 hp;cases e with
  | normal =>
   obtain⟨k3,kp3,own',i3⟩:=hp;have hl3:=k3.same _ _ (by omega) hb1 rfl;have hd3:=k3.same _ _ (Nat.le_refl _) hb2 rfl;have hk4:Kept (fun k=>k≠w.heap.size+1) W3 (W3.putObj (w.heap.size+1) (.loop (book .ready))):=Kept.putObj (S:=fun k=>k≠w.heap.size+1) W3 _ _ (fun h=>h rfl);refine⟨_,_,run_endRound (P:=P) none hl3,rfl,⟨own',hI _ _ _ _ i3 (Mild.putObj _ _ _ _ hl3 (by omega) rfl),World.putObj_heap_same (Array.getElem?_eq_some_iff.1 hl3).1,(World.putObj_heap_other (by omega)).trans hd3⟩,?_⟩;refine⟨hk4.os.trans (kp3.os.trans (hk1.os.trans hkg.os)),hk4.tape.trans (kp3.tape.trans (hk1.tape.trans hkg.tape)),hk4.output.trans (kp3.output.trans (hk1.output.trans hkg.output)),Nat.le_trans hszg (Nat.le_trans hk1.size (Nat.le_trans kp3.size hk4.size)),fun k hk => ?_⟩;by_cases he:k=w.heap.size+1
   ·rw[he,hl0];exact World.putObj_heap_same (Array.getElem?_eq_some_iff.1 hl3).1
   ·exact(hk4.block k he).trans ((kp3.block k ⟨by rw[hsz1];exact Nat.lt_of_lt_of_le hk.1 hszg,hk.2⟩).trans ((hk1.block k he).trans (hkg.block k hk.1)))
  | ret=>exact hp.elim
  | exit id=>exact hp.elim
  | goto t=>exact hp.elim
  | panic ch=>exact hp.elim
  | outgrown=>exact hp.elim
 ·rintro e W2 ⟨⟨v,rfl⟩,xs,own,hE,hi,hl,hd⟩;exact⟨none,_,run_endLoop (P:=P) hl (by simp[book]),hdone _ xs own _ (Nat.le_refl _) hE (hI _ _ _ _ hi (Mild.putObj _ _ _ _ hl (by omega) rfl)) ((World.putObj_heap_other (by omega)).trans hd)⟩
end Go.Proofs.YtoncpcdepemlcaaGreatDoor
