import Derived.Test.YtoncpcdepemlcaaGreatDoorRgo
import Derived.Test.YtoncpcdepemlcaaGreatDoorBrt
namespace Go.Proofs.YtoncpcdepemlcaaGreatDoor
set_option maxHeartbeats 1000000
open Go.RowKit
variable {P : Program} {F : Fence} {n : Nat}
def SeqOB {α : Type} (F : Fence) (n : Nat) (P : Program) (g : Nat) (lb : Array Value) (encs : α → Array Value) (U : Nat → Prop) (R : List α → α → Prop) (E : List α → Prop) (w : World) : Prop :=
  ∀ (l : Nat) (J : List α → (Nat → Prop) → World → Prop) (Jx : World → Prop) (W : World), Below w.heap.size w W →
    (∀ pre own V V', J pre own V → Kept (fun k => own k ∨ k < w.heap.size) V V' → J pre own V') →
    (∀ pre own V k, J pre own V → own k → k < V.heap.size ∧ ¬ U k) →
    (∀ pre own x V, J pre own V → R pre x → YieldAt F (n - 1) P l (encs x) V fun e V' => (e = .returned (.bool true) ∧ (∃ own', J (pre ++ [x]) own' V' ∧ ∀ k, own' k → own k ∨ V.heap.size ≤ k) ∧ Kept (fun k => k < V.heap.size ∧ ¬ own k) V V') ∨ (e = .returned (.bool false) ∧ Jx V')) →
    (∃ own, J [] own W) →
    CallsIn F n P g (#[.func (.yield l) #[] #[]] ++ lb) W fun e V => (∃ v, e = .returned v) ∧ ((∃ xs own, E xs ∧ J xs own V) ∨ Jx V)
def obPost {α : Type} (B : Nat) (I : List α → (Nat → Prop) → World → Prop) (Ix : Code → World → Prop) (own : Nat → Prop) (xs : List α) (W : World) : Exit → Act → World → Prop
  | .normal, _, V => KeepsFrom B W V ∧ Kept (fun k => k < W.heap.size ∧ ¬ own k) W V ∧ ∃ own', I xs own' V ∧ ∀ k, own' k → own k ∨ W.heap.size ≤ k
  | .exit id, _, V => KeepsFrom B W V ∧ Ix (.exit id) V
  | .ret, _, V => KeepsFrom B W V ∧ Ix .ret V
  | _, _, _ => False
theorem wpIn_range_ob {α : Type} {g:Operand} {ps:Array Tmp} {assign body:Code} {Q:Exit->Act->World->Prop} {a:Act} {w:World} (hro:F.round=none) (h1:1<=n) {gf:Nat} {lb:Array Value} (hg:a.eval g=.func (.func gf) #[] lb) (hFg:F.fn gf) (eg:∀args w,(callFunc gf args).run P w=.ok (.enter gf args) w) {encs : α -> Array Value} {U:Nat->Prop} {R:List α -> α -> Prop} {E:List α -> Prop} (hseq:SeqOB F (n-1) P gf lb encs U R E w) (hU:∀k,U k->k<w.heap.size) (hps:∀x,(encs x).size=ps.size) (I:List α -> (Nat->Prop)->World->Prop) (Ix:Code->World->Prop) (hI:∀pre own V V',I pre own V->Kept (fun k=>own k\/k<w.heap.size) V V'->I pre own V') (hO:∀pre own V k,I pre own V->own k->k<V.heap.size/\¬ U k) (hIx:∀c,OwnFrom w.heap.size (fun (_:Unit)=>Ix c)) (h0:∃own,I [] own w) (a₁ : α -> World->Act) (g₁ : α -> World->World) (hg₁ : ∀x W,Kept (fun k=>k<W.heap.size) W (g₁ x W)) (hassign:∀(l:Nat) (x : α) (W:World) (K:Act->World->Prop),K (a₁ x W) (g₁ x W)->assign.wpIn (F.inRound l) (n-1-1) P (Exit.then K (fun _ _ _=>False)) { tmps:=(ps.zip (encs x)).foldl (fun t (p,v)=>t.setIfInBounds p v) a.tmps,defers:=[] } W) (hbody:∀(l:Nat) (pre:List α) (x : α) (own:Nat->Prop) (W V:World),w.heap.size<=W.heap.size->I pre own W->I pre own V->Mild w.heap.size (fun _=>False) (g₁ x W) V->R pre x->body.wpIn (F.inRound l) (n-1-1) P (obPost w.heap.size I Ix own (pre++[x]) V) (a₁ x W) V) (hdone:∀(D:Nat) (xs:List α) (own:Nat->Prop) (W:World),w.heap.size<=D->E xs->I xs own W->¬ own D->W.heap[D]? = some (.deferred (some []))->Q .normal { a with defers:={ target:=.collected D,args:=#[] }::a.defers } W) (hstop:∀(D:Nat) (c:Code) (W:World),w.heap.size<=D->Ix c W->W.heap[D]? = some (.deferred (some []))->c.wpIn F n P Q { a with defers:={ target:=.collected D,args:=#[] }::a.defers } W):(Code.rangeFunc g ps assign body).wpIn F n P Q a w:=by
 refine wpIn_rangeFunc fun fn hfn => ?_;rw[hro];let book (st:LoopState) (pe:Option Code):Loop:={ state:=st,pending:=pe,fn,tmps:=a.tmps,params:=ps,assign,body,defers:=w.heap.size };have mk:∃ V,V=(w.alloc (.deferred (some []))).alloc (.loop (book .ready none)):=⟨_,rfl⟩;obtain⟨V,hV⟩:=mk;have bL:V.heap[w.heap.size+1]? = some (.loop (book .ready none)):=by have:=World.alloc_heap_new (w.alloc (.deferred (some []))) (.loop (book .ready none));rw[World.size_alloc] at this;rw[hV];exact this
 have bD:V.heap[w.heap.size]? = some (.deferred (some [])):=by rw[hV];exact(Below.heap_alloc _ _ _ (by simp)).trans (World.alloc_heap_new w _)
 have bB:Below w.heap.size w V:=hV ▸ ((Below.refl _ w).alloc (Nat.le_refl _) _).alloc (by simp) _;obtain⟨own0,h0⟩:=h0;have o0:∀k,own0 k->k<w.heap.size:=fun k hk=>(hO _ _ _ _ h0 hk).1;have bI:I [] own0 V:=hI _ _ _ _ h0 (Kept.of_below bB (fun k h=>h.elim (o0 k) id));refine⟨w.heap.size+1,[{ target:=.collected w.heap.size,args:=#[] }],V,{ target:=.fn (.func gf) lb,args:=#[.func (.yield (w.heap.size+1)) #[] #[]] },V,gf,#[.func (.yield (w.heap.size+1)) #[] #[]]++lb,V,by rw[hV];exact run_enterLoop_outer _ _ _ _ _,by simp only[resolve,hg];simp[go_sem],?_,by simp[invoke,go_sem,eg],fun _=>h1,?_⟩
 ·intro f hf;simp[Target.leads] at hf;exact hf ▸ hFg
 refine(hseq (w.heap.size+1) (fun pre own W=>∃o,(∀k,own k↔o k\/k=w.heap.size\/k=w.heap.size+1)/\I pre o W/\¬ o w.heap.size/\¬ o (w.heap.size+1)/\W.heap[w.heap.size+1]? = some (.loop (book .ready none))/\W.heap[w.heap.size]? = some (.deferred (some []))) (fun W=>∃c,Ix c W/\W.heap[w.heap.size+1]? = some (.loop (book .done (some c)))/\W.heap[w.heap.size]? = some (.deferred (some []))) V bB ?_ ?_ ?_ ⟨fun k=>own0 k\/k=w.heap.size\/k=w.heap.size+1,own0,fun _=>Iff.rfl,bI,fun h=>by have:=o0 _ h;omega,fun h=>by have:=o0 _ h;omega,bL,bD⟩).mono ?_
 ·rintro pre own W W' ⟨o,ho,hi,d1,d2,hl,hd⟩ hk;exact⟨o,ho,hI _ _ _ _ hi (hk.mono (fun k h=>h.imp (fun h=>(ho k).2 (.inl h)) id)),d1,d2,(hk.block _ (.inl ((ho _).2 (.inr (.inr rfl))))).trans hl,(hk.block _ (.inl ((ho _).2 (.inr (.inl rfl))))).trans hd⟩
 ·rintro pre own W k ⟨o,ho,hi,d1,d2,hl,hd⟩ hk;rcases(ho k).1 hk with h|rfl|rfl
  ·exact hO _ _ _ _ hi h
  ·exact⟨(Array.getElem?_eq_some_iff.1 hd).1,fun h=>by have:=hU _ h;omega⟩
  ·exact⟨(Array.getElem?_eq_some_iff.1 hl).1,fun h=>by have:=hU _ h;omega⟩
 ·rintro pre own x W0 ⟨o,ho,hi0,d1,d2,hl0,hd0⟩ hR;have hsz0:w.heap.size+1<W0.heap.size:=(Array.getElem?_eq_some_iff.1 hl0).1;have hkg:=hg₁ x W0;refine⟨fn,_,assign,body,run_yield (P:=P) (args:=encs x) hl0 (hps x),roundIn_of_wpIn hfn (hassign _ x W0 _ ?_)⟩;have hl:=(hkg.block (w.heap.size+1) hsz0).trans hl0;have hd:=(hkg.block w.heap.size (by show w.heap.size<_;omega)).trans hd0;have oB:∀k,o k\/k<w.heap.size->k<W0.heap.size:=fun k hk=>hk.elim (fun h=>(hO _ _ _ _ hi0 h).1) (fun h=>by omega)
  have hi:=hI _ _ _ _ hi0 (hkg.mono oB);have hbody':=fun V h1 h2=>hbody (w.heap.size+1) pre x o W0 V (by omega) hi0 h1 h2 hR;have hszg:=hkg.size;generalize g₁ x W0=W at *;refine⟨_,run_beginRound hl rfl,?_⟩;have hsz:w.heap.size+1<W.heap.size:=by omega
  have hb1:=World.putObj_heap_same (o:=.loop { book .ready none with state:=.busy }) hsz;have hb2:(W.putObj (w.heap.size+1) (.loop { book .ready none with state:=.busy })).heap[w.heap.size]? = some (.deferred (some [])):=(World.putObj_heap_other (by omega)).trans hd;have hsz1:(W.putObj (w.heap.size+1) (.loop { book .ready none with state:=.busy })).heap.size=W.heap.size:=by simp[World.putObj]
  have hk1:Kept (fun k=>k≠w.heap.size+1) W (W.putObj (w.heap.size+1) (.loop { book .ready none with state:=.busy })):=Kept.putObj (S:=fun k=>k≠w.heap.size+1) W _ _ (fun h=>h rfl);refine wpIn_mono (hbody' _ (hI _ _ _ _ hi (hk1.mono (fun k hk e=>hk.elim (fun h=>d2 (e ▸ h)) (fun h=>by omega)))) (Mild.putObj _ _ _ _ hl (by omega) rfl)) ?_;intro e a3 W3 hp;cases e with
  | normal =>
   obtain⟨k3,kp3,o',i3,ho'⟩:=hp;have hl3:=k3.same _ _ (by omega) hb1 rfl;have hd3:=k3.same _ _ (Nat.le_refl _) hb2 rfl;have hk4:Kept (fun k=>k≠w.heap.size+1) W3 (W3.putObj (w.heap.size+1) (.loop (book .ready none))):=Kept.putObj (S:=fun k=>k≠w.heap.size+1) W3 _ _ (fun h=>h rfl);have e1:¬ o' w.heap.size:=fun h=>(ho' _ h).elim d1 (fun h=>by rw[hsz1] at h;omega)
   have e2:¬ o' (w.heap.size+1):=fun h=>(ho' _ h).elim d2 (fun h=>by rw[hsz1] at h;omega)
   refine⟨_,_,run_endRound (P:=P) none hl3,.inl ⟨rfl,⟨fun k=>o' k\/k=w.heap.size\/k=w.heap.size+1,⟨o',fun _=>Iff.rfl,hI _ _ _ _ i3 (hk4.mono (fun k hk e=>hk.elim (fun h=>e2 (e ▸ h)) (fun h=>by omega))),e1,e2,World.putObj_heap_same (Array.getElem?_eq_some_iff.1 hl3).1,(World.putObj_heap_other (by omega)).trans hd3⟩,?_⟩,?_⟩⟩
   ·rintro k (h|h|h)
    ·rcases ho' k h with h|h
     ·exact .inl ((ho k).2 (.inl h))
     ·exact .inr (by rw[hsz1] at h;omega)
    ·exact .inl ((ho k).2 (.inr (.inl h)))
    ·exact .inl ((ho k).2 (.inr (.inr h)))
   refine⟨hk4.os.trans (kp3.os.trans (hk1.os.trans hkg.os)),hk4.tape.trans (kp3.tape.trans (hk1.tape.trans hkg.tape)),hk4.output.trans (kp3.output.trans (hk1.output.trans hkg.output)),Nat.le_trans hszg (Nat.le_trans hk1.size (Nat.le_trans kp3.size hk4.size)),fun k hk => ?_⟩;have he:k≠w.heap.size+1:=fun e=>hk.2 ((ho k).2 (.inr (.inr e)));exact(hk4.block k he).trans ((kp3.block k ⟨by rw[hsz1];exact Nat.lt_of_lt_of_le hk.1 hszg,fun h=>hk.2 ((ho k).2 (.inl h))⟩).trans ((hk1.block k he).trans (hkg.block k hk.1)))
  | ret =>
   obtain⟨k3,i3⟩:=hp;have hl3:=k3.same _ _ (by omega) hb1 rfl;have hd3:=k3.same _ _ (Nat.le_refl _) hb2 rfl;exact⟨_,_,run_endRound (P:=P) (some .ret) hl3,.inr ⟨rfl,.ret,(hIx .ret).putObj (s:=()) _ i3 (by omega) hl3 rfl,World.putObj_heap_same (Array.getElem?_eq_some_iff.1 hl3).1,(World.putObj_heap_other (by omega)).trans hd3⟩⟩
  | exit id =>
   obtain⟨k3,i3⟩:=hp;have hl3:=k3.same _ _ (by omega) hb1 rfl;have hd3:=k3.same _ _ (Nat.le_refl _) hb2 rfl;exact⟨_,_,run_endRound (P:=P) (some (.exit id)) hl3,.inr ⟨rfl,.exit id,(hIx (.exit id)).putObj (s:=()) _ i3 (by omega) hl3 rfl,World.putObj_heap_same (Array.getElem?_eq_some_iff.1 hl3).1,(World.putObj_heap_other (by omega)).trans hd3⟩⟩
  | goto t=>exact hp.elim
  | panic ch=>exact hp.elim
  | outgrown=>exact hp.elim
 ·rintro e W2 ⟨⟨v,rfl⟩,⟨xs,own,hE,o,ho,hi,d1,d2,hl,hd⟩|⟨id,hi,hl,hd⟩⟩
  ·exact⟨none,_,run_endLoop (P:=P) hl (by simp[book]),hdone _ xs o _ (Nat.le_refl _) hE (hI _ _ _ _ hi (Kept.putObj (S:=fun k=>o k\/k<w.heap.size) W2 _ _ (fun h=>h.elim d2 (fun h=>by omega)))) d1 ((World.putObj_heap_other (by omega)).trans hd)⟩
  ·exact⟨some id,_,run_endLoop (P:=P) hl (by simp[book]),hstop _ id _ (Nat.le_refl _) ((hIx id).putObj (s:=()) _ hi (by omega) hl rfl) ((World.putObj_heap_other (by omega)).trans hd)⟩
end Go.Proofs.YtoncpcdepemlcaaGreatDoor
