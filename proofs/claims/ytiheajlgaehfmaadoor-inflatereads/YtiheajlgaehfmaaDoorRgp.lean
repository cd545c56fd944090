import Derived.RangeFuncNested
import Derived.RangeFuncBox
import Derived.RangeFuncBound
import Derived.RangeFuncCalls
import Derived.RangeFuncLeaves
import Derived.Test.YtiheajlgaehfmaaDoorPstM
/- A range over a function that turns one block of its own between rounds, and may give up: the body may know what comes when; no round leaves the loop. -/
namespace Go.Proofs.YtiheajlgaehfmaaDoor
open Go.RowKit
variable {P : Program} {F : Fence} {n : Nat}

/-- All blocks lie as they lay, but for Q, and for what is no cells and lies at or beyond B. -/
structure Mild (B Q : Nat) (W W' : World) : Prop where
  os : W'.os = W.os
  tape : W'.tape = W.tape
  output : W'.output = W.output
  size : W.heap.size ≤ W'.heap.size
  block : ∀ k o, W.heap[k]? = some o → k ≠ Q → (o.isCells = true ∨ k < B) → W'.heap[k]? = some o
theorem Mild.of_kept {B Q : Nat} {W W' : World} (h : Kept (fun k => k < W.heap.size ∧ k ≠ Q) W W') : Mild B Q W W' :=
  ⟨h.os, h.tape, h.output, h.size, fun k _ hk hq _ => (h.block k ⟨(Array.getElem?_eq_some_iff.1 hk).1, hq⟩).trans hk⟩
theorem Mild.alloc {B Q : Nat} (W : World) (o : Obj) : Mild B Q W (W.alloc o) :=
  .of_kept ((Kept.refl _ W).alloc (fun _ h => h.1) o)
theorem Mild.putObj {B Q : Nat} (W : World) (l : Nat) (o o' : Obj) (hl : W.heap[l]? = some o) (hB : B ≤ l) (hc : o.isCells = false) : Mild B Q W (W.putObj l o') := by
  have hg := grownBy_putObj' W l o'
  refine ⟨hg.os, hg.tape, hg.output, hg.size, fun k o2 hk _ hor => ?_⟩
  refine (hg.block k (Array.getElem?_eq_some_iff.1 hk).1 (fun e => ?_)).trans hk
  obtain rfl : k = l := Option.some.inj e
  rw [hl] at hk
  obtain rfl := Option.some.inj hk
  rcases hor with h | h
  · rw [hc] at h; cases h
  · omega
theorem Mild.trans {B Q : Nat} {X Y Z : World} (h : Mild B Q X Y) (k : Mild B Q Y Z) : Mild B Q X Z :=
  ⟨k.os.trans h.os, k.tape.trans h.tape, k.output.trans h.output, Nat.le_trans h.size k.size, fun i o hi hq hor => k.block i o (h.block i o hi hq hor) hq hor⟩
theorem Mild.kept {B Q : Nat} {W W' : World} {T : Nat → Prop} (h : Mild B Q W W') (hT : ∀ k, T k → k < B ∧ k ≠ Q ∧ k < W.heap.size) : Kept T W W' :=
  ⟨h.os, h.tape, h.output, h.size, fun k hk => by
    obtain ⟨h1, h2, h3⟩ := hT k hk
    have hs : W.heap[k]? = some W.heap[k] := Array.getElem?_eq_getElem h3
    rw [hs]
    exact h.block k _ hs h2 (.inr h1)⟩

/-- The iterator's contract: round by round, each element R of those before; between rounds it turns Q alone; at the end all has come, or it gives up. -/
def SeqP {α : Type} (F : Fence) (n : Nat) (P : Program) (g : Nat) (lb : Array Value) (encs : α → Array Value) (Q : Nat) (U : Nat → Prop) (R : List α → α → Prop) (Done : List α → World → Prop) (Err : Int → Prop) (w : World) : Prop :=
  ∀ (l : Nat) (J : List α → World → Prop) (W : World), Below w.heap.size w W →
    (∀ pre V V', J pre V → Kept (fun k => k < V.heap.size ∧ k ≠ Q) V V' → J pre V') →
    (∀ pre x V, J pre V → R pre x → YieldAt F (n - 1) P l (encs x) V fun e V' => e = .returned (.bool true) ∧ J (pre ++ [x]) V' ∧ Kept U V V') → J [] W →
    CallsIn F n P g (#[.func (.yield l) #[] #[]] ++ lb) W fun e V => ((∃ v, e = .returned v) ∧ ∃ xs, Done xs V ∧ J xs V) ∨ (∃ er pre, e = gaveUp er ∧ Err er ∧ J pre V)

def rangeEnd {α : Type} (B : Nat) (U : Nat → Prop) (I : List α → World → Prop) (xs : List α) (W : World) : Exit → Act → World → Prop
  | .normal, _, V => KeepsFrom B W V ∧ Kept U W V ∧ I xs V
  | _, _, _ => False

set_option maxHeartbeats 1000000 in
theorem wpIn_range_P {α : Type} {g : Operand} {ps : Array Tmp} {assign body : Code} {Q : Exit → Act → World → Prop} {a : Act} {w : World} (hro : F.round = none) (h1 : 1 ≤ n) {gf : Nat} {lb : Array Value}
    (hg : a.eval g = .func (.func gf) #[] lb) (hFg : F.fn gf) (eg : ∀ args w, (callFunc gf args).run P w = .ok (.enter gf args) w) {encs : α → Array Value} {q : Nat} {U : Nat → Prop} {R : List α → α → Prop} {Done : List α → World → Prop} {Err : Int → Prop}
    (hseq : SeqP F (n - 1) P gf lb encs q U R Done Err w) (hU : ∀ k, U k → k < w.heap.size) (hq : q < w.heap.size) (hDn : ∀ xs V V', Done xs V → Kept U V V' → Done xs V') (hps : ∀ x, (encs x).size = ps.size)
    (I : List α → World → Prop) (hI : ∀ pre V V', I pre V → Mild w.heap.size q V V' → I pre V') (h0 : I [] w) (a₁ : α → Act)
    (hassign : ∀ (l : Nat) (x : α) (W : World) (K : Act → World → Prop), K (a₁ x) W →
      assign.wpIn (F.inRound l) (n - 1 - 1) P (Exit.then K (fun _ _ _ => False)) { tmps := (ps.zip (encs x)).foldl (fun t (p, v) => t.setIfInBounds p v) a.tmps, defers := [] } W)
    (hbody : ∀ (l : Nat) (pre : List α) (x : α) (W : World), I pre W → R pre x → body.wpIn (F.inRound l) (n - 1 - 1) P (rangeEnd w.heap.size U I (pre ++ [x]) W) (a₁ x) W)
    (hdone : ∀ (D : Nat) (xs : List α) (W : World), w.heap.size ≤ D → Done xs W → I xs W → W.heap[D]? = some (.deferred (some [])) → Q .normal { a with defers := { target := .collected D, args := #[] } :: a.defers } W)
    (hfail : ∀ (D : Nat) (er : Int) (pre : List α) (W : World), w.heap.size ≤ D → Err er → I pre W → W.heap[D]? = some (.deferred (some [])) → Q (.panic [{ v := .iface 23 (.int .i64 er), recovered := false }]) { a with defers := { target := .collected D, args := #[] } :: a.defers } W) :
    (Code.rangeFunc g ps assign body).wpIn F n P Q a w := by
  refine wpIn_rangeFunc fun fn hfn => ?_
  rw [hro]
  let book (st : LoopState) : Loop := { state := st, pending := none, fn, tmps := a.tmps, params := ps, assign, body, defers := w.heap.size }
  have mk : ∃ V, V = (w.alloc (.deferred (some []))).alloc (.loop (book .ready)) := ⟨_, rfl⟩
  obtain ⟨V, hV⟩ := mk
  have bL : V.heap[w.heap.size + 1]? = some (.loop (book .ready)) := by
    have := World.alloc_heap_new (w.alloc (.deferred (some []))) (.loop (book .ready))
    rw [World.size_alloc] at this
    rw [hV]; exact this
  have bD : V.heap[w.heap.size]? = some (.deferred (some [])) := by
    rw [hV]
    exact (Below.heap_alloc _ _ _ (by simp)).trans (World.alloc_heap_new w _)
  have bB : Below w.heap.size w V := hV ▸ ((Below.refl _ w).alloc (Nat.le_refl _) _).alloc (by simp) _
  have bI : I [] V := hV ▸ hI _ _ _ h0 ((Mild.alloc w _).trans (Mild.alloc _ _))
  refine ⟨w.heap.size + 1, [{ target := .collected w.heap.size, args := #[] }], V, { target := .fn (.func gf) lb, args := #[.func (.yield (w.heap.size + 1)) #[] #[]] }, V, gf, #[.func (.yield (w.heap.size + 1)) #[] #[]] ++ lb, V,
    by rw [hV]; exact run_enterLoop_outer _ _ _ _ _, by simp only [resolve, hg]; simp [go_sem], ?_, by simp [invoke, go_sem, eg], fun _ => h1, ?_⟩
  · intro f hf
    simp [Target.leads] at hf
    exact hf ▸ hFg
  have hKU : ∀ (W : World) (l : Nat) (o' : Obj), w.heap.size ≤ l → Kept U W (W.putObj l o') := fun W l o' hl => Kept.putObj W l o' (fun hu => by have := hU l hu; omega)
  refine (hseq (w.heap.size + 1) (fun pre W => I pre W ∧ W.heap[w.heap.size + 1]? = some (.loop (book .ready)) ∧ W.heap[w.heap.size]? = some (.deferred (some []))) V bB ?_ ?_ ⟨bI, bL, bD⟩).mono ?_
  · rintro pre W W' ⟨hi, hl, hd⟩ hk
    exact ⟨hI _ _ _ hi (.of_kept hk), (hk.block _ ⟨(Array.getElem?_eq_some_iff.1 hl).1, by omega⟩).trans hl, (hk.block _ ⟨(Array.getElem?_eq_some_iff.1 hd).1, by omega⟩).trans hd⟩
  · rintro pre x W ⟨hi, hl, hd⟩ hR
    have hsz : w.heap.size + 1 < W.heap.size := (Array.getElem?_eq_some_iff.1 hl).1
    refine ⟨fn, _, assign, body, run_yield (P := P) (args := encs x) hl (hps x), roundIn_of_wpIn hfn (hassign _ x W _ ⟨_, run_beginRound hl rfl, ?_⟩)⟩
    have hb1 := World.putObj_heap_same (o := .loop { book .ready with state := .busy }) hsz
    have hb2 : (W.putObj (w.heap.size + 1) (.loop { book .ready with state := .busy })).heap[w.heap.size]? = some (.deferred (some [])) := (World.putObj_heap_other (by omega)).trans hd
    have hk1 : Kept U W (W.putObj (w.heap.size + 1) (.loop { book .ready with state := .busy })) := hKU _ _ _ (by omega)
    refine wpIn_mono (hbody _ pre x _ (hI _ _ _ hi (Mild.putObj _ _ _ _ hl (by omega) rfl)) hR) ?_
    intro e a3 W3 hp
    cases e with
    | normal =>
      obtain ⟨k3, kp3, i3⟩ := hp
      have hl3 := k3.same _ _ (by omega) hb1 rfl
      have hd3 := k3.same _ _ (Nat.le_refl _) hb2 rfl
      exact ⟨_, _, run_endRound (P := P) none hl3, rfl, ⟨hI _ _ _ i3 (Mild.putObj _ _ _ _ hl3 (by omega) rfl), World.putObj_heap_same (Array.getElem?_eq_some_iff.1 hl3).1, (World.putObj_heap_other (by omega)).trans hd3⟩, (hk1.trans kp3).trans (hKU _ _ _ (by omega))⟩
    | ret => exact hp.elim
    | exit id => exact hp.elim
    | goto t => exact hp.elim
    | panic ch => exact hp.elim
    | outgrown => exact hp.elim
  · rintro e W2 (⟨⟨v, rfl⟩, xs, hE, hi, hl, hd⟩ | ⟨er, pre, rfl, hE, hi, hl, hd⟩)
    · exact ⟨none, _, run_endLoop (P := P) hl (by simp [book]), hdone _ xs _ (Nat.le_refl _) (hDn _ _ _ hE (hKU _ _ _ (by omega))) (hI _ _ _ hi (Mild.putObj _ _ _ _ hl (by omega) rfl)) ((World.putObj_heap_other (by omega)).trans hd)⟩
    · exact hfail _ er pre _ (Nat.le_refl _) hE hi hd
end Go.Proofs.YtiheajlgaehfmaaDoor
