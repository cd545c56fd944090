import Derived.RangeFuncBox
import Derived.Laws.BitsAllLaws
import Derived.WalkKit
import Derived.Test.YtgihginfegckcaaGreatDoorRows
import Derived.WalkSpells
import Derived.WalkLawsBesides
import Derived.Deep.QuietTactic
import Derived.BigQuiet
import Derived.Deep.WholeRow
import Derived.Laws.ResultCell
import Derived.Test.YtgihginfegckcaaGreatDoorWsmM
/- Small notions: what a step keeps of memory (Kept), a slice value that holds given bytes (BytesIn), and facts on bits of numbers. -/
namespace Go.Proofs.YtgihginfegckcaaGreatDoor
open Go.RowKit

/-- The blocks of S lie as they lay; no block has gone; the streams are as they were. -/
structure Kept (S : Nat → Prop) (w w' : World) : Prop where
  os : w'.os = w.os
  tape : w'.tape = w.tape
  output : w'.output = w.output
  size : w.heap.size ≤ w'.heap.size
  block : ∀ k, S k → w'.heap[k]? = w.heap[k]?

theorem Kept.refl (S : Nat → Prop) (w : World) : Kept S w w := ⟨rfl, rfl, rfl, Nat.le_refl _, fun _ _ => rfl⟩
theorem Kept.trans {S : Nat → Prop} {a b c : World} (h : Kept S a b) (k : Kept S b c) : Kept S a c :=
  ⟨k.os.trans h.os, k.tape.trans h.tape, k.output.trans h.output, Nat.le_trans h.size k.size, fun i hi => (k.block i hi).trans (h.block i hi)⟩
theorem Kept.mono {S T : Nat → Prop} {w w' : World} (h : Kept S w w') (hT : ∀ k, T k → S k) : Kept T w w' := ⟨h.os, h.tape, h.output, h.size, fun k hk => h.block k (hT k hk)⟩
theorem Kept.drew {S : Nat → Prop} {a w : World} (h : Kept S a w) : Kept S a w.drew := ⟨h.os, h.tape, h.output, h.size, h.block⟩
theorem Kept.alloc {S : Nat → Prop} {a w : World} (h : Kept S a w) (hS : ∀ k, S k → k < w.heap.size) (o : Obj) : Kept S a (w.alloc o) :=
  h.trans ⟨rfl, rfl, rfl, by simp, fun k hk => Below.heap_alloc _ _ _ (hS k hk)⟩
theorem Kept.setCell {S : Nat → Prop} {a w : World} (h : Kept S a w) {p : Addr} (hp : ¬ S p.block) (u : Value) : Kept S a (w.setCell p u) :=
  h.trans ⟨rfl, rfl, rfl, by simp [World.setCell], fun k hk => Below.heap_setCell _ _ _ _ (fun e => hp (e ▸ hk))⟩
theorem Kept.grown {S : Nat → Prop} {a w w' : World} {row : Option Nat} (h : Kept S a w) (hg : w.grownBy w' row) (hS : ∀ k, S k → k < w.heap.size) (hr : ∀ k, row = some k → ¬ S k) : Kept S a w' :=
  h.trans ⟨hg.os, hg.tape, hg.output, hg.size, fun k hk => hg.block k (hS k hk) (fun e => hr k e.symm hk)⟩
theorem Kept.cell {S : Nat → Prop} {w w' : World} (h : Kept S w w') {p : Addr} (hp : S p.block) : w'.cell? p = w.cell? p := World.cell?_of_block (w := w) (h.block p.block hp)
theorem Kept.frozen {S : Nat → Prop} {w w' : World} (h : Kept S w w') {p : Addr} (hp : S p.block) : w'.frozen? p = w.frozen? p := World.frozen?_of_block (w := w) (h.block p.block hp)
theorem Kept.of_below {B : Nat} {S : Nat → Prop} {w w' : World} (h : Below B w w') (hS : ∀ k, S k → k < B) : Kept S w w' := ⟨h.os, h.tape, h.output, h.size, fun k hk => h.block k (hS k hk)⟩
theorem Kept.below {B : Nat} {S : Nat → Prop} {w w' : World} (h : Kept S w w') (hS : ∀ k, k < B → S k) : Below B w w' := ⟨h.os, h.tape, h.output, h.size, fun k hk => h.block k (hS k hk)⟩
theorem Kept.putObj {S : Nat → Prop} (W : World) (l : Nat) (o' : Obj) (hl : ¬ S l) : Kept S W (W.putObj l o') :=
  have hg := grownBy_putObj' W l o'
  ⟨hg.os, hg.tape, hg.output, hg.size, fun k hk => by
    by_cases hlt : k < W.heap.size
    · exact hg.block k hlt (fun e => hl (by cases e; exact hk))
    · have h1 : (W.putObj l o').heap.size = W.heap.size := by simp [World.putObj]
      rw [Array.getElem?_eq_none (by omega), Array.getElem?_eq_none (by omega)]⟩

/-- What 'Kept S' means to a range over a function: it joins, and it abides the loop's own book-keeping. -/
theorem keptK_b {S : Nat → Prop} {w : World} (hn : ∀ k, S k → k < w.heap.size) (W : World) (l : Nat) (o o' : Obj) (hl : w.heap.size ≤ l) (_ : W.heap[l]? = some o) (_ : o.isCells = false) (_ : o.isWalk = false) : Kept S W (W.putObj l o') :=
  Kept.putObj W l o' (fun h => by have := hn l h; omega)

/-- The slice value sv holds the bytes zs, in a block of S; or it has no element. -/
def BytesIn (S : Nat → Prop) (W : World) (sv : Value) (zs : List Int) : Prop :=
  (zs = [] ∧ ∃ a cap, sv = .slice a 0 cap) ∨
  ∃ b off cap, sv = .slice (some ⟨b, off, none⟩) zs.length cap ∧ S b ∧ ∀ j : Nat, j < zs.length → W.cell? ⟨b, off + j, none⟩ = some (.int .u8 (zs[j]?.getD 0))
theorem BytesIn.kept {S : Nat → Prop} {A B : World} (h : Kept S A B) {sv : Value} {zs : List Int} : BytesIn S A sv zs → BytesIn S B sv zs
  | .inl e => .inl e
  | .inr ⟨b, off, cap, e, hb, hc⟩ => .inr ⟨b, off, cap, e, hb, fun j hj => (h.cell (p := ⟨b, off + j, none⟩) hb).trans (hc j hj)⟩
theorem BytesIn.mono {S T : Nat → Prop} {A : World} (hT : ∀ k, S k → T k) {sv : Value} {zs : List Int} : BytesIn S A sv zs → BytesIn T A sv zs
  | .inl e => .inl e
  | .inr ⟨b, off, cap, e, hb, hc⟩ => .inr ⟨b, off, cap, e, hT _ hb, hc⟩
theorem BytesIn.form {S : Nat → Prop} {A : World} {sv : Value} {zs : List Int} : BytesIn S A sv zs → ∃ a cap, sv = .slice a zs.length cap
  | .inl ⟨e, a, cap, h⟩ => ⟨a, cap, by rw [h, e]; rfl⟩
  | .inr ⟨_, _, _, e, _⟩ => ⟨_, _, e⟩

/-- Bytes are numbers from 0 to 255. -/
def AreBytes (zs : List Int) : Prop := ∀ j : Nat, 0 ≤ zs[j]?.getD 0 ∧ zs[j]?.getD 0 ≤ 255

/-! ### bits -/
theorem and_one_bd (x : Int) : 0 ≤ bits .and .u32 x 1 ∧ bits .and .u32 x 1 < 2 := by
  show 0 ≤ IntKind.u32.wrap ((BitVec.ofInt 32 x &&& BitVec.ofInt 32 1).toNat : Int) ∧ IntKind.u32.wrap ((BitVec.ofInt 32 x &&& BitVec.ofInt 32 1).toNat : Int) < 2
  rw [IntKind.wrap_u32', BitVec.toNat_and]
  have h1 : (BitVec.ofInt 32 1).toNat = 1 := by decide
  rw [h1, Nat.and_one_is_mod]
  omega
theorem u32_and_one (x : Int) (h0 : 0 ≤ x) (h1 : x < 4294967296) : bits .and .u32 x 1 = x % 2 := by
  rw [u32_and x 1 h0 h1 (by omega) (by omega)]
  simp only [show (1 : Int).toNat = 1 from rfl, Nat.and_one_is_mod]
  omega

abbrev Bit := { b : Int // 0 ≤ b ∧ b < 2 }
/-- Bit number p of bytes, as the program reckons it. -/
def bitAt (zs : List Int) (p : Nat) : Bit := ⟨bits .and .u32 (zs[p / 8]?.getD 0 / 2 ^ (p % 8) % 4294967296) 1, and_one_bd _⟩
theorem bitAt_val (zs : List Int) (h : AreBytes zs) (p : Nat) : (bitAt zs p).1 = zs[p / 8]?.getD 0 / 2 ^ (p % 8) % 2 := by
  have hz := h (p / 8)
  have h2 : zs[p / 8]?.getD 0 / 2 ^ (p % 8) ≤ zs[p / 8]?.getD 0 := Int.ediv_le_self _ hz.1
  have h3 : 0 ≤ zs[p / 8]?.getD 0 / 2 ^ (p % 8) := Int.ediv_nonneg hz.1 (Int.pow_nonneg (by omega))
  show bits .and .u32 _ 1 = _
  rw [u32_and_one _ (by omega) (by omega), Int.emod_eq_of_lt (a := _ / _) h3 (by omega)]

/-- What has come when k rounds are over. -/
def upto {α : Type} (f : Nat → α) (k : Nat) : List α := (List.range k).map f
theorem upto_succ {α : Type} (f : Nat → α) (k : Nat) : upto f (k + 1) = upto f k ++ [f k] := by simp [upto, List.range_succ]
theorem upto_length {α : Type} (f : Nat → α) (k : Nat) : (upto f k).length = k := by simp [upto]

end Go.Proofs.YtgihginfegckcaaGreatDoor
/- Counts of lengths: the table of fifteen numbers, how it is filled, loaded and stored whole. -/
namespace Go.Proofs.YtgihginfegckcaaGreatDoor
open Go.RowKit

/-- Block B is a row of cells. -/
def Row (W : World) (B : Nat) (t : TypeId) (cs : Array Value) : Prop := W.heap[B]? = some (.cells cs t (0, 0))
theorem Row.lt {W : World} {B : Nat} {t : TypeId} {cs : Array Value} (h : Row W B t cs) : B < W.heap.size := (Array.getElem?_eq_some_iff.1 h).1
theorem Row.cell {W : World} {B : Nat} {t : TypeId} {cs : Array Value} (h : Row W B t cs) {i : Nat} {v : Value} (hi : cs[i]? = some v) : W.cell? ⟨B, i, none⟩ = some v := by
  simp [World.cell?, show W.heap[B]? = _ from h, hi]
theorem Row.frozen {W : World} {B : Nat} {t : TypeId} {cs : Array Value} (h : Row W B t cs) (o : Nat) : W.frozen? ⟨B, o, none⟩ = false := by simp [World.frozen?, show W.heap[B]? = _ from h]
theorem Row.new (W : World) (t : TypeId) (cs : Array Value) : Row (W.alloc (.cells cs t)) W.heap.size t cs := World.alloc_heap_new W _
theorem Row.kept {S : Nat → Prop} {W W' : World} {B : Nat} {t : TypeId} {cs : Array Value} (h : Row W B t cs) (hk : Kept S W W') (hS : S B) : Row W' B t cs := (hk.block B hS).trans h
theorem Row.below {N : Nat} {W W' : World} {B : Nat} {t : TypeId} {cs : Array Value} (h : Row W B t cs) (hk : Below N W W') (hS : B < N) : Row W' B t cs := (hk.block B hS).trans h
theorem Row.alloc {W : World} {B : Nat} {t : TypeId} {cs : Array Value} (h : Row W B t cs) (o : Obj) : Row (W.alloc o) B t cs := (Below.heap_alloc W o B h.lt).trans h
theorem Row.set {W : World} {B : Nat} {t : TypeId} {cs : Array Value} (i : Nat) (v : Value) (h : Row W B t cs) : Row (W.setCell ⟨B, i, none⟩ v) B t (cs.setIfInBounds i v) := by
  obtain ⟨hlt, hk⟩ := Array.getElem?_eq_some_iff.1 h
  show (W.heap.modify B _)[B]? = _
  rw [Array.getElem?_eq_getElem (by rw [Array.size_modify]; exact hlt), Array.getElem_modify_self, hk]
  rfl
theorem Row.setRow {W : World} {B : Nat} {t : TypeId} {cs : Array Value} (cs' : Array Value) (h : Row W B t cs) : Row (W.setRow B cs') B t cs' := by
  obtain ⟨hlt, hk⟩ := Array.getElem?_eq_some_iff.1 h
  show (W.heap.modify B _)[B]? = _
  rw [Array.getElem?_eq_getElem (by rw [Array.size_modify]; exact hlt), Array.getElem_modify_self, hk]
theorem heap_setRow (W : World) (B : Nat) (cs : Array Value) (k : Nat) (hk : k ≠ B) : (W.setRow B cs).heap[k]? = W.heap[k]? := by
  show (W.heap.modify B _)[k]? = _
  rw [Array.getElem?_modify, if_neg (fun e => hk e.symm)]
theorem Kept.setRow {S : Nat → Prop} {a w : World} (h : Kept S a w) {B : Nat} (hB : ¬ S B) (cs : Array Value) : Kept S a (w.setRow B cs) :=
  h.trans ⟨rfl, rfl, rfl, by simp [World.setRow], fun k hk => heap_setRow w B cs k (fun e => hB (e ▸ hk))⟩
theorem below_setRow {N : Nat} {a w : World} (h : Below N a w) {B : Nat} (hB : N ≤ B) (cs : Array Value) : Below N a (w.setRow B cs) :=
  ((Kept.of_below (S := (· < N)) h (fun _ h => h)).setRow (fun (e : B < N) => absurd e (by omega)) cs).below (fun _ h => h)

/-- The slice value sv holds the ints zs, in a block of S; or it has no element. -/
def IntsIn (S : Nat → Prop) (W : World) (sv : Value) (zs : List Int) : Prop :=
  (zs = [] ∧ ∃ a cap, sv = .slice a 0 cap) ∨
  ∃ b off cap, sv = .slice (some ⟨b, off, none⟩) zs.length cap ∧ S b ∧ ∀ j : Nat, j < zs.length → W.cell? ⟨b, off + j, none⟩ = some (.int .i64 (zs[j]?.getD 0))
theorem IntsIn.kept {S : Nat → Prop} {A B : World} (h : Kept S A B) {sv : Value} {zs : List Int} : IntsIn S A sv zs → IntsIn S B sv zs
  | .inl e => .inl e
  | .inr ⟨b, off, cap, e, hb, hc⟩ => .inr ⟨b, off, cap, e, hb, fun j hj => (h.cell (p := ⟨b, off + j, none⟩) hb).trans (hc j hj)⟩
theorem IntsIn.mono {S T : Nat → Prop} {A : World} (hT : ∀ k, S k → T k) {sv : Value} {zs : List Int} : IntsIn S A sv zs → IntsIn T A sv zs
  | .inl e => .inl e
  | .inr ⟨b, off, cap, e, hb, hc⟩ => .inr ⟨b, off, cap, e, hT _ hb, hc⟩
theorem IntsIn.below {N : Nat} {A B : World} (h : Below N A B) {sv : Value} {zs : List Int} (hi : IntsIn (· < N) A sv zs) : IntsIn (· < N) B sv zs := hi.kept (Kept.of_below h (fun _ h => h))
/-- The element at place k, as the walk asks it. -/
theorem IntsIn.at {S : Nat → Prop} {A : World} {a : Option Addr} {n cap : Nat} {zs : List Int} (h : IntsIn S A (.slice a n cap) zs) (k : Nat) (hk : k < zs.length) :
    ∃ b off, a = some ⟨b, off, none⟩ ∧ S b ∧ A.cell? ⟨b, off + k, none⟩ = some (.int .i64 (zs[k]?.getD 0)) := by
  rcases h with ⟨rfl, _⟩ | ⟨b, off, cap', e, hb, hc⟩
  · simp at hk
  · simp only [Value.slice.injEq] at e
    exact ⟨b, off, e.1, hb, hc k hk⟩

/-- Ints of Go's range. -/
def AreInts (zs : List Int) : Prop := ∀ j : Nat, -9223372036854775808 ≤ zs[j]?.getD 0 ∧ zs[j]?.getD 0 ≤ 9223372036854775807

end Go.Proofs.YtgihginfegckcaaGreatDoor
/- Rows of five cells: a reference, a text that is taken apart; boxes behind calls. -/
namespace Go.Proofs.YtgihginfegckcaaGreatDoor
open Go.RowKit

theorem Tryz.zero23 : (Tryz.prog.info? 32).map (fun i => (i.zero, i.size)) = some (some (.agg #[.string .empty, .int .i64 0, .int .i64 0, .bool false, .bool false]), 5) := by kernel_rfl
theorem Tryz.zero40 : (Tryz.prog.info? 86).map (fun i => (i.zero, i.size)) = some (some (.agg #[.string .empty, .string .empty, .string .empty, .bool false, .bool false]), 5) := by kernel_rfl
theorem load23 {W : World} {B : Nat} {cs : Array Value} (h : Row W B 32 cs) (hs : cs.size = 5) : (loadVar 32 ⟨B, 0, none⟩).run Tryz.prog W = .ok (.agg cs) W :=
  run_loadVar_row _ _ 32 32 cs (0, 0) _ h Tryz.underlying32 rfl (by rw [hs]; exact (zero_of_info Tryz.zero23).2)
theorem load40 {W : World} {B : Nat} {cs : Array Value} (h : Row W B 86 cs) (hs : cs.size = 5) : (loadVar 86 ⟨B, 0, none⟩).run Tryz.prog W = .ok (.agg cs) W :=
  run_loadVar_row _ _ 86 86 cs (0, 0) _ h Tryz.underlying86 rfl (by rw [hs]; exact (zero_of_info Tryz.zero40).2)
theorem ret_one {fn : Func} {p : Tmp} {ty : TypeId} (h : fn.results = #[.cell p ty]) {tmps : Array Value} {w : World} {g : Nat} {v : Value}
    (hp : tmps.getD p undef = .pointer (some ⟨g, 0, none⟩)) (hl : (loadVar ty ⟨g, 0, none⟩).run Tryz.prog w = .ok v w) : (results fn tmps).run Tryz.prog w = .ok v w := by
  have hp' : tmps[p]?.getD undef = .pointer (some ⟨g, 0, none⟩) := by simpa using hp
  simp [results, h, hp', asAddr, hl]
theorem ret_two {fn : Func} {p u : Tmp} {ty : TypeId} (h : fn.results = #[.cell p ty, .tmp u]) {tmps : Array Value} {w : World} {g : Nat} {v x : Value}
    (hp : tmps.getD p undef = .pointer (some ⟨g, 0, none⟩)) (hx : tmps.getD u undef = x) (hl : (loadVar ty ⟨g, 0, none⟩).run Tryz.prog w = .ok v w) : (results fn tmps).run Tryz.prog w = .ok (.tuple #[v, x]) w := by
  rw [results_cell_tmp h, hp, hx]
  simp [asAddr, Result.andThen, hl]
theorem Row.five {W : World} {B : Nat} {t : TypeId} {a b c d e : Value} (h : Row W B t #[a, b, c, d, e]) :
    W.cell? ⟨B, 0, none⟩ = some a ∧ W.cell? ⟨B, 1, none⟩ = some b ∧ W.cell? ⟨B, 2, none⟩ = some c ∧ W.cell? ⟨B, 3, none⟩ = some d ∧ W.cell? ⟨B, 4, none⟩ = some e :=
  ⟨h.cell rfl, h.cell rfl, h.cell rfl, h.cell rfl, h.cell rfl⟩
theorem Row.set5 {W : World} {B : Nat} {t : TypeId} {a b c d e : Value} (h : Row W B t #[a, b, c, d, e]) (a' b' c' d' e' : Value) :
    Row (((((W.setCell ⟨B, 0, none⟩ a').setCell ⟨B, 1, none⟩ b').setCell ⟨B, 2, none⟩ c').setCell ⟨B, 3, none⟩ d').setCell ⟨B, 4, none⟩ e') B t #[a', b', c', d', e'] :=
  ((((h.set 0 a').set 1 b').set 2 c').set 3 d').set 4 e'
theorem Row.off {W : World} {B : Nat} {t : TypeId} {cs : Array Value} (h : Row W B t cs) {B' : Nat} (i : Nat) (v : Value) (hne : B ≠ B') : Row (W.setCell ⟨B', i, none⟩ v) B t cs :=
  (Below.heap_setCell _ _ _ _ hne).trans h
theorem Row.off5 {W : World} {B : Nat} {t : TypeId} {cs : Array Value} (h : Row W B t cs) {B' : Nat} (hne : B ≠ B') (a b c d e : Value) :
    Row (((((W.setCell ⟨B', 0, none⟩ a).setCell ⟨B', 1, none⟩ b).setCell ⟨B', 2, none⟩ c).setCell ⟨B', 3, none⟩ d).setCell ⟨B', 4, none⟩ e) B t cs := ((((h.off 0 a hne).off 1 b hne).off 2 c hne).off 3 d hne).off 4 e hne
theorem below_set {N : Nat} {a w : World} (h : Below N a w) {B : Nat} (i : Nat) (v : Value) (hB : N ≤ B) : Below N a (w.setCell ⟨B, i, none⟩ v) :=
  ((Kept.of_below (S := (· < N)) h (fun _ h => h)).setCell (p := ⟨B, i, none⟩) (fun (e : B < N) => absurd e (by omega)) v).below (fun _ h => h)
theorem below_set5 {N : Nat} {x W : World} (h : Below N x W) {B' : Nat} (hN : N ≤ B') (a b c d e : Value) :
    Below N x (((((W.setCell ⟨B', 0, none⟩ a).setCell ⟨B', 1, none⟩ b).setCell ⟨B', 2, none⟩ c).setCell ⟨B', 3, none⟩ d).setCell ⟨B', 4, none⟩ e) := below_set (below_set (below_set (below_set (below_set h 0 a hN) 1 b hN) 2 c hN) 3 d hN) 4 e hN
theorem below_drewN {N : Nat} {a w : World} (h : Below N a w) (q : Nat) : Below N a (w.drewN q) := h.trans ⟨rfl, rfl, rfl, Nat.le_refl _, fun _ _ => rfl⟩
theorem Row.new1 (w : World) (o : Obj) (t : TypeId) (cs : Array Value) : Row ((w.alloc o).alloc (.cells cs t)) (w.heap.size + 1) t cs := by
  have := Row.new (w.alloc o) t cs
  simpa using this
theorem one_row (w w1 : World) (o1 : Array Value) (t1 : TypeId) (h : Below ((w.alloc (.cells o1 t1)).heap.size) (w.alloc (.cells o1 t1)) w1) :
    Row w1 w.heap.size t1 o1 ∧ Below w.heap.size w w1 :=
  ⟨(Row.new w t1 o1).below h (by simp), ((Below.refl _ w).alloc (Nat.le_refl _) _).trans (h.mono (by simp))⟩
theorem two_rows (w w1 : World) (o1 o2 : Array Value) (t1 t2 : TypeId) (h : Below (((w.alloc (.cells o1 t1)).alloc (.cells o2 t2)).heap.size) ((w.alloc (.cells o1 t1)).alloc (.cells o2 t2)) w1) :
    Row w1 w.heap.size t1 o1 ∧ Row w1 (w.heap.size + 1) t2 o2 ∧ Below w.heap.size w w1 := by
  refine ⟨((Row.new w t1 o1).alloc _).below h (by simp; omega), (Row.new1 w _ t2 o2).below h (by simp), ?_⟩
  exact (((Below.refl _ w).alloc (Nat.le_refl _) _).alloc (by simp) _).trans (h.mono (by simp; omega))
theorem three_rows (w w1 : World) (o1 o2 o3 : Array Value) (t1 t2 t3 : TypeId) (h : Below ((((w.alloc (.cells o1 t1)).alloc (.cells o2 t2)).alloc (.cells o3 t3)).heap.size) (((w.alloc (.cells o1 t1)).alloc (.cells o2 t2)).alloc (.cells o3 t3)) w1) :
    Row w1 w.heap.size t1 o1 ∧ Row w1 (w.heap.size + 1) t2 o2 ∧ Row w1 (w.heap.size + 2) t3 o3 ∧ Below w.heap.size w w1 := by
  have r1 := ((Row.new w t1 o1).alloc (.cells o2 t2)).alloc (.cells o3 t3)
  have r2 := (Row.new1 w (.cells o1 t1) t2 o2).alloc (.cells o3 t3)
  have r3 : Row (((w.alloc (.cells o1 t1)).alloc (.cells o2 t2)).alloc (.cells o3 t3)) (w.heap.size + 2) t3 o3 := by
    have := Row.new ((w.alloc (.cells o1 t1)).alloc (.cells o2 t2)) t3 o3
    simpa using this
  refine ⟨r1.below h r1.lt, r2.below h r2.lt, r3.below h r3.lt, ?_⟩
  exact ((((Below.refl _ w).alloc (Nat.le_refl _) _).alloc (by simp) _).alloc (by simp; omega) _).trans (h.mono (by simp; omega))
end Go.Proofs.YtgihginfegckcaaGreatDoor
