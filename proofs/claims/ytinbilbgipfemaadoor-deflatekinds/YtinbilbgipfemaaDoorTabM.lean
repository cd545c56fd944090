import Derived.Test.YtinbilbgipfemaaDoorRows
import Derived.Test.YtinbilbgipfemaaDoorBase
import Derived.WalkKit
import Derived.WalkSpells
import Derived.WalkLawsBesides
import Derived.Deep.QuietTactic
import Derived.BigQuiet
import Derived.Deep.WholeRow
import Derived.Laws.ResultCell
import Derived.Laws.StructEq
import Derived.Test.YtinbilbgipfemaaDoorMemM
/- Counts of lengths: the table of fifteen numbers, how it is filled, loaded and stored whole. -/
namespace Go.Proofs.YtinbilbgipfemaaDoor
open Go.RowKit

/-- Block B is a row of cells. -/
def Row (W : World) (B : Nat) (t : TypeId) (cs : Array Value) : Prop := W.heap[B]? = some (.cells cs t (0, 0))
theorem Row.lt {W : World} {B : Nat} {t : TypeId} {cs : Array Value} (h : Row W B t cs) : B < W.heap.size := (Array.getElem?_eq_some_iff.1 h).1
theorem Row.cell {W : World} {B : Nat} {t : TypeId} {cs : Array Value} (h : Row W B t cs) {i : Nat} {v : Value} (hi : cs[i]? = some v) : W.cell? ⟨B, i, none⟩ = some v := by
  simp [World.cell?, show W.heap[B]? = _ from h, hi]
theorem Row.frozen {W : World} {B : Nat} {t : TypeId} {cs : Array Value} (h : Row W B t cs) (o : Nat) : W.frozen? ⟨B, o, none⟩ = false := by simp [World.frozen?, show W.heap[B]? = _ from h]
theorem Row.new (W : World) (t : TypeId) (cs : Array Value) : Row (W.alloc (.cells cs t)) W.heap.size t cs := World.alloc_heap_new W _
theorem Row.kept {S : Nat → Prop} {W W' : World} {B : Nat} {t : TypeId} {cs : Array Value} (h : Row W B t cs) (hk : Kept S W W') (hS : S B) : Row W' B t cs := (hk.block B hS).trans h
theorem Row.below {N : Nat} {W W' : World} {B : Nat} {t : TypeId} {cs : Array Value} (h : Row W B t cs) (hk : Below N W W') (hS : B < N) : Row W' B t cs := (hk.block B hS).trans h
theorem Row.alloc {W : World} {B : Nat} {t : TypeId} {cs : Array Value} (h : Row W B t cs) (o : Obj) : Row (W.alloc o) B t cs := (Below.heap_alloc W o B h.lt).trans h
theorem Row.set {W : World} {B : Nat} {t : TypeId} {cs : Array Value} (i : Nat) (v : Value) (h : Row W B t cs) : Row (W.setCell ⟨B, i, none⟩ v) B t (cs.setIfInBounds i v) := by
  obtain ⟨hlt, hk⟩ := Array.getElem?_eq_some_iff.1 h
  show (W.heap.modify B _)[B]? = _
  rw [Array.getElem?_eq_getElem (by rw [Array.size_modify]; exact hlt), Array.getElem_modify_self, hk]
  rfl
theorem Row.setRow {W : World} {B : Nat} {t : TypeId} {cs : Array Value} (cs' : Array Value) (h : Row W B t cs) : Row (W.setRow B cs') B t cs' := by
  obtain ⟨hlt, hk⟩ := Array.getElem?_eq_some_iff.1 h
  show (W.heap.modify B _)[B]? = _
  rw [Array.getElem?_eq_getElem (by rw [Array.size_modify]; exact hlt), Array.getElem_modify_self, hk]
theorem heap_setRow (W : World) (B : Nat) (cs : Array Value) (k : Nat) (hk : k ≠ B) : (W.setRow B cs).heap[k]? = W.heap[k]? := by
  show (W.heap.modify B _)[k]? = _
  rw [Array.getElem?_modify, if_neg (fun e => hk e.symm)]
theorem Kept.setRow {S : Nat → Prop} {a w : World} (h : Kept S a w) {B : Nat} (hB : ¬ S B) (cs : Array Value) : Kept S a (w.setRow B cs) :=
  h.trans ⟨rfl, rfl, rfl, by simp [World.setRow], fun k hk => heap_setRow w B cs k (fun e => hB (e ▸ hk))⟩
theorem below_setRow {N : Nat} {a w : World} (h : Below N a w) {B : Nat} (hB : N ≤ B) (cs : Array Value) : Below N a (w.setRow B cs) :=
  ((Kept.of_below (S := (· < N)) h (fun _ h => h)).setRow (fun (e : B < N) => absurd e (by omega)) cs).below (fun _ h => h)

/-- The slice value sv holds the ints zs, in a block of S; or it has no element. -/
def IntsIn (S : Nat → Prop) (W : World) (sv : Value) (zs : List Int) : Prop :=
  (zs = [] ∧ ∃ a cap, sv = .slice a 0 cap) ∨
  ∃ b off cap, sv = .slice (some ⟨b, off, none⟩) zs.length cap ∧ S b ∧ ∀ j : Nat, j < zs.length → W.cell? ⟨b, off + j, none⟩ = some (.int .i64 (zs[j]?.getD 0))
theorem IntsIn.kept {S : Nat → Prop} {A B : World} (h : Kept S A B) {sv : Value} {zs : List Int} : IntsIn S A sv zs → IntsIn S B sv zs
  | .inl e => .inl e
  | .inr ⟨b, off, cap, e, hb, hc⟩ => .inr ⟨b, off, cap, e, hb, fun j hj => (h.cell (p := ⟨b, off + j, none⟩) hb).trans (hc j hj)⟩
theorem IntsIn.mono {S T : Nat → Prop} {A : World} (hT : ∀ k, S k → T k) {sv : Value} {zs : List Int} : IntsIn S A sv zs → IntsIn T A sv zs
  | .inl e => .inl e
  | .inr ⟨b, off, cap, e, hb, hc⟩ => .inr ⟨b, off, cap, e, hT _ hb, hc⟩
theorem IntsIn.below {N : Nat} {A B : World} (h : Below N A B) {sv : Value} {zs : List Int} (hi : IntsIn (· < N) A sv zs) : IntsIn (· < N) B sv zs := hi.kept (Kept.of_below h (fun _ h => h))
/-- The element at place k, as the walk asks it. -/
theorem IntsIn.at {S : Nat → Prop} {A : World} {a : Option Addr} {n cap : Nat} {zs : List Int} (h : IntsIn S A (.slice a n cap) zs) (k : Nat) (hk : k < zs.length) :
    ∃ b off, a = some ⟨b, off, none⟩ ∧ S b ∧ A.cell? ⟨b, off + k, none⟩ = some (.int .i64 (zs[k]?.getD 0)) := by
  rcases h with ⟨rfl, _⟩ | ⟨b, off, cap', e, hb, hc⟩
  · simp at hk
  · simp only [Value.slice.injEq] at e
    exact ⟨b, off, e.1, hb, hc k hk⟩

/-! ### the table -/
def cnt (zs : List Int) (n : Nat) : Nat := zs.countP (fun z => z == (n : Int))
def tabL (zs : List Int) : List Value := (List.range 15).map (fun i => Value.int .i64 (cnt zs (i + 1) : Int))
def tab (zs : List Int) : Array Value := (tabL zs).toArray
def inRange (zs : List Int) : Prop := ∀ z ∈ zs, 0 ≤ z ∧ z ≤ 15
instance (zs : List Int) : Decidable (inRange zs) := inferInstanceAs (Decidable (∀ z ∈ zs, _))
theorem tab_size (zs : List Int) : (tab zs).size = 15 := by simp [tab, tabL]
theorem tab_at (zs : List Int) (i : Nat) (h : i < 15) : (tab zs)[i]? = some (.int .i64 (cnt zs (i + 1))) := by simp [tab, tabL, h]
theorem cnt_le (zs : List Int) (n : Nat) : cnt zs n ≤ zs.length := List.countP_le_length
theorem cnt_snoc (zs : List Int) (z : Int) (n : Nat) : cnt (zs ++ [z]) n = cnt zs n + if z = (n : Int) then 1 else 0 := by
  simp [cnt, List.countP_append, List.countP_cons]
theorem tab_snoc (zs : List Int) (m : Nat) (h0 : 0 < m) (h1 : m ≤ 15) : tab (zs ++ [(m : Int)]) = (tab zs).setIfInBounds (m - 1) (.int .i64 ((cnt zs m : Nat) + 1 : Int)) := by
  apply Array.ext_getElem?
  intro i
  rw [Array.getElem?_setIfInBounds]
  by_cases hi : i < 15
  · rw [tab_at _ i hi, tab_at _ i hi, cnt_snoc, tab_size]
    by_cases e : m - 1 = i
    · subst e
      rw [if_pos rfl, if_pos hi, show m - 1 + 1 = m by omega, if_pos rfl]
      rfl
    · rw [if_neg e, if_neg (by omega)]
      rfl
  · rw [if_neg (by omega), Array.getElem?_eq_none (by rw [tab_size]; omega), Array.getElem?_eq_none (by rw [tab_size]; omega)]
theorem tab_snoc0 (zs : List Int) : tab (zs ++ [0]) = tab zs := by
  apply Array.ext_getElem?
  intro i
  by_cases hi : i < 15
  · rw [tab_at _ i hi, tab_at _ i hi, cnt_snoc, if_neg (by omega)]
    rfl
  · rw [Array.getElem?_eq_none (by rw [tab_size]; omega), Array.getElem?_eq_none (by rw [tab_size]; omega)]
theorem tab_one (zs : List Int) : (tab zs).all (·.oneCell') = true := by
  rw [Array.all_eq_true]
  intro i hi
  have h := tab_at zs i (by rw [tab_size] at hi; exact hi)
  rw [Array.getElem?_eq_getElem hi] at h
  rw [Option.some.inj h]
  rfl

theorem Tryd.info53 : (Tryd.prog.info? 137).map (fun i => (i.zero, i.size)) = some (some (.agg (tab [])), 15) := by kernel_rfl
theorem Tryd.under53 : Tryd.prog.underlying 137 = some (.array 15 3) := by kernel_rfl
theorem size53 : (Tryd.prog.info? 137).map (·.size) = some 15 := (zero_of_info Tryd.info53).2
theorem store53 {W : World} {B : Nat} {cs : Array Value} (zs : List Int) (h : Row W B 137 cs) (hs : cs.size = 15) : (storeCells ⟨B, 0, none⟩ (tab zs).toList 0).run Tryd.prog W = .ok () (W.setRow B (tab zs)) := by
  have := run_storeVar_row (P := Tryd.prog) W B 137 137 cs (tab zs) h (by rw [size53, tab_size]) (by rw [tab_size, hs]) (tab_one zs)
  have hi := size53
  cases hq : Tryd.prog.info? 137 with
  | none => simp [hq] at hi
  | some i =>
    have hz : (tab zs).size = i.size := by rw [tab_size]; simp [hq] at hi; omega
    simpa [storeVar, sizeOf, typeInfo, hq, Value.cells, hz] using this
theorem tab_fold (zs : List Int) : (#[.int .i64 (cnt zs 1), .int .i64 (cnt zs 2), .int .i64 (cnt zs 3), .int .i64 (cnt zs 4), .int .i64 (cnt zs 5), .int .i64 (cnt zs 6), .int .i64 (cnt zs 7), .int .i64 (cnt zs 8), .int .i64 (cnt zs 9), .int .i64 (cnt zs 10), .int .i64 (cnt zs 11), .int .i64 (cnt zs 12), .int .i64 (cnt zs 13), .int .i64 (cnt zs 14), .int .i64 (cnt zs 15)] : Array Value) = tab zs := rfl
/-- The fifteen cells of a table that lies in a block. -/
theorem Row.tab {W : World} {B : Nat} {zs : List Int} (h : Row W B 137 (tab zs)) : W.cell? ⟨B, 0, none⟩ = some (.int .i64 (cnt zs 1)) ∧ W.cell? ⟨B, 1, none⟩ = some (.int .i64 (cnt zs 2)) ∧ W.cell? ⟨B, 2, none⟩ = some (.int .i64 (cnt zs 3)) ∧ W.cell? ⟨B, 3, none⟩ = some (.int .i64 (cnt zs 4)) ∧ W.cell? ⟨B, 4, none⟩ = some (.int .i64 (cnt zs 5)) ∧ W.cell? ⟨B, 5, none⟩ = some (.int .i64 (cnt zs 6)) ∧ W.cell? ⟨B, 6, none⟩ = some (.int .i64 (cnt zs 7)) ∧ W.cell? ⟨B, 7, none⟩ = some (.int .i64 (cnt zs 8)) ∧ W.cell? ⟨B, 8, none⟩ = some (.int .i64 (cnt zs 9)) ∧ W.cell? ⟨B, 9, none⟩ = some (.int .i64 (cnt zs 10)) ∧ W.cell? ⟨B, 10, none⟩ = some (.int .i64 (cnt zs 11)) ∧ W.cell? ⟨B, 11, none⟩ = some (.int .i64 (cnt zs 12)) ∧ W.cell? ⟨B, 12, none⟩ = some (.int .i64 (cnt zs 13)) ∧ W.cell? ⟨B, 13, none⟩ = some (.int .i64 (cnt zs 14)) ∧ W.cell? ⟨B, 14, none⟩ = some (.int .i64 (cnt zs 15)) :=
  ⟨h.cell (tab_at zs 0 (by omega)), h.cell (tab_at zs 1 (by omega)), h.cell (tab_at zs 2 (by omega)), h.cell (tab_at zs 3 (by omega)), h.cell (tab_at zs 4 (by omega)), h.cell (tab_at zs 5 (by omega)), h.cell (tab_at zs 6 (by omega)), h.cell (tab_at zs 7 (by omega)), h.cell (tab_at zs 8 (by omega)), h.cell (tab_at zs 9 (by omega)), h.cell (tab_at zs 10 (by omega)), h.cell (tab_at zs 11 (by omega)), h.cell (tab_at zs 12 (by omega)), h.cell (tab_at zs 13 (by omega)), h.cell (tab_at zs 14 (by omega))⟩
theorem load53v {W : World} {B : Nat} {cs : Array Value} (h : Row W B 137 cs) (hs : cs.size = 15) : (loadVar 137 ⟨B, 0, none⟩).run Tryd.prog W = .ok (.agg cs) W :=
  run_loadVar_row _ _ 137 137 cs (0, 0) _ h Tryd.under53 rfl (by rw [size53, hs])
end Go.Proofs.YtinbilbgipfemaaDoor
/- count, full, right, check: which lengths can be, and their table. -/
namespace Go.Proofs.YtinbilbgipfemaaDoor
open Go.RowKit

set_option maxRecDepth 100000 in
set_option maxHeartbeats 1000000 in
theorem count_long (a : Option Addr) (n cap : Nat) (hn : 320 < n) (w : World) :
    Calls Tryd.prog 93 #[.slice a n cap] w fun e w' => e = .returned (.tuple #[.agg (tab []), .int .i64 1]) ∧ Below w.heap.size w w' := by
  have hz := (zero_of_info Tryd.info53).1
  have hb : ∀ w : World, (Instr.build 137 #[]).run Tryd.prog w = .ok (.agg (tab [])) w := fun _ => by kernel_rfl
  have R0 := Row.new w 137 (tab [])
  have hst := store53 [] R0 (tab_size _)
  go_enter Tryd.func93, Tryd.ntmps93
  go_wp2
  refine bodyPost_ret (v := .tuple #[.agg (tab []), .int .i64 1]) ?_ rfl ⟨rfl, below_setRow ((Below.refl _ w).alloc (Nat.le_refl _) _) (Nat.le_refl _) _⟩
  rw [results_cell_tmp rfl]
  have hld := load53v (R0.setRow (tab [])) (tab_size _)
  simp [asAddr, Result.andThen, hld]
/-- Lengths that can be at all. -/
def okLen (zs : List Int) : Prop := zs.length ≤ 320 ∧ inRange zs
instance (zs : List Int) : Decidable (okLen zs) := inferInstanceAs (Decidable (_ ∧ _))

set_option maxRecDepth 100000 in
set_option maxHeartbeats 2000000 in
theorem count_r (r : Value) (S : Nat → Prop) (a : Option Addr) (cap : Nat) (zs : List Int) (HR : Hid (r = if okLen zs then .tuple #[.agg (tab zs), .int .i64 0] else .tuple #[.agg (tab []), .int .i64 1])) (w : World) (hS : ∀ k, S k → k < w.heap.size) (hI : IntsIn S w (.slice a zs.length cap) zs) :
    Calls Tryd.prog 93 #[.slice a zs.length cap] w fun e w' => e = .returned r ∧ Below w.heap.size w w' := by
  by_cases hn : 320 < zs.length
  · rw [show r = _ from HR.out, if_neg (fun h => by have := h.1; omega)]
    exact count_long a _ cap hn w
  have hz := (zero_of_info Tryd.info53).1
  have hb : ∀ w : World, (Instr.build 137 #[]).run Tryd.prog w = .ok (.agg (tab [])) w := fun _ => by kernel_rfl
  go_enter Tryd.func93, Tryd.ntmps93
  go_wp2
  go_loopw [13] (fun i wr => ∃ k : Nat, k ≤ zs.length ∧ i = .int .i64 k ∧ Row wr w.heap.size 137 (tab []) ∧ Row wr (w.heap.size + 1) 137 (tab (zs.take k)) ∧ Below w.heap.size w wr ∧ inRange (zs.take k))
    (fun i _ => zs.length - (intOf i).toNat)
  case atStart => exact ⟨0, Nat.zero_le _, rfl, (Row.new w 137 (tab [])).alloc _, by have := Row.new (w.alloc (.cells (tab []) 137)) 137 (tab []); simpa using this, ((Below.refl _ w).alloc (Nat.le_refl _) _).alloc (by simp) _, fun z hz => by simp at hz⟩
  case round =>
    obtain ⟨k, hk, rfl, R0, R1, hB, hr⟩ := hrel
    by_cases hlt : k < zs.length
    · obtain ⟨b, off, rfl, hb', hc⟩ := hI.at k hlt
      have hcx := ((Kept.of_below hB hS).cell (p := ⟨b, off + k, none⟩) hb').trans hc
      have HT : Hid (zs.take (k + 1) = zs.take k ++ [zs[k]?.getD 0]) := by
        show _ = _
        rw [List.take_succ_eq_append_getElem hlt]; simp [hlt]
      have HM : Hid (zs[k]?.getD 0 ∈ zs) := by
        show _ ∈ _
        simp [hlt]
      clear hc
      generalize zs[k]?.getD 0 = z at hcx HT HM
      have hst := store53 [] R0 (tab_size _)
      by_cases hbad : z < 0 ∨ 15 < z
      · have hno : ¬ okLen zs := fun h => by have := h.2 z HM.out; omega
        have hrv : r = .tuple #[.agg (tab []), .int .i64 1] := by rw [show r = _ from HR.out, if_neg hno]
        clear HR
        have HF : Hid (Below w.heap.size w (wr.setRow w.heap.size (tab []))) := below_setRow hB (Nat.le_refl _) _
        have HL : Hid ((loadVar 137 ⟨w.heap.size, 0, none⟩).run Tryd.prog (wr.setRow w.heap.size (tab [])) = .ok (.agg (tab [])) (wr.setRow w.heap.size (tab []))) := load53v (R0.setRow _) (tab_size _)
        clear R0 R1 hB hr HT HM hno
        rcases hbad with h | h
        all_goals
          go_wp2
          refine bodyPost_ret (v := .tuple #[.agg (tab []), .int .i64 1]) ?_ rfl ⟨by rw [hrv], HF.out⟩
          rw [results_cell_tmp rfl]
          have hl := HL.out
          simp [asAddr, Result.andThen, hl]
      · obtain ⟨m, rfl⟩ := Int.eq_ofNat_of_zero_le (show 0 ≤ z by omega)
        have hr' : inRange (zs.take (k + 1)) := by
          rw [HT.out]
          intro z hz
          rcases List.mem_append.1 hz with h | h
          · exact hr z h
          · simp at h; omega
        by_cases h0 : m = 0
        · subst h0
          have HR1 : Hid (Row wr (w.heap.size + 1) 137 (tab (zs.take (k + 1)))) := by
            show Row _ _ _ _
            rw [HT.out, show ((0 : Nat) : Int) = 0 from rfl, tab_snoc0]
            exact R1
          clear R1
          go_wp2
          go_roundw
          case rel => exact ⟨k + 1, by omega, by simp, R0, HR1.out, hB, hr'⟩
          case measure => simp [intOf]; omega
        · have hcell := R1.cell (tab_at (zs.take k) (m - 1) (by omega))
          have hfr := R1.frozen (m - 1)
          have hle := cnt_le (zs.take k) m
          have htl : (zs.take k).length ≤ 320 := by simp; omega
          rw [show m - 1 + 1 = m by omega] at hcell
          have HR1 : Hid (Row (wr.setCell ⟨w.heap.size + 1, m - 1, none⟩ (.int .i64 ((cnt (zs.take k) m : Nat) + 1 : Int))) (w.heap.size + 1) 137 (tab (zs.take (k + 1)))) := by
            show Row _ _ _ _
            rw [HT.out, tab_snoc _ m (by omega) (by omega)]
            exact R1.set _ _
          have HR0 : Hid (Row (wr.setCell ⟨w.heap.size + 1, m - 1, none⟩ (.int .i64 ((cnt (zs.take k) m : Nat) + 1 : Int))) w.heap.size 137 (tab [])) :=
            R0.kept (S := fun x => x ≠ w.heap.size + 1) ((Kept.refl _ wr).setCell (p := ⟨w.heap.size + 1, m - 1, none⟩) (by simp) _) (by simp)
          have HB : Hid (Below w.heap.size w (wr.setCell ⟨w.heap.size + 1, m - 1, none⟩ (.int .i64 ((cnt (zs.take k) m : Nat) + 1 : Int)))) := hB.setCell (p := ⟨w.heap.size + 1, m - 1, none⟩) (by simp) _
          clear R1 R0 hB hst
          generalize cnt (zs.take k) m = q at hcell HR1 HR0 HB hle
          have e1 : ((m : Int) - 1).toNat = m - 1 := by omega
          go_wp2
          go_roundw
          case rel => exact ⟨k + 1, by omega, by simp, HR0.out, HR1.out, HB.out, hr'⟩
          case measure => simp [intOf]; omega
    · obtain rfl : k = zs.length := by omega
      rw [List.take_length] at R1 hr
      have hrv : r = .tuple #[.agg (tab zs), .int .i64 0] := by rw [show r = _ from HR.out, if_pos ⟨by omega, hr⟩]
      obtain ⟨c0, c1, c2, c3, c4, c5, c6, c7, c8, c9, c10, c11, c12, c13, c14⟩ := R1.tab
      have hfold := tab_fold zs
      have hst := store53 zs R0 (tab_size _)
      have HF : Hid (Below w.heap.size w (wr.setRow w.heap.size (tab zs))) := below_setRow hB (Nat.le_refl _) _
      have HL : Hid ((loadVar 137 ⟨w.heap.size, 0, none⟩).run Tryd.prog (wr.setRow w.heap.size (tab zs)) = .ok (.agg (tab zs)) (wr.setRow w.heap.size (tab zs))) := load53v (R0.setRow _) (tab_size _)
      clear HR R0 R1 hB hr hI
      go_wp2
      refine bodyPost_ret (v := .tuple #[.agg (tab zs), .int .i64 0]) ?_ rfl ⟨by rw [hrv], HF.out⟩
      rw [results_cell_tmp rfl]
      have hl := HL.out
      simp [asAddr, Result.andThen, hl]
theorem count_any (S : Nat → Prop) (a : Option Addr) (cap : Nat) (zs : List Int) (w : World) (hS : ∀ k, S k → k < w.heap.size) (hI : IntsIn S w (.slice a zs.length cap) zs) :
    Calls Tryd.prog 93 #[.slice a zs.length cap] w fun e w' => e = .returned (if okLen zs then .tuple #[.agg (tab zs), .int .i64 0] else .tuple #[.agg (tab []), .int .i64 1]) ∧ Below w.heap.size w w' :=
  count_r _ S a cap zs rfl w hS hI
end Go.Proofs.YtinbilbgipfemaaDoor
/- full, right, check: which lengths are right. -/
namespace Go.Proofs.YtinbilbgipfemaaDoor
open Go.RowKit

theorem wrap64_id (n : Int) (h : -9223372036854775808 ≤ n ∧ n ≤ 9223372036854775807) : wrap64 n = n := by unfold wrap64; omega
/-- The room that codes of up to k bits take up. -/
def room (zs : List Int) : Nat → Nat
  | 0 => 0
  | k + 1 => room zs k + cnt zs (k + 1) * 2 ^ (14 - k)
theorem room_le (zs : List Int) (h : zs.length ≤ 320) (k : Nat) (hk : k ≤ 15) : room zs k ≤ k * 5242880 := by
  induction k with
  | zero => simp [room]
  | succ k ih =>
    have h1 := ih (by omega)
    have h2 := cnt_le zs (k + 1)
    have h3 : cnt zs (k + 1) * 2 ^ (14 - k) ≤ 320 * 2 ^ 14 := Nat.mul_le_mul (by omega) (Nat.pow_le_pow_right (by omega) (by omega))
    simp only [room]
    omega
theorem index53 (zs : List Int) (k : Nat) (hk : k < 15) (w : World) : (Instr.index 137 (.agg (tab zs)) (.int .i64 k)).run Tryd.prog w = .ok (.int .i64 (cnt zs (k + 1))) w := by
  rcases (by omega : k = 0 ∨ k = 1 ∨ k = 2 ∨ k = 3 ∨ k = 4 ∨ k = 5 ∨ k = 6 ∨ k = 7 ∨ k = 8 ∨ k = 9 ∨ k = 10 ∨ k = 11 ∨ k = 12 ∨ k = 13 ∨ k = 14) with rfl | rfl | rfl | rfl | rfl | rfl | rfl | rfl | rfl | rfl | rfl | rfl | rfl | rfl | rfl <;> kernel_rfl

set_option maxRecDepth 100000 in
set_option maxHeartbeats 2000000 in
theorem full_any (zs : List Int) (h : zs.length ≤ 320) (w : World) :
    Calls Tryd.prog 99 #[.agg (tab zs)] w fun e w' => e = .returned (.bool (decide (room zs 15 = 32768))) ∧ w' = w.alloc (.cells (tab zs) 137) := by
  have R0 := Row.new w 137 (tab zs)
  obtain ⟨c0, c1, c2, c3, c4, c5, c6, c7, c8, c9, c10, c11, c12, c13, c14⟩ := R0.tab
  have hfold := tab_fold zs
  go_enter Tryd.func99, Tryd.ntmps99
  go_wp2
  go_loop [3, 7] (fun r i => ∃ k : Nat, k ≤ 15 ∧ i = .int .i64 k ∧ r = .int .i64 (room zs k)) (fun _ i => 15 - (intOf i).toNat)
  case atStart => exact ⟨0, by omega, rfl, rfl⟩
  case round =>
    obtain ⟨k, hk, rfl, rfl⟩ := hrel
    clear c0 c1 c2 c3 c4 c5 c6 c7 c8 c9 c10 c11 c12 c13 c14 hfold R0
    have hr := room_le zs h k hk
    by_cases hlt : k < 15
    · have hix := index53 zs k hlt
      have hq := cnt_le zs (k + 1)
      have HS : Hid (room zs (k + 1) = room zs k + cnt zs (k + 1) * 2 ^ (14 - k)) := rfl
      obtain ⟨s, HSZ⟩ : ∃ s, s = room zs (k + 1) := ⟨_, rfl⟩
      rw [← HSZ] at HS
      have HSZ : Hid (s = room zs (k + 1)) := HSZ
      generalize room zs k = r at hr HS
      generalize cnt zs (k + 1) = q at hix hq HS
      have hq2 : (q : Int) * 2 ^ (14 - k) ≤ 5242880 := by
        have h3 : q * 2 ^ (14 - k) ≤ 320 * 2 ^ 14 := Nat.mul_le_mul (by omega) (Nat.pow_le_pow_right (by omega) (by omega))
        have h4 : ((q * 2 ^ (14 - k) : Nat) : Int) ≤ ((320 * 2 ^ 14 : Nat) : Int) := by exact_mod_cast h3
        simpa using h4
      have hq3 : 0 ≤ (q : Int) * 2 ^ (14 - k) := Int.mul_nonneg (by omega) (Int.pow_nonneg (by omega))
      have HW : Hid (wrap64 ((r : Int) + wrap64 ((q : Int) * 2 ^ (14 - k))) = (s : Int)) := by
        show _ = _
        have e : (s : Int) = r + (q : Int) * 2 ^ (14 - k) := by rw [HS.out]; simp
        rw [e]
        generalize (q : Int) * 2 ^ (14 - k) = p at hq2 hq3
        rw [wrap64_id p (by omega), wrap64_id _ (by omega)]
      clear hq2 hq3
      go_wp2
      exact ⟨⟨k + 1, by omega, by simp, by rw [HW.out, HSZ.out]⟩, by simp [intOf]; omega⟩
    · obtain rfl : k = 15 := by omega
      have HQ : Hid ((((room zs 15 : Nat) : Int) == 32768) = decide (room zs 15 = 32768)) := by
        show _ = _
        rw [Bool.eq_iff_iff]
        simp
        omega
      go_wp2
      go_ret
      exact ⟨congrArg (fun b => Ending.returned (.bool b)) HQ.out, rfl⟩

/-! ### two tables, held against each other -/
def intsV (xs : List Int) : Array Value := (xs.map (Value.int .i64)).toArray
theorem equalIn_ints {P : Program} (w : World) (d : Nat) (t e : TypeId) (n : Nat) (ht : P.underlying t = some (.array n e)) (he : P.underlying e = some (.int .i64)) (hsz : ∀ w, (sizeOf e).run P w = .ok 1 w)
    (xs ys : List Int) (hx : xs.length = n) (hy : ys.length = n) :
    (Op.equalIn (d + 2) t (.agg (intsV xs)) (.agg (intsV ys))).run P w = .ok ((List.range n).all fun i => xs.getD i 0 == ys.getD i 0) w := by
  rw [List.range_eq_range', Op.equalIn]
  simp only [Sem.run_bind, run_underlying ht, Result.andThen_ok, hsz, Std.Legacy.Range.forIn_eq_forIn_range', Std.Legacy.Range.size, Nat.sub_zero, Nat.add_sub_cancel, Nat.div_one]
  have hl : ∀ i ∈ List.range' 0 n 1, i < n := fun i hi => by simpa using (List.mem_range'_1.1 hi).2
  generalize List.range' 0 n 1 = l at hl ⊢
  induction l with
  | nil => simp
  | cons i l ih =>
    have hi : i < n := hl i (by simp)
    have px : (part e (intsV xs) (i * 1)).run P w = .ok (.int .i64 (xs.getD i 0)) w := by
      simp [part, isAgg, run_underlying he, intsV, List.getD, List.getElem?_eq_getElem (show i < xs.length by omega)]
    have py : (part e (intsV ys) (i * 1)).run P w = .ok (.int .i64 (ys.getD i 0)) w := by
      simp [part, isAgg, run_underlying he, intsV, List.getD, List.getElem?_eq_getElem (show i < ys.length by omega)]
    have pe : (Op.equalIn (d + 1) e (.int .i64 (xs.getD i 0)) (.int .i64 (ys.getD i 0))).run P w = .ok (xs.getD i 0 == ys.getD i 0) w := run_equalIn_int w d e .i64 .i64 _ _ he
    simp only [List.forIn_cons, Sem.run_bind, px, py, pe, Result.andThen_ok, List.all_cons]
    cases hb : (xs.getD i 0 == ys.getD i 0)
    · simp
    · simp only [Bool.not_true, Bool.false_eq_true, if_false, Sem.run_pure, Result.andThen_ok, Bool.true_and]
      exact ih fun j hj => hl j (by simp [hj])
def cntL (zs : List Int) : List Int := (List.range 15).map (fun i => (cnt zs (i + 1) : Int))
theorem tab_ints (zs : List Int) : tab zs = intsV (cntL zs) := rfl
/-- The table is the one of these lengths. -/
def sameTab (zs ys : List Int) : Bool := (List.range 15).all fun i => (cntL zs).getD i 0 == (cntL ys).getD i 0
theorem eql53 (zs ys : List Int) (w : World) : (Op.equalIn 10000 137 (.agg (tab zs)) (.agg (tab ys))).run Tryd.prog w = .ok (sameTab zs ys) w := by
  rw [tab_ints, tab_ints, equalIn_ints w 9998 137 3 15 Tryd.under53 Tryd.underlying3 (fun w => by simp) _ _ (by simp [cntL]) (by simp [cntL])]
  rfl

/-- Lengths whose codes are there: full ones, none, or one of a single bit. -/
def rightB (zs : List Int) : Bool := decide (room zs 15 = 32768) || sameTab zs [] || sameTab zs [1]

set_option maxRecDepth 100000 in
set_option maxHeartbeats 2000000 in
theorem right_r (b : Bool) (zs : List Int) (HR : Hid (b = (decide (room zs 15 = 32768) || sameTab zs [] || sameTab zs [1]))) (h : zs.length ≤ 320) (w : World) :
    Calls Tryd.prog 94 #[.agg (tab zs)] w fun e w' => e = .returned (.bool b) ∧ Below w.heap.size w w' := by
  have he0 : ∀ w, (Op.equalIn 10000 137 (.agg (tab zs)) (.agg #[.int .i64 0, .int .i64 0, .int .i64 0, .int .i64 0, .int .i64 0, .int .i64 0, .int .i64 0, .int .i64 0, .int .i64 0, .int .i64 0, .int .i64 0, .int .i64 0, .int .i64 0, .int .i64 0, .int .i64 0])).run Tryd.prog w = .ok (sameTab zs []) w := eql53 zs []
  have he1 : ∀ w, (Op.equalIn 10000 137 (.agg (tab zs)) (.agg #[.int .i64 1, .int .i64 0, .int .i64 0, .int .i64 0, .int .i64 0, .int .i64 0, .int .i64 0, .int .i64 0, .int .i64 0, .int .i64 0, .int .i64 0, .int .i64 0, .int .i64 0, .int .i64 0, .int .i64 0])).run Tryd.prog w = .ok (sameTab zs [1]) w := eql53 zs [1]
  have R0 := Row.new w 137 (tab zs)
  obtain ⟨c0, c1, c2, c3, c4, c5, c6, c7, c8, c9, c10, c11, c12, c13, c14⟩ := R0.tab
  have hfold := tab_fold zs
  go_enter Tryd.func94, Tryd.ntmps94
  go_wp2_with fail
  refine (full_any zs h _).mono ?_
  rintro e w1 ⟨rfl, hw1⟩
  have hB : Below w.heap.size w w1 := hw1 ▸ ((Below.refl _ w).alloc (Nat.le_refl _) _).alloc (by simp) _
  have R1 : Row w1 w.heap.size 137 (tab zs) := hw1 ▸ R0.alloc _
  clear hw1 R0 c0 c1 c2 c3 c4 c5 c6 c7 c8 c9 c10 c11 c12 c13 c14
  obtain ⟨c0, c1, c2, c3, c4, c5, c6, c7, c8, c9, c10, c11, c12, c13, c14⟩ := R1.tab
  clear R1
  generalize decide (room zs 15 = 32768) = b1 at HR
  generalize sameTab zs [] = b2 at HR he0
  generalize sameTab zs [1] = b3 at HR he1
  cases b1
  · cases b2
    · go_wp2
      go_ret
      exact ⟨by rw [HR.out]; rfl, hB⟩
    · go_wp2
      go_ret
      exact ⟨by rw [HR.out]; rfl, hB⟩
  · go_wp2
    go_ret
    exact ⟨by rw [HR.out]; rfl, hB⟩
theorem right_any (zs : List Int) (h : zs.length ≤ 320) (w : World) :
    Calls Tryd.prog 94 #[.agg (tab zs)] w fun e w' => e = .returned (.bool (rightB zs)) ∧ Below w.heap.size w w' := right_r _ zs rfl h w
end Go.Proofs.YtinbilbgipfemaaDoor
/- check and Full: the counts of lengths that are right, or the error. -/
namespace Go.Proofs.YtinbilbgipfemaaDoor
open Go.RowKit

/-- The error of these lengths: 1 ErrArg, 11 ErrCode, 0 none. -/
def errOf (zs : List Int) : Int := if okLen zs then (if rightB zs then 0 else 11) else 1
/-- The table that comes with it. -/
def tabOf (zs : List Int) : Array Value := if errOf zs = 0 then tab zs else tab []

set_option maxRecDepth 100000 in
set_option maxHeartbeats 2000000 in
theorem check_arg (S : Nat → Prop) (a : Option Addr) (cap : Nat) (zs : List Int) (w : World) (hS : ∀ k, S k → k < w.heap.size) (hI : IntsIn S w (.slice a zs.length cap) zs) (h : ¬ okLen zs) :
    Calls Tryd.prog 87 #[.slice a zs.length cap] w fun e w' => e = .returned (.tuple #[.agg (tab []), .int .i64 1]) ∧ Below w.heap.size w w' := by
  have hz := (zero_of_info Tryd.info53).1
  have hcnt := count_any S a cap zs (w.alloc (.cells (tab []) 137)) (fun k hk => by have := hS k hk; simp; omega) (hI.kept (((Kept.refl _ w).alloc hS _)))
  rw [if_neg h] at hcnt
  go_enter Tryd.func87, Tryd.ntmps87
  go_wp2_with fail
  refine hcnt.mono ?_
  rintro e w1 ⟨rfl, hB1⟩
  clear hcnt
  have R0 : Row w1 w.heap.size 137 (tab []) := (Row.new w 137 (tab [])).below hB1 (by simp)
  have hB : Below w.heap.size w w1 := ((Below.refl _ w).alloc (Nat.le_refl _) _).trans (hB1.mono (by simp))
  have R1 := Row.new w1 137 (tab [])
  have hs1 := store53 [] R1 (tab_size _)
  have hlt := hB.size
  have R0' : Row ((w1.alloc (.cells (tab []) 137)).setRow w1.heap.size (tab [])) w.heap.size 137 (tab []) := ((R0.alloc (.cells (tab []) 137)).kept (S := fun k => k ≠ w1.heap.size) ((Kept.refl _ _).setRow (by simp) _) (by have := R0.lt; simp; omega))
  have hB' : Below w.heap.size w ((w1.alloc (.cells (tab []) 137)).setRow w1.heap.size (tab [])) := below_setRow (hB.alloc hlt _) hlt _
  obtain ⟨w2, HW⟩ : ∃ w2, Hid (w2 = (w1.alloc (.cells (tab []) 137)).setRow w1.heap.size (tab [])) := ⟨_, rfl⟩
  rw [← HW.out] at hs1 R0' hB'
  have hs2 := store53 [] R0' (tab_size _)
  have HF : Hid (Below w.heap.size w (w2.setRow w.heap.size (tab []))) := below_setRow hB' (Nat.le_refl _) _
  have HL : Hid ((loadVar 137 ⟨w.heap.size, 0, none⟩).run Tryd.prog (w2.setRow w.heap.size (tab [])) = .ok (.agg (tab [])) (w2.setRow w.heap.size (tab []))) := load53v (R0'.setRow _) (tab_size _)
  clear R0 R1 R0' hB hB' hB1 hI
  go_wp2
  refine bodyPost_ret (v := .tuple #[.agg (tab []), .int .i64 1]) ?_ rfl ⟨rfl, HF.out⟩
  rw [results_cell_tmp rfl]
  have hl := HL.out
  simp [asAddr, Result.andThen, hl]

set_option maxRecDepth 100000 in
set_option maxHeartbeats 2000000 in
theorem check_code (S : Nat → Prop) (a : Option Addr) (cap : Nat) (zs : List Int) (w : World) (hS : ∀ k, S k → k < w.heap.size) (hI : IntsIn S w (.slice a zs.length cap) zs) (h : okLen zs) (hr : rightB zs = false) :
    Calls Tryd.prog 87 #[.slice a zs.length cap] w fun e w' => e = .returned (.tuple #[.agg (tab []), .int .i64 11]) ∧ Below w.heap.size w w' := by
  have hz := (zero_of_info Tryd.info53).1
  have hcnt := count_any S a cap zs (w.alloc (.cells (tab []) 137)) (fun k hk => by have := hS k hk; simp; omega) (hI.kept (((Kept.refl _ w).alloc hS _)))
  rw [if_pos h] at hcnt
  go_enter Tryd.func87, Tryd.ntmps87
  go_wp2_with fail
  refine hcnt.mono ?_
  rintro e w1 ⟨rfl, hB1⟩
  clear hcnt
  have R0 : Row w1 w.heap.size 137 (tab []) := (Row.new w 137 (tab [])).below hB1 (by simp)
  have hB : Below w.heap.size w w1 := ((Below.refl _ w).alloc (Nat.le_refl _) _).trans (hB1.mono (by simp))
  have R1 := Row.new w1 137 (tab [])
  have hs1 := store53 zs R1 (tab_size _)
  have hlt := hB.size
  have R0' : Row ((w1.alloc (.cells (tab []) 137)).setRow w1.heap.size (tab zs)) w.heap.size 137 (tab []) := ((R0.alloc (.cells (tab []) 137)).kept (S := fun k => k ≠ w1.heap.size) ((Kept.refl _ _).setRow (by simp) _) (by have := R0.lt; simp; omega))
  have R1' := R1.setRow (tab zs)
  have hB' : Below w.heap.size w ((w1.alloc (.cells (tab []) 137)).setRow w1.heap.size (tab zs)) := below_setRow (hB.alloc hlt _) hlt _
  have hsz : w1.heap.size < ((w1.alloc (.cells (tab []) 137)).setRow w1.heap.size (tab zs)).heap.size := R1'.lt
  obtain ⟨w2, HW⟩ : ∃ w2, Hid (w2 = (w1.alloc (.cells (tab []) 137)).setRow w1.heap.size (tab zs)) := ⟨_, rfl⟩
  rw [← HW.out] at hs1 R0' hB' R1' hsz
  obtain ⟨c0, c1, c2, c3, c4, c5, c6, c7, c8, c9, c10, c11, c12, c13, c14⟩ := R1'.tab
  have hfold := tab_fold zs
  have hrt := right_any zs h.1 w2
  rw [hr] at hrt
  have HB1 : Hid (w1.heap.size < w2.heap.size) := hsz
  have HB0 : Hid (w.heap.size ≤ w1.heap.size) := hlt
  clear R0 R1 hB hB1 hI hsz hlt HW
  go_wp2_with fail
  refine hrt.mono ?_
  rintro e w3 ⟨rfl, hB3⟩
  clear c0 c1 c2 c3 c4 c5 c6 c7 c8 c9 c10 c11 c12 c13 c14 hrt
  have R0' := R0'.below hB3 R0'.lt
  have R1' := R1'.below hB3 R1'.lt
  have hB' : Below w.heap.size w w3 := hB'.trans (hB3.mono hB'.size)
  obtain ⟨c0, c1, c2, c3, c4, c5, c6, c7, c8, c9, c10, c11, c12, c13, c14⟩ := R1'.tab
  have hs2 := store53 ([]) R0' (tab_size _)
  have HF : Hid (Below w.heap.size w (w3.setRow w.heap.size (tab ([])))) := below_setRow hB' (Nat.le_refl _) _
  have HL : Hid ((loadVar 137 ⟨w.heap.size, 0, none⟩).run Tryd.prog (w3.setRow w.heap.size (tab ([]))) = .ok (.agg (tab ([]))) (w3.setRow w.heap.size (tab ([])))) := load53v (R0'.setRow _) (tab_size _)
  clear R0' R1' hB' hB3 hs1
  go_wp2
  refine bodyPost_ret (v := .tuple #[.agg (tab ([])), .int .i64 11]) ?_ rfl ⟨rfl, HF.out⟩
  rw [results_cell_tmp rfl]
  have hl := HL.out
  simp [asAddr, Result.andThen, hl]

set_option maxRecDepth 100000 in
set_option maxHeartbeats 2000000 in
theorem check_ok (S : Nat → Prop) (a : Option Addr) (cap : Nat) (zs : List Int) (w : World) (hS : ∀ k, S k → k < w.heap.size) (hI : IntsIn S w (.slice a zs.length cap) zs) (h : okLen zs) (hr : rightB zs = true) :
    Calls Tryd.prog 87 #[.slice a zs.length cap] w fun e w' => e = .returned (.tuple #[.agg (tab zs), .int .i64 0]) ∧ Below w.heap.size w w' := by
  have hz := (zero_of_info Tryd.info53).1
  have hcnt := count_any S a cap zs (w.alloc (.cells (tab []) 137)) (fun k hk => by have := hS k hk; simp; omega) (hI.kept (((Kept.refl _ w).alloc hS _)))
  rw [if_pos h] at hcnt
  go_enter Tryd.func87, Tryd.ntmps87
  go_wp2_with fail
  refine hcnt.mono ?_
  rintro e w1 ⟨rfl, hB1⟩
  clear hcnt
  have R0 : Row w1 w.heap.size 137 (tab []) := (Row.new w 137 (tab [])).below hB1 (by simp)
  have hB : Below w.heap.size w w1 := ((Below.refl _ w).alloc (Nat.le_refl _) _).trans (hB1.mono (by simp))
  have R1 := Row.new w1 137 (tab [])
  have hs1 := store53 zs R1 (tab_size _)
  have hlt := hB.size
  have R0' : Row ((w1.alloc (.cells (tab []) 137)).setRow w1.heap.size (tab zs)) w.heap.size 137 (tab []) := ((R0.alloc (.cells (tab []) 137)).kept (S := fun k => k ≠ w1.heap.size) ((Kept.refl _ _).setRow (by simp) _) (by have := R0.lt; simp; omega))
  have R1' := R1.setRow (tab zs)
  have hB' : Below w.heap.size w ((w1.alloc (.cells (tab []) 137)).setRow w1.heap.size (tab zs)) := below_setRow (hB.alloc hlt _) hlt _
  have hsz : w1.heap.size < ((w1.alloc (.cells (tab []) 137)).setRow w1.heap.size (tab zs)).heap.size := R1'.lt
  obtain ⟨w2, HW⟩ : ∃ w2, Hid (w2 = (w1.alloc (.cells (tab []) 137)).setRow w1.heap.size (tab zs)) := ⟨_, rfl⟩
  rw [← HW.out] at hs1 R0' hB' R1' hsz
  obtain ⟨c0, c1, c2, c3, c4, c5, c6, c7, c8, c9, c10, c11, c12, c13, c14⟩ := R1'.tab
  have hfold := tab_fold zs
  have hrt := right_any zs h.1 w2
  rw [hr] at hrt
  have HB1 : Hid (w1.heap.size < w2.heap.size) := hsz
  have HB0 : Hid (w.heap.size ≤ w1.heap.size) := hlt
  clear R0 R1 hB hB1 hI hsz hlt HW
  go_wp2_with fail
  refine hrt.mono ?_
  rintro e w3 ⟨rfl, hB3⟩
  clear c0 c1 c2 c3 c4 c5 c6 c7 c8 c9 c10 c11 c12 c13 c14 hrt
  have R0' := R0'.below hB3 R0'.lt
  have R1' := R1'.below hB3 R1'.lt
  have hB' : Below w.heap.size w w3 := hB'.trans (hB3.mono hB'.size)
  obtain ⟨c0, c1, c2, c3, c4, c5, c6, c7, c8, c9, c10, c11, c12, c13, c14⟩ := R1'.tab
  have hs2 := store53 (zs) R0' (tab_size _)
  have HF : Hid (Below w.heap.size w (w3.setRow w.heap.size (tab (zs)))) := below_setRow hB' (Nat.le_refl _) _
  have HL : Hid ((loadVar 137 ⟨w.heap.size, 0, none⟩).run Tryd.prog (w3.setRow w.heap.size (tab (zs))) = .ok (.agg (tab (zs))) (w3.setRow w.heap.size (tab (zs)))) := load53v (R0'.setRow _) (tab_size _)
  clear R0' R1' hB' hB3 hs1
  go_wp2
  refine bodyPost_ret (v := .tuple #[.agg (tab (zs)), .int .i64 0]) ?_ rfl ⟨rfl, HF.out⟩
  rw [results_cell_tmp rfl]
  have hl := HL.out
  simp [asAddr, Result.andThen, hl]

theorem check_any (S : Nat → Prop) (a : Option Addr) (cap : Nat) (zs : List Int) (w : World) (hS : ∀ k, S k → k < w.heap.size) (hI : IntsIn S w (.slice a zs.length cap) zs) :
    Calls Tryd.prog 87 #[.slice a zs.length cap] w fun e w' => e = .returned (.tuple #[.agg (tabOf zs), .int .i64 (errOf zs)]) ∧ Below w.heap.size w w' := by
  by_cases h : okLen zs
  · cases hr : rightB zs
    · have e : errOf zs = 11 := by rw [errOf, if_pos h, hr]; rfl
      rw [tabOf, e]
      exact check_code S a cap zs w hS hI h hr
    · have e : errOf zs = 0 := by rw [errOf, if_pos h, hr]; rfl
      rw [tabOf, e]
      exact check_ok S a cap zs w hS hI h hr
  · have e : errOf zs = 1 := by rw [errOf, if_neg h]
    rw [tabOf, e]
    exact check_arg S a cap zs w hS hI h
end Go.Proofs.YtinbilbgipfemaaDoor
/- Cost: the program's and the document's are one function. -/
namespace Go.Proofs.YtinbilbgipfemaaDoor
open Go.RowKit

def big (v m : Int) : Bool := decide (m < v) || decide (v < -m)
def stepC (s f n : Int) : Option Int := if f = 0 ∨ n = 0 then some s else if big f 1099511627776 || big n 1048576 then none else if big (s + f * n) 2305843009213693952 then none else some (s + f * n)
def costN (fs ls : List Int) : Nat → Option Int
  | 0 => some 0
  | k + 1 => (costN fs ls k).bind fun s => stepC s (fs[k]?.getD 0) (ls[k]?.getD 0)
def costR (fs ls : List Int) : Int := (costN fs ls (min fs.length ls.length)).getD 4611686018427387904
theorem costN_none (fs ls : List Int) (k N : Nat) (h : k ≤ N) (e : costN fs ls k = none) : costN fs ls N = none := by
  induction h with
  | refl => exact e
  | step _ ih => rw [costN, ih]; rfl
theorem mul_bd (f n : Int) (hf : big f 1099511627776 = false) (hn : big n 1048576 = false) : -1152921504606846976 ≤ f * n ∧ f * n ≤ 1152921504606846976 := by
  simp [big] at hf hn
  have h1 : f.natAbs ≤ 1099511627776 := by omega
  have h2 : n.natAbs ≤ 1048576 := by omega
  have h3 : (f * n).natAbs ≤ 1099511627776 * 1048576 := by rw [Int.natAbs_mul]; exact Nat.mul_le_mul h1 h2
  omega

set_option maxHeartbeats 1000000 in
theorem beyond_any (v m : Int) (h0 : 0 ≤ m) (h1 : m ≤ 4611686018427387904) (w : World) : Calls Tryd.prog 79 #[.int .i64 v, .int .i64 m] w fun e w' => e = .returned (.bool (big v m)) ∧ w' = w := by
  have hb : big v m = (decide (m < v) || decide (v < -m)) := rfl
  have HB : Hid _ := hb
  clear hb
  by_cases h2 : m < v
  · have e : big v m = true := by rw [HB.out]; simp [h2]
    rw [e]
    go_enter Tryd.func79, Tryd.ntmps79
    go_wp2
    go_ret
    exact ⟨rfl, rfl⟩
  · by_cases h3 : v < -m
    · have e : big v m = true := by rw [HB.out]; simp [h3]
      rw [e]
      go_enter Tryd.func79, Tryd.ntmps79
      go_wp2
      go_ret
      exact ⟨rfl, rfl⟩
    · have e : big v m = false := by rw [HB.out]; simp [h2, h3]
      rw [e]
      go_enter Tryd.func79, Tryd.ntmps79
      go_wp2
      go_ret
      exact ⟨rfl, rfl⟩

set_option maxRecDepth 100000 in
set_option maxHeartbeats 4000000 in
theorem cost_any (S : Nat → Prop) (a b : Option Addr) (ca cb : Nat) (fs ls : List Int) (w : World) (hF : IntsIn S w (.slice a fs.length ca) fs) (hL : IntsIn S w (.slice b ls.length cb) ls) (hlf : fs.length ≤ 140737488355328) (hll : ls.length ≤ 140737488355328) (r : Int) (HR : Hid (r = costR fs ls)) :
    Calls Tryd.prog 69 #[.slice a fs.length ca, .slice b ls.length cb] w fun e w' => e = .returned (.int .i64 r) ∧ ∃ q, w' = w.drewN q := by
  rcases Nat.lt_trichotomy fs.length ls.length with hle | hle | hle
  · have h1 : (fs.length : Int) < ls.length := by omega
    have hmin : min fs.length ls.length = fs.length := by omega
    go_enter Tryd.func69, Tryd.ntmps69
    go_wp2
    go_loopw [5, 14] (fun v5 v14 wr => ∃ (k : Nat) (s : Int) (q : Nat), k ≤ fs.length ∧ v14 = .int .i64 k ∧ v5 = .int .i64 s ∧ costN fs ls k = some s ∧ (-2305843009213693952 ≤ s ∧ s ≤ 2305843009213693952) ∧ wr = w.drewN q)
      (fun _ v14 _ => fs.length - (intOf v14).toNat)
    case atStart => exact ⟨0, 0, 0, Nat.zero_le _, rfl, rfl, rfl, by omega, rfl⟩
    case round =>
      obtain ⟨k, s, q, hk, rfl, rfl, hcs, hsb, hwr⟩ := hrel
      by_cases hlt : k < fs.length
      · obtain ⟨bf, of, rfl, _, ef⟩ := hF.at k (by omega)
        obtain ⟨bl, ol, rfl, _, el⟩ := hL.at k (by omega)
        have cf : wr.cell? ⟨bf, of + k, none⟩ = some (.int .i64 (fs[k]?.getD 0)) := by rw [hwr]; exact ef
        have cl : wr.cell? ⟨bl, ol + k, none⟩ = some (.int .i64 (ls[k]?.getD 0)) := by rw [hwr]; exact el
        have HST : Hid (costN fs ls (k + 1) = stepC s (fs[k]?.getD 0) (ls[k]?.getD 0)) := by
          show _ = _
          rw [costN, hcs]
          rfl
        have HWR : Hid _ := hwr
        have k1 : (k : Int) < fs.length := by omega
        have k2 : (k : Int) < ls.length := by omega
        clear ef el hwr hF hL hcs
        generalize fs[k]?.getD 0 = f at cf HST
        generalize ls[k]?.getD 0 = n at cl HST
        have HEND : Hid (costN fs ls (k + 1) = none → r = 4611686018427387904) := fun h => by
          rw [show r = _ from HR.out, costR, hmin, costN_none fs ls (k + 1) fs.length hlt h]
          rfl
        clear HR hmin
        by_cases hf0 : f = 0
        · have t1 : (f == 0) = true := by simpa using hf0
          have HE : Hid (costN fs ls (k + 1) = some s) := by show _ = _; rw [HST.out, stepC, if_pos (.inl hf0)]
          clear HST HEND hf0
          go_wp2
          go_quiet (fail)
          go_wp2
          exact ⟨⟨k + 1, s, q + nq, by omega, by simp, rfl, HE.out, hsb, by rw [show wr = _ from HWR.out, World.drewN_drewN]⟩, by simp [intOf]; omega⟩
        · have t1 : (f == 0) = false := by simpa using hf0
          by_cases hn0 : n = 0
          · have t2 : (n == 0) = true := by simpa using hn0
            have HE : Hid (costN fs ls (k + 1) = some s) := by show _ = _; rw [HST.out, stepC, if_pos (.inr hn0)]
            clear HST HEND hf0 hn0
            go_wp2
            go_quiet (fail)
            go_wp2
            exact ⟨⟨k + 1, s, q + nq, by omega, by simp, rfl, HE.out, hsb, by rw [show wr = _ from HWR.out, World.drewN_drewN]⟩, by simp [intOf]; omega⟩
          · have t2 : (n == 0) = false := by simpa using hn0
            cases hbf : big f 1099511627776 with
            | true =>
              have HE : Hid (r = 4611686018427387904) := HEND.out (by rw [HST.out, stepC, if_neg (by simp [hf0, hn0]), hbf]; rfl)
              clear HST HEND hf0 hn0
              go_wp2
              go_quiet (fail)
              go_wp2_with (go_at_call 79; refine (beyond_any _ _ (by omega) (by omega) _).mono ?_; rintro e w' ⟨rfl, rfl⟩)
              go_ret
              exact ⟨by rw [HE.out]; rfl, q + nq, by rw [show wr = _ from HWR.out, World.drewN_drewN]⟩
            | false =>
              cases hbn : big n 1048576 with
              | true =>
                have HE : Hid (r = 4611686018427387904) := HEND.out (by rw [HST.out, stepC, if_neg (by simp [hf0, hn0]), hbf, hbn]; rfl)
                clear HST HEND hf0 hn0
                go_wp2
                go_quiet (fail)
                go_wp2_with (go_at_call 79; refine (beyond_any _ _ (by omega) (by omega) _).mono ?_; rintro e w' ⟨rfl, rfl⟩)
                go_ret
                exact ⟨by rw [HE.out]; rfl, q + nq, by rw [show wr = _ from HWR.out, World.drewN_drewN]⟩
              | false =>
                have hmb := mul_bd f n hbf hbn
                have hst2 : stepC s f n = if big (s + f * n) 2305843009213693952 then none else some (s + f * n) := by rw [stepC, if_neg (by simp [hf0, hn0]), hbf, hbn]; rfl
                have hw1 : IntKind.i64.wrap (f * n) = f * n := by rw [IntKind.wrap_i64]; generalize f * n = t at hmb ⊢; omega
                have hw2 : IntKind.i64.wrap (s + f * n) = s + f * n := by rw [IntKind.wrap_i64]; generalize f * n = t at hmb ⊢; omega
                have hw3 : wrap64 (f * n) = f * n := wrap64_id _ (by omega)
                have hw4 : wrap64 (s + f * n) = s + f * n := wrap64_id _ (by omega)
                have HS2 : Hid _ := hst2
                clear hst2 hmb hf0 hn0
                cases hbs : big (s + f * n) 2305843009213693952 with
                | true =>
                  have HE : Hid (r = 4611686018427387904) := HEND.out (by rw [HST.out, HS2.out, hbs]; rfl)
                  clear HST HEND HS2
                  go_wp2
                  go_quiet (fail)
                  go_wp2_with (go_at_call 79; refine (beyond_any _ _ (by omega) (by omega) _).mono ?_; rintro e w' ⟨rfl, rfl⟩)
                  go_ret
                  exact ⟨by rw [HE.out]; rfl, q + nq, by rw [show wr = _ from HWR.out, World.drewN_drewN]⟩
                | false =>
                  have HE : Hid (costN fs ls (k + 1) = some (s + f * n)) := by show _ = _; rw [HST.out, HS2.out, hbs]; rfl
                  have HSB : Hid (-2305843009213693952 ≤ s + f * n ∧ s + f * n ≤ 2305843009213693952) := by
                    have h := hbs
                    show _ ∧ _
                    generalize s + f * n = t at h ⊢
                    simp [big] at h
                    omega
                  clear HST HEND HS2
                  go_wp2
                  go_quiet (fail)
                  go_wp2_with (go_at_call 79; refine (beyond_any _ _ (by omega) (by omega) _).mono ?_; rintro e w' ⟨rfl, rfl⟩)
                  exact ⟨⟨k + 1, s + f * n, q + nq, by omega, by simp, rfl, HE.out, HSB.out, by rw [show wr = _ from HWR.out, World.drewN_drewN]⟩, by simp [intOf]; omega⟩
      · obtain rfl : k = fs.length := by omega
        have HE : Hid (r = s) := by
          show _ = _
          rw [show r = _ from HR.out, costR, hmin, hcs]
          rfl
        clear HR hmin hF hL hcs
        go_wp2
        go_ret
        exact ⟨by rw [HE.out]; rfl, q, rfl⟩
  · have hA : ¬ (fs.length : Int) < ls.length := by omega
    have hB : ¬ (ls.length : Int) < fs.length := by omega
    have hmin : min fs.length ls.length = ls.length := by omega
    go_enter Tryd.func69, Tryd.ntmps69
    go_wp2
    go_loopw [5, 14] (fun v5 v14 wr => ∃ (k : Nat) (s : Int) (q : Nat), k ≤ ls.length ∧ v14 = .int .i64 k ∧ v5 = .int .i64 s ∧ costN fs ls k = some s ∧ (-2305843009213693952 ≤ s ∧ s ≤ 2305843009213693952) ∧ wr = w.drewN q)
      (fun _ v14 _ => ls.length - (intOf v14).toNat)
    case atStart => exact ⟨0, 0, 0, Nat.zero_le _, rfl, rfl, rfl, by omega, rfl⟩
    case round =>
      obtain ⟨k, s, q, hk, rfl, rfl, hcs, hsb, hwr⟩ := hrel
      by_cases hlt : k < ls.length
      · obtain ⟨bf, of, rfl, _, ef⟩ := hF.at k (by omega)
        obtain ⟨bl, ol, rfl, _, el⟩ := hL.at k (by omega)
        have cf : wr.cell? ⟨bf, of + k, none⟩ = some (.int .i64 (fs[k]?.getD 0)) := by rw [hwr]; exact ef
        have cl : wr.cell? ⟨bl, ol + k, none⟩ = some (.int .i64 (ls[k]?.getD 0)) := by rw [hwr]; exact el
        have HST : Hid (costN fs ls (k + 1) = stepC s (fs[k]?.getD 0) (ls[k]?.getD 0)) := by
          show _ = _
          rw [costN, hcs]
          rfl
        have HWR : Hid _ := hwr
        have k1 : (k : Int) < fs.length := by omega
        have k2 : (k : Int) < ls.length := by omega
        clear ef el hwr hF hL hcs
        generalize fs[k]?.getD 0 = f at cf HST
        generalize ls[k]?.getD 0 = n at cl HST
        have HEND : Hid (costN fs ls (k + 1) = none → r = 4611686018427387904) := fun h => by
          rw [show r = _ from HR.out, costR, hmin, costN_none fs ls (k + 1) ls.length hlt h]
          rfl
        clear HR hmin
        by_cases hf0 : f = 0
        · have t1 : (f == 0) = true := by simpa using hf0
          have HE : Hid (costN fs ls (k + 1) = some s) := by show _ = _; rw [HST.out, stepC, if_pos (.inl hf0)]
          clear HST HEND hf0
          go_wp2
          go_quiet (fail)
          go_wp2
          exact ⟨⟨k + 1, s, q + nq, by omega, by simp, rfl, HE.out, hsb, by rw [show wr = _ from HWR.out, World.drewN_drewN]⟩, by simp [intOf]; omega⟩
        · have t1 : (f == 0) = false := by simpa using hf0
          by_cases hn0 : n = 0
          · have t2 : (n == 0) = true := by simpa using hn0
            have HE : Hid (costN fs ls (k + 1) = some s) := by show _ = _; rw [HST.out, stepC, if_pos (.inr hn0)]
            clear HST HEND hf0 hn0
            go_wp2
            go_quiet (fail)
            go_wp2
            exact ⟨⟨k + 1, s, q + nq, by omega, by simp, rfl, HE.out, hsb, by rw [show wr = _ from HWR.out, World.drewN_drewN]⟩, by simp [intOf]; omega⟩
          · have t2 : (n == 0) = false := by simpa using hn0
            cases hbf : big f 1099511627776 with
            | true =>
              have HE : Hid (r = 4611686018427387904) := HEND.out (by rw [HST.out, stepC, if_neg (by simp [hf0, hn0]), hbf]; rfl)
              clear HST HEND hf0 hn0
              go_wp2
              go_quiet (fail)
              go_wp2_with (go_at_call 79; refine (beyond_any _ _ (by omega) (by omega) _).mono ?_; rintro e w' ⟨rfl, rfl⟩)
              go_ret
              exact ⟨by rw [HE.out]; rfl, q + nq, by rw [show wr = _ from HWR.out, World.drewN_drewN]⟩
            | false =>
              cases hbn : big n 1048576 with
              | true =>
                have HE : Hid (r = 4611686018427387904) := HEND.out (by rw [HST.out, stepC, if_neg (by simp [hf0, hn0]), hbf, hbn]; rfl)
                clear HST HEND hf0 hn0
                go_wp2
                go_quiet (fail)
                go_wp2_with (go_at_call 79; refine (beyond_any _ _ (by omega) (by omega) _).mono ?_; rintro e w' ⟨rfl, rfl⟩)
                go_ret
                exact ⟨by rw [HE.out]; rfl, q + nq, by rw [show wr = _ from HWR.out, World.drewN_drewN]⟩
              | false =>
                have hmb := mul_bd f n hbf hbn
                have hst2 : stepC s f n = if big (s + f * n) 2305843009213693952 then none else some (s + f * n) := by rw [stepC, if_neg (by simp [hf0, hn0]), hbf, hbn]; rfl
                have hw1 : IntKind.i64.wrap (f * n) = f * n := by rw [IntKind.wrap_i64]; generalize f * n = t at hmb ⊢; omega
                have hw2 : IntKind.i64.wrap (s + f * n) = s + f * n := by rw [IntKind.wrap_i64]; generalize f * n = t at hmb ⊢; omega
                have hw3 : wrap64 (f * n) = f * n := wrap64_id _ (by omega)
                have hw4 : wrap64 (s + f * n) = s + f * n := wrap64_id _ (by omega)
                have HS2 : Hid _ := hst2
                clear hst2 hmb hf0 hn0
                cases hbs : big (s + f * n) 2305843009213693952 with
                | true =>
                  have HE : Hid (r = 4611686018427387904) := HEND.out (by rw [HST.out, HS2.out, hbs]; rfl)
                  clear HST HEND HS2
                  go_wp2
                  go_quiet (fail)
                  go_wp2_with (go_at_call 79; refine (beyond_any _ _ (by omega) (by omega) _).mono ?_; rintro e w' ⟨rfl, rfl⟩)
                  go_ret
                  exact ⟨by rw [HE.out]; rfl, q + nq, by rw [show wr = _ from HWR.out, World.drewN_drewN]⟩
                | false =>
                  have HE : Hid (costN fs ls (k + 1) = some (s + f * n)) := by show _ = _; rw [HST.out, HS2.out, hbs]; rfl
                  have HSB : Hid (-2305843009213693952 ≤ s + f * n ∧ s + f * n ≤ 2305843009213693952) := by
                    have h := hbs
                    show _ ∧ _
                    generalize s + f * n = t at h ⊢
                    simp [big] at h
                    omega
                  clear HST HEND HS2
                  go_wp2
                  go_quiet (fail)
                  go_wp2_with (go_at_call 79; refine (beyond_any _ _ (by omega) (by omega) _).mono ?_; rintro e w' ⟨rfl, rfl⟩)
                  exact ⟨⟨k + 1, s + f * n, q + nq, by omega, by simp, rfl, HE.out, HSB.out, by rw [show wr = _ from HWR.out, World.drewN_drewN]⟩, by simp [intOf]; omega⟩
      · obtain rfl : k = ls.length := by omega
        have HE : Hid (r = s) := by
          show _ = _
          rw [show r = _ from HR.out, costR, hmin, hcs]
          rfl
        clear HR hmin hF hL hcs
        go_wp2
        go_ret
        exact ⟨by rw [HE.out]; rfl, q, rfl⟩
  · have h1 : (ls.length : Int) < fs.length := by omega
    have hmin : min fs.length ls.length = ls.length := by omega
    go_enter Tryd.func69, Tryd.ntmps69
    go_wp2
    go_loopw [5, 14] (fun v5 v14 wr => ∃ (k : Nat) (s : Int) (q : Nat), k ≤ ls.length ∧ v14 = .int .i64 k ∧ v5 = .int .i64 s ∧ costN fs ls k = some s ∧ (-2305843009213693952 ≤ s ∧ s ≤ 2305843009213693952) ∧ wr = w.drewN q)
      (fun _ v14 _ => ls.length - (intOf v14).toNat)
    case atStart => exact ⟨0, 0, 0, Nat.zero_le _, rfl, rfl, rfl, by omega, rfl⟩
    case round =>
      obtain ⟨k, s, q, hk, rfl, rfl, hcs, hsb, hwr⟩ := hrel
      by_cases hlt : k < ls.length
      · obtain ⟨bf, of, rfl, _, ef⟩ := hF.at k (by omega)
        obtain ⟨bl, ol, rfl, _, el⟩ := hL.at k (by omega)
        have cf : wr.cell? ⟨bf, of + k, none⟩ = some (.int .i64 (fs[k]?.getD 0)) := by rw [hwr]; exact ef
        have cl : wr.cell? ⟨bl, ol + k, none⟩ = some (.int .i64 (ls[k]?.getD 0)) := by rw [hwr]; exact el
        have HST : Hid (costN fs ls (k + 1) = stepC s (fs[k]?.getD 0) (ls[k]?.getD 0)) := by
          show _ = _
          rw [costN, hcs]
          rfl
        have HWR : Hid _ := hwr
        have k1 : (k : Int) < fs.length := by omega
        have k2 : (k : Int) < ls.length := by omega
        clear ef el hwr hF hL hcs
        generalize fs[k]?.getD 0 = f at cf HST
        generalize ls[k]?.getD 0 = n at cl HST
        have HEND : Hid (costN fs ls (k + 1) = none → r = 4611686018427387904) := fun h => by
          rw [show r = _ from HR.out, costR, hmin, costN_none fs ls (k + 1) ls.length hlt h]
          rfl
        clear HR hmin
        by_cases hf0 : f = 0
        · have t1 : (f == 0) = true := by simpa using hf0
          have HE : Hid (costN fs ls (k + 1) = some s) := by show _ = _; rw [HST.out, stepC, if_pos (.inl hf0)]
          clear HST HEND hf0
          go_wp2
          go_quiet (fail)
          go_wp2
          exact ⟨⟨k + 1, s, q + nq, by omega, by simp, rfl, HE.out, hsb, by rw [show wr = _ from HWR.out, World.drewN_drewN]⟩, by simp [intOf]; omega⟩
        · have t1 : (f == 0) = false := by simpa using hf0
          by_cases hn0 : n = 0
          · have t2 : (n == 0) = true := by simpa using hn0
            have HE : Hid (costN fs ls (k + 1) = some s) := by show _ = _; rw [HST.out, stepC, if_pos (.inr hn0)]
            clear HST HEND hf0 hn0
            go_wp2
            go_quiet (fail)
            go_wp2
            exact ⟨⟨k + 1, s, q + nq, by omega, by simp, rfl, HE.out, hsb, by rw [show wr = _ from HWR.out, World.drewN_drewN]⟩, by simp [intOf]; omega⟩
          · have t2 : (n == 0) = false := by simpa using hn0
            cases hbf : big f 1099511627776 with
            | true =>
              have HE : Hid (r = 4611686018427387904) := HEND.out (by rw [HST.out, stepC, if_neg (by simp [hf0, hn0]), hbf]; rfl)
              clear HST HEND hf0 hn0
              go_wp2
              go_quiet (fail)
              go_wp2_with (go_at_call 79; refine (beyond_any _ _ (by omega) (by omega) _).mono ?_; rintro e w' ⟨rfl, rfl⟩)
              go_ret
              exact ⟨by rw [HE.out]; rfl, q + nq, by rw [show wr = _ from HWR.out, World.drewN_drewN]⟩
            | false =>
              cases hbn : big n 1048576 with
              | true =>
                have HE : Hid (r = 4611686018427387904) := HEND.out (by rw [HST.out, stepC, if_neg (by simp [hf0, hn0]), hbf, hbn]; rfl)
                clear HST HEND hf0 hn0
                go_wp2
                go_quiet (fail)
                go_wp2_with (go_at_call 79; refine (beyond_any _ _ (by omega) (by omega) _).mono ?_; rintro e w' ⟨rfl, rfl⟩)
                go_ret
                exact ⟨by rw [HE.out]; rfl, q + nq, by rw [show wr = _ from HWR.out, World.drewN_drewN]⟩
              | false =>
                have hmb := mul_bd f n hbf hbn
                have hst2 : stepC s f n = if big (s + f * n) 2305843009213693952 then none else some (s + f * n) := by rw [stepC, if_neg (by simp [hf0, hn0]), hbf, hbn]; rfl
                have hw1 : IntKind.i64.wrap (f * n) = f * n := by rw [IntKind.wrap_i64]; generalize f * n = t at hmb ⊢; omega
                have hw2 : IntKind.i64.wrap (s + f * n) = s + f * n := by rw [IntKind.wrap_i64]; generalize f * n = t at hmb ⊢; omega
                have hw3 : wrap64 (f * n) = f * n := wrap64_id _ (by omega)
                have hw4 : wrap64 (s + f * n) = s + f * n := wrap64_id _ (by omega)
                have HS2 : Hid _ := hst2
                clear hst2 hmb hf0 hn0
                cases hbs : big (s + f * n) 2305843009213693952 with
                | true =>
                  have HE : Hid (r = 4611686018427387904) := HEND.out (by rw [HST.out, HS2.out, hbs]; rfl)
                  clear HST HEND HS2
                  go_wp2
                  go_quiet (fail)
                  go_wp2_with (go_at_call 79; refine (beyond_any _ _ (by omega) (by omega) _).mono ?_; rintro e w' ⟨rfl, rfl⟩)
                  go_ret
                  exact ⟨by rw [HE.out]; rfl, q + nq, by rw [show wr = _ from HWR.out, World.drewN_drewN]⟩
                | false =>
                  have HE : Hid (costN fs ls (k + 1) = some (s + f * n)) := by show _ = _; rw [HST.out, HS2.out, hbs]; rfl
                  have HSB : Hid (-2305843009213693952 ≤ s + f * n ∧ s + f * n ≤ 2305843009213693952) := by
                    have h := hbs
                    show _ ∧ _
                    generalize s + f * n = t at h ⊢
                    simp [big] at h
                    omega
                  clear HST HEND HS2
                  go_wp2
                  go_quiet (fail)
                  go_wp2_with (go_at_call 79; refine (beyond_any _ _ (by omega) (by omega) _).mono ?_; rintro e w' ⟨rfl, rfl⟩)
                  exact ⟨⟨k + 1, s + f * n, q + nq, by omega, by simp, rfl, HE.out, HSB.out, by rw [show wr = _ from HWR.out, World.drewN_drewN]⟩, by simp [intOf]; omega⟩
      · obtain rfl : k = ls.length := by omega
        have HE : Hid (r = s) := by
          show _ = _
          rw [show r = _ from HR.out, costR, hmin, hcs]
          rfl
        clear HR hmin hF hL hcs
        go_wp2
        go_ret
        exact ⟨by rw [HE.out]; rfl, q, rfl⟩
end Go.Proofs.YtinbilbgipfemaaDoor
/- The comparison that Lengths sorts by: two symbols by how often they come. -/
namespace Go.Proofs.YtinbilbgipfemaaDoor
open Go.RowKit

def cmpZ (x y : Int) : Int := if x < y then -1 else if y < x then 1 else 0

set_option maxHeartbeats 1000000 in
theorem isNaN_any (x : Int) (w : World) : Calls Tryd.prog 61 #[.int .i64 x] w fun e w' => e = .returned (.bool false) ∧ w' = w := by
  go_enter Tryd.func61, Tryd.ntmps61
  have ht : (x != x) = false := by simp
  go_wp2
  go_ret
  exact ⟨rfl, rfl⟩

set_option maxHeartbeats 1000000 in
theorem compare_r (r x y : Int) (hr : Hid (r = cmpZ x y)) (w : World) : Calls Tryd.prog 40 #[.int .i64 x, .int .i64 y] w fun e w' => e = .returned (.int .i64 r) ∧ w' = w := by
  by_cases h1 : x < y
  · obtain rfl : r = -1 := by rw [show r = _ from hr.out, cmpZ, if_pos h1]
    go_enter Tryd.func40, Tryd.ntmps40
    go_wp2_with (go_at_call 61; refine (isNaN_any _ _).mono ?_; rintro e w' ⟨rfl, rfl⟩)
    go_ret
    exact ⟨rfl, rfl⟩
  · by_cases h2 : y < x
    · obtain rfl : r = 1 := by rw [show r = _ from hr.out, cmpZ, if_neg h1, if_pos h2]
      go_enter Tryd.func40, Tryd.ntmps40
      go_wp2_with (go_at_call 61; refine (isNaN_any _ _).mono ?_; rintro e w' ⟨rfl, rfl⟩)
      go_ret
      exact ⟨rfl, rfl⟩
    · obtain rfl : r = 0 := by rw [show r = _ from hr.out, cmpZ, if_neg h1, if_neg h2]
      go_enter Tryd.func40, Tryd.ntmps40
      go_wp2_with (go_at_call 61; refine (isNaN_any _ _).mono ?_; rintro e w' ⟨rfl, rfl⟩)
      go_ret
      exact ⟨rfl, rfl⟩
theorem compare_any (x y : Int) (w : World) : Calls Tryd.prog 40 #[.int .i64 x, .int .i64 y] w fun e w' => e = .returned (.int .i64 (cmpZ x y)) ∧ ∃ q, w' = w.drewN q :=
  (compare_r _ x y rfl w).mono fun _ _ h => ⟨h.1, 0, h.2⟩

set_option maxRecDepth 100000 in
set_option maxHeartbeats 1000000 in
theorem less_any (S : Nat → Prop) (B : Nat) (a : Option Addr) (cap : Nat) (fs : List Int) (x y : Nat) (W : World) (hx : x < fs.length) (hy : y < fs.length) (hc : W.cell? ⟨B, 0, none⟩ = some (.slice a fs.length cap)) (hF : IntsIn S W (.slice a fs.length cap) fs) :
    Calls Tryd.prog 84 #[.int .i64 (x : Int), .int .i64 (y : Int), .pointer (some ⟨B, 0, none⟩)] W fun e w' => e = .returned (.int .i64 (cmpZ (fs[x]?.getD 0) (fs[y]?.getD 0))) ∧ ∃ q, w' = W.drewN q := by
  obtain ⟨bf, of, rfl, hbf, c0⟩ := hF.at x hx
  obtain ⟨bf', of', he, _, c1⟩ := hF.at y hy
  simp only [Option.some.injEq, Addr.mk.injEq] at he
  obtain ⟨rfl, rfl, _⟩ := he
  generalize fs[x]?.getD 0 = p at c0
  generalize fs[y]?.getD 0 = q at c1
  have hcmp := fun (n : Nat) => compare_any p q (W.drewN n)
  generalize cmpZ p q = r at hcmp
  go_enter Tryd.func84, Tryd.ntmps84
  go_wp2
  go_quiet (first | (go_at_call 40; refine Calls.quiet_of (hcmp _)))
  go_wp2
  go_ret
  exact ⟨rfl, _, rfl⟩
end Go.Proofs.YtinbilbgipfemaaDoor
/- Lists that are sorted in place, by swaps: a range is swapped, a stretch is turned round, two sorted stretches are merged (pure). -/
namespace Go.Proofs.YtinbilbgipfemaaDoor

def gt (l : List Int) (i : Nat) : Int := l[i]?.getD 0
def sw (l : List Int) (i j : Nat) : List Int := (l.set i (gt l j)).set j (gt l i)
theorem sw_len (l : List Int) (i j : Nat) : (sw l i j).length = l.length := by simp [sw]
theorem gt_sw {l : List Int} {i j : Nat} (hi : i < l.length) (hj : j < l.length) (k : Nat) : gt (sw l i j) k = if k = j then gt l i else if k = i then gt l j else gt l k := by
  unfold sw gt
  rw [List.getElem?_set, List.getElem?_set]
  by_cases h1 : k = j
  · subst h1
    simp [hj]
  · rw [if_neg (Ne.symm h1), if_neg h1]
    by_cases h2 : k = i
    · subst h2
      simp [hi]
    · rw [if_neg (Ne.symm h2), if_neg h2]
theorem sw_perm {l : List Int} {i j : Nat} (hi : i < l.length) (hj : j < l.length) : (sw l i j).Perm l := by
  have h := List.set_set_perm (i := i) (j := j) hi hj
  have e1 : gt l j = l[j] := by simp [gt, hj]
  have e2 : gt l i = l[i] := by simp [gt, hi]
  rw [sw, e1, e2]
  exact h

/-- Only [a, b) has changed, and what is there was there. -/
structure Seg (a b : Nat) (l l' : List Int) : Prop where
  perm : l'.Perm l
  out : ∀ k, (k < a ∨ b ≤ k) → gt l' k = gt l k
  mem : ∀ k, a ≤ k → k < b → ∃ j, a ≤ j ∧ j < b ∧ gt l' k = gt l j
theorem Seg.refl (a b : Nat) (l : List Int) : Seg a b l l := ⟨List.Perm.refl _, fun _ _ => rfl, fun k h1 h2 => ⟨k, h1, h2, rfl⟩⟩
theorem Seg.trans {a b : Nat} {l l' l'' : List Int} (h : Seg a b l l') (h' : Seg a b l' l'') : Seg a b l l'' := by
  refine ⟨h'.perm.trans h.perm, fun k hk => (h'.out k hk).trans (h.out k hk), fun k h1 h2 => ?_⟩
  obtain ⟨j, j1, j2, e⟩ := h'.mem k h1 h2
  obtain ⟨i, i1, i2, e'⟩ := h.mem j j1 j2
  exact ⟨i, i1, i2, e.trans e'⟩
theorem Seg.mono {a b a' b' : Nat} {l l' : List Int} (h : Seg a b l l') (ha : a' ≤ a) (hb : b ≤ b') : Seg a' b' l l' := by
  refine ⟨h.perm, fun k hk => h.out k (by omega), fun k h1 h2 => ?_⟩
  by_cases hk : a ≤ k ∧ k < b
  · obtain ⟨j, j1, j2, e⟩ := h.mem k hk.1 hk.2
    exact ⟨j, by omega, by omega, e⟩
  · exact ⟨k, h1, h2, h.out k (by omega)⟩
theorem Seg.len {a b : Nat} {l l' : List Int} (h : Seg a b l l') : l'.length = l.length := h.perm.length_eq

/-- n places from a on and from b on are swapped. -/
def swR (l : List Int) (a b : Nat) : Nat → List Int
  | 0 => l
  | n + 1 => sw (swR l a b n) (a + n) (b + n)
theorem swR_len (l : List Int) (a b n : Nat) : (swR l a b n).length = l.length := by
  induction n with
  | zero => rfl
  | succ n ih => rw [swR, sw_len, ih]
theorem swR_perm {l : List Int} {a b n : Nat} (h1 : a + n ≤ b) (h2 : b + n ≤ l.length) : (swR l a b n).Perm l := by
  induction n with
  | zero => exact List.Perm.refl _
  | succ n ih => exact (sw_perm (by rw [swR_len]; omega) (by rw [swR_len]; omega)).trans (ih (by omega) (by omega))
theorem gt_swR {l : List Int} {a b n : Nat} (h1 : a + n ≤ b) (h2 : b + n ≤ l.length) (k : Nat) :
    gt (swR l a b n) k = if a ≤ k ∧ k < a + n then gt l (k - a + b) else if b ≤ k ∧ k < b + n then gt l (k - b + a) else gt l k := by
  induction n generalizing k with
  | zero => rw [if_neg (by omega), if_neg (by omega)]; rfl
  | succ n ih =>
    have ih := ih (by omega) (by omega)
    rw [swR, gt_sw (by rw [swR_len]; omega) (by rw [swR_len]; omega)]
    simp only [ih]
    repeat' split
    all_goals first | rfl | (exfalso; omega) | (congr 1; omega)

/-- [a, m) and [m, b) have changed places. -/
structure Rot (a m b : Nat) (l l' : List Int) : Prop where
  perm : l'.Perm l
  at_ : ∀ k, gt l' k = if a ≤ k ∧ k < b then (if k < a + (b - m) then gt l (k + (m - a)) else gt l (k - (b - m))) else gt l k
theorem Rot.same {a m b : Nat} (l : List Int) (h : a = m ∨ b = m) (h1 : a ≤ m) (h2 : m ≤ b) : Rot a m b l l := by
  refine ⟨List.Perm.refl _, fun k => ?_⟩
  split
  · split
    · congr 1; omega
    · congr 1; omega
  · rfl
theorem Rot.seg {a m b : Nat} {l l' : List Int} (h : Rot a m b l l') (h1 : a ≤ m) (h2 : m ≤ b) : Seg a b l l' := by
  refine ⟨h.perm, fun k hk => by rw [h.at_, if_neg (by omega)], fun k k1 k2 => ?_⟩
  rw [h.at_, if_pos ⟨k1, k2⟩]
  split
  · exact ⟨k + (m - a), by omega, by omega, rfl⟩
  · exact ⟨k - (b - m), by omega, by omega, rfl⟩
/-- What is left to turn round: the i places ahead of m and the j behind. -/
structure RotSt (a m b i j : Nat) (l0 l : List Int) : Prop where
  perm : l.Perm l0
  out : ∀ k, (k < a ∨ b ≤ k) → gt l k = gt l0 k
  done : ∀ k, a ≤ k → k < b → (k < m - i ∨ m + j ≤ k) → gt l k = if k < a + (b - m) then gt l0 (k + (m - a)) else gt l0 (k - (b - m))
  lo : ∀ k, m - i ≤ k → k < m - i + j → gt l (k + i) = if k < a + (b - m) then gt l0 (k + (m - a)) else gt l0 (k - (b - m))
  hi : ∀ k, m - i + j ≤ k → k < m + j → gt l (k - j) = if k < a + (b - m) then gt l0 (k + (m - a)) else gt l0 (k - (b - m))
theorem RotSt.start {a m b : Nat} (l : List Int) (h1 : a ≤ m) (h2 : m ≤ b) : RotSt a m b (m - a) (b - m) l l := by
  refine ⟨List.Perm.refl _, fun _ _ => rfl, fun k k1 k2 k3 => by omega, fun k k1 k2 => ?_, fun k k1 k2 => ?_⟩
  · rw [if_pos (by omega)]
  · rw [if_neg (by omega)]
theorem RotSt.left {a m b i j : Nat} {l0 l : List Int} (h : RotSt a m b i j l0 l) (hi : i ≤ m - a) (hj : j ≤ b - m) (ha : a ≤ m) (hb : m ≤ b) (hl : b ≤ l.length) (hij : j < i) :
    RotSt a m b (i - j) j l0 (swR l (m - i) m j) := by
  have hg := gt_swR (l := l) (a := m - i) (b := m) (n := j) (by omega) (by omega)
  refine ⟨(swR_perm (by omega) (by omega)).trans h.perm, fun k hk => ?_, fun k k1 k2 k3 => ?_, fun k k1 k2 => ?_, fun k k1 k2 => ?_⟩
  · rw [hg, if_neg (by omega), if_neg (by omega)]
    exact h.out k hk
  · rw [hg]
    by_cases c : m - i ≤ k ∧ k < m - i + j
    · rw [if_pos c, ← h.lo k c.1 c.2]
      congr 1
      omega
    · rw [if_neg c, if_neg (by omega)]
      exact h.done k k1 k2 (by omega)
  · rw [hg, if_neg (by omega), if_pos (by omega), ← h.hi k (by omega) (by omega)]
    congr 1
    omega
  · rw [hg, if_neg (by omega), if_neg (by omega)]
    exact h.hi k (by omega) k2
theorem RotSt.right {a m b i j : Nat} {l0 l : List Int} (h : RotSt a m b i j l0 l) (hi : i ≤ m - a) (hj : j ≤ b - m) (ha : a ≤ m) (hb : m ≤ b) (hl : b ≤ l.length) (hij : i < j) :
    RotSt a m b i (j - i) l0 (swR l (m - i) (m + j - i) i) := by
  have hg := gt_swR (l := l) (a := m - i) (b := m + j - i) (n := i) (by omega) (by omega)
  refine ⟨(swR_perm (by omega) (by omega)).trans h.perm, fun k hk => ?_, fun k k1 k2 k3 => ?_, fun k k1 k2 => ?_, fun k k1 k2 => ?_⟩
  · rw [hg, if_neg (by omega), if_neg (by omega)]
    exact h.out k hk
  · rw [hg]
    by_cases c : m + j - i ≤ k ∧ k < m + j - i + i
    · rw [if_neg (by omega), if_pos c, ← h.hi k (by omega) (by omega)]
      congr 1
      omega
    · rw [if_neg (by omega), if_neg c]
      exact h.done k k1 k2 (by omega)
  · rw [hg, if_neg (by omega), if_neg (by omega)]
    exact h.lo k k1 (by omega)
  · rw [hg, if_pos (by omega), ← h.lo k (by omega) (by omega)]
    congr 1
    omega
theorem RotSt.end_ {a m b i : Nat} {l0 l : List Int} (h : RotSt a m b i i l0 l) (hi : i ≤ m - a) (hj : i ≤ b - m) (ha : a ≤ m) (hb : m ≤ b) (hl : b ≤ l.length) : Rot a m b l0 (swR l (m - i) m i) := by
  have hg := gt_swR (l := l) (a := m - i) (b := m) (n := i) (by omega) (by omega)
  refine ⟨(swR_perm (by omega) (by omega)).trans h.perm, fun k => ?_⟩
  rw [hg]
  by_cases c : a ≤ k ∧ k < b
  · rw [if_pos c]
    by_cases c1 : m - i ≤ k ∧ k < m - i + i
    · rw [if_pos c1, ← h.lo k c1.1 c1.2]
      congr 1
      omega
    · rw [if_neg c1]
      by_cases c2 : m ≤ k ∧ k < m + i
      · rw [if_pos c2, ← h.hi k (by omega) c2.2]
        congr 1
        omega
      · rw [if_neg c2]
        exact h.done k c.1 c.2 (by omega)
  · rw [if_neg c, if_neg (by omega), if_neg (by omega)]
    exact h.out k (by omega)

/-! ### by a key -/
def Srt (K : Int → Int) (l : List Int) (a b : Nat) : Prop := ∀ i j, a ≤ i → i ≤ j → j < b → K (gt l i) ≤ K (gt l j)
theorem Srt.sub {K : Int → Int} {l : List Int} {a b a' b' : Nat} (h : Srt K l a b) (ha : a ≤ a') (hb : b' ≤ b) : Srt K l a' b' := fun i j h1 h2 h3 => h i j (by omega) h2 (by omega)
theorem Srt.join {K : Int → Int} {l : List Int} {a m b : Nat} (h1 : Srt K l a m) (h2 : Srt K l m b) (hc : ∀ i j, a ≤ i → i < m → m ≤ j → j < b → K (gt l i) ≤ K (gt l j)) : Srt K l a b := by
  intro i j i1 i2 i3
  by_cases c : j < m
  · exact h1 i j i1 i2 c
  · by_cases d : m ≤ i
    · exact h2 i j d i2 i3
    · exact hc i j i1 (by omega) (by omega) i3
theorem Srt.of_out {K : Int → Int} {l l' : List Int} {a b : Nat} (h : Srt K l a b) (he : ∀ k, a ≤ k → k < b → gt l' k = gt l k) : Srt K l' a b := by
  intro i j i1 i2 i3
  rw [he i i1 (by omega), he j (by omega) i3]
  exact h i j i1 i2 i3

theorem rot_parts {K : Int → Int} {l l' : List Int} {a m b mid st e : Nat} (hR : Rot st m e l l') (s1 : Srt K l a m) (s2 : Srt K l m b) (h1 : a ≤ st) (h2 : st ≤ m) (h3 : m ≤ e) (h4 : e ≤ b) (hn : st + e = mid + m)
    (c1 : a < st → e < b → K (gt l (st - 1)) ≤ K (gt l e)) (c2 : st < m → m < e → K (gt l (e - 1)) ≤ K (gt l st)) :
    Srt K l' a st ∧ Srt K l' st mid ∧ Srt K l' mid e ∧ Srt K l' e b ∧ ∀ i j, a ≤ i → i < mid → mid ≤ j → j < b → K (gt l' i) ≤ K (gt l' j) := by
  have g1 : ∀ k, a ≤ k → k < st → gt l' k = gt l k := fun k _ k2 => by rw [hR.at_, if_neg (by omega)]
  have g2 : ∀ k, st ≤ k → k < mid → gt l' k = gt l (k + (m - st)) := fun k k1 k2 => by rw [hR.at_, if_pos (by omega), if_pos (by omega)]
  have g3 : ∀ k, mid ≤ k → k < e → gt l' k = gt l (k - (e - m)) := fun k k1 k2 => by rw [hR.at_, if_pos (by omega), if_neg (by omega)]
  have g4 : ∀ k, e ≤ k → k < b → gt l' k = gt l k := fun k k1 k2 => by rw [hR.at_, if_neg (by omega)]
  refine ⟨(s1.sub (Nat.le_refl _) h2).of_out g1, fun i j i1 i2 i3 => ?_, fun i j i1 i2 i3 => ?_, (s2.sub h3 (Nat.le_refl _)).of_out g4, fun i j i1 i2 i3 i4 => ?_⟩
  · rw [g2 i i1 (by omega), g2 j (by omega) i3]
    exact s2 _ _ (by omega) (by omega) (by omega)
  · rw [g3 i i1 (by omega), g3 j (by omega) i3]
    exact s1 _ _ (by omega) (by omega) (by omega)
  · by_cases x1 : i < st
    · rw [g1 i i1 x1]
      by_cases y1 : j < e
      · rw [g3 j i3 y1]
        exact s1 _ _ i1 (by omega) (by omega)
      · rw [g4 j (by omega) i4]
        have := c1 (by omega) (by omega)
        have p := s1 i (st - 1) i1 (by omega) (by omega)
        have q := s2 e j (by omega) (by omega) i4
        omega
    · rw [g2 i (by omega) i2]
      by_cases y1 : j < e
      · rw [g3 j i3 y1]
        have := c2 (by omega) (by omega)
        have p := s2 (i + (m - st)) (e - 1) (by omega) (by omega) (by omega)
        have q := s1 st (j - (e - m)) (by omega) (by omega) (by omega)
        omega
      · rw [g4 j (by omega) i4]
        exact s2 _ _ (by omega) (by omega) i4
/-- The two halves are merged by themselves: all is sorted. -/
theorem merge_end {K : Int → Int} {l l1 l2 : List Int} {a mid b : Nat} (hc : ∀ i j, a ≤ i → i < mid → mid ≤ j → j < b → K (gt l i) ≤ K (gt l j)) (hs1 : Seg a mid l l1) (t1 : Srt K l1 a mid) (hs2 : Seg mid b l1 l2) (t2 : Srt K l2 mid b) : Srt K l2 a b := by
  refine Srt.join (t1.of_out (fun k _ k2 => hs2.out k (by omega))) t2 (fun i j i1 i2 i3 i4 => ?_)
  rw [hs2.out i (by omega)]
  obtain ⟨i', p1, p2, p3⟩ := hs1.mem i i1 i2
  obtain ⟨j', q1, q2, q3⟩ := hs2.mem j i3 i4
  rw [p3, q3, hs1.out j' (by omega)]
  exact hc i' j' p1 p2 q1 q2

/-- The element at a goes n places up. -/
def mvU (l : List Int) (a : Nat) : Nat → List Int
  | 0 => l
  | n + 1 => sw (mvU l a n) (a + n) (a + n + 1)
theorem mvU_len (l : List Int) (a n : Nat) : (mvU l a n).length = l.length := by
  induction n with
  | zero => rfl
  | succ n ih => rw [mvU, sw_len, ih]
theorem mvU_perm {l : List Int} {a n : Nat} (h : a + n < l.length) : (mvU l a n).Perm l := by
  induction n with
  | zero => exact List.Perm.refl _
  | succ n ih => exact (sw_perm (by rw [mvU_len]; omega) (by rw [mvU_len]; omega)).trans (ih (by omega))
theorem gt_mvU {l : List Int} {a n : Nat} (h : a + n < l.length) (k : Nat) : gt (mvU l a n) k = if a ≤ k ∧ k < a + n then gt l (k + 1) else if k = a + n then gt l a else gt l k := by
  induction n generalizing k with
  | zero =>
    rw [if_neg (by omega)]
    split
    · rename_i h; rw [h]; rfl
    · rfl
  | succ n ih =>
    have ih := ih (by omega)
    have h0 := ih (a + n)
    have h1 := ih (a + n + 1)
    rw [if_neg (by omega), if_pos rfl] at h0
    rw [if_neg (by omega), if_neg (by omega)] at h1
    rw [mvU, gt_sw (by rw [mvU_len]; omega) (by rw [mvU_len]; omega)]
    rcases (by omega : k = a + n + 1 ∨ k = a + n ∨ (a ≤ k ∧ k < a + n) ∨ (k < a ∨ a + n + 1 < k)) with e | e | e | e
    · rw [if_pos e, h0, if_neg (by omega), if_pos (by omega)]
    · rw [if_neg (by omega), if_pos e, h1, if_pos (by omega), e]
    · rw [if_neg (by omega), if_neg (by omega), ih k, if_pos e, if_pos (by omega)]
    · rw [if_neg (by omega), if_neg (by omega), ih k, if_neg (by omega), if_neg (by omega), if_neg (by omega), if_neg (by omega)]
theorem mvU_seg {l : List Int} {a n b : Nat} (h : a + n < b) (hb : b ≤ l.length) : Seg a b l (mvU l a n) := by
  have hg := gt_mvU (l := l) (a := a) (n := n) (by omega)
  refine ⟨mvU_perm (by omega), fun k hk => by rw [hg, if_neg (by omega), if_neg (by omega)], fun k k1 k2 => ?_⟩
  rw [hg]
  split
  · exact ⟨k + 1, by omega, by omega, rfl⟩
  · split
    · exact ⟨a, by omega, by omega, rfl⟩
    · exact ⟨k, k1, k2, rfl⟩
theorem mvU_srt {K : Int → Int} {l : List Int} {a b i : Nat} (hb : b ≤ l.length) (s2 : Srt K l (a + 1) b) (h1 : a + 1 ≤ i) (h2 : i ≤ b) (lo : ∀ h, a + 1 ≤ h → h < i → K (gt l h) < K (gt l a)) (hi : ∀ h, i ≤ h → h < b → K (gt l a) ≤ K (gt l h)) :
    Srt K (mvU l a (i - 1 - a)) a b := by
  have hg := gt_mvU (l := l) (a := a) (n := i - 1 - a) (by omega)
  intro x y x1 x2 x3
  have hx := hg x
  have hy := hg y
  by_cases cx : a ≤ x ∧ x < a + (i - 1 - a)
  · rw [if_pos cx] at hx
    by_cases cy : a ≤ y ∧ y < a + (i - 1 - a)
    · rw [if_pos cy] at hy
      rw [hx, hy]
      exact s2 _ _ (by omega) (by omega) (by omega)
    · rw [if_neg cy] at hy
      by_cases dy : y = a + (i - 1 - a)
      · rw [if_pos dy] at hy
        rw [hx, hy]
        have := lo (x + 1) (by omega) (by omega)
        omega
      · rw [if_neg dy] at hy
        rw [hx, hy]
        exact s2 _ _ (by omega) (by omega) x3
  · rw [if_neg cx] at hx
    rw [if_neg (by omega)] at hy
    by_cases dx : x = a + (i - 1 - a)
    · rw [if_pos dx] at hx
      by_cases dy : y = a + (i - 1 - a)
      · rw [if_pos dy] at hy
        rw [hx, hy]
        omega
      · rw [if_neg dy] at hy
        rw [hx, hy]
        exact hi y (by omega) x3
    · rw [if_neg dx] at hx
      rw [if_neg (by omega)] at hy
      rw [hx, hy]
      exact s2 _ _ (by omega) x2 x3
/-- The element at m goes n places down. -/
def mvD (l : List Int) (m : Nat) : Nat → List Int
  | 0 => l
  | n + 1 => sw (mvD l m n) (m - n) (m - n - 1)
theorem mvD_len (l : List Int) (a n : Nat) : (mvD l a n).length = l.length := by
  induction n with
  | zero => rfl
  | succ n ih => rw [mvD, sw_len, ih]
theorem mvD_perm {l : List Int} {m n : Nat} (h : m < l.length) : (mvD l m n).Perm l := by
  induction n with
  | zero => exact List.Perm.refl _
  | succ n ih => exact (sw_perm (by rw [mvD_len]; omega) (by rw [mvD_len]; omega)).trans ih
theorem gt_mvD {l : List Int} {m n : Nat} (h : m < l.length) (hn : n ≤ m) (k : Nat) : gt (mvD l m n) k = if k = m - n then gt l m else if m - n < k ∧ k ≤ m then gt l (k - 1) else gt l k := by
  induction n generalizing k with
  | zero =>
    rw [if_neg (c := m - 0 < k ∧ k ≤ m) (by omega)]
    split
    · rename_i h; rw [h]; rfl
    · rfl
  | succ n ih =>
    have ih := ih (by omega)
    have h0 := ih (m - n)
    have h1 := ih (m - n - 1)
    rw [if_pos rfl] at h0
    rw [if_neg (by omega), if_neg (by omega)] at h1
    rw [mvD, gt_sw (by rw [mvD_len]; omega) (by rw [mvD_len]; omega)]
    rcases (by omega : k = m - n - 1 ∨ k = m - n ∨ (m - n < k ∧ k ≤ m) ∨ (k < m - n - 1 ∨ m < k)) with e | e | e | e
    · rw [if_pos e, h0, if_pos (by omega)]
    · rw [if_neg (by omega), if_pos e, h1, if_neg (by omega), if_pos (by omega), e]
    · rw [if_neg (by omega), if_neg (by omega), ih k, if_neg (by omega), if_pos e, if_neg (by omega), if_pos (by omega)]
    · rw [if_neg (by omega), if_neg (by omega), ih k, if_neg (by omega), if_neg (by omega), if_neg (by omega), if_neg (by omega)]
theorem mvD_seg {l : List Int} {m n a : Nat} (h : m < l.length) (hn : a + n ≤ m) : Seg a (m + 1) l (mvD l m n) := by
  have hg := gt_mvD (l := l) (m := m) (n := n) h (by omega)
  refine ⟨mvD_perm h, fun k hk => by rw [hg, if_neg (by omega), if_neg (by omega)], fun k k1 k2 => ?_⟩
  rw [hg]
  split
  · exact ⟨m, by omega, by omega, rfl⟩
  · split
    · exact ⟨k - 1, by omega, by omega, rfl⟩
    · exact ⟨k, k1, k2, rfl⟩
theorem mvD_srt {K : Int → Int} {l : List Int} {a m i : Nat} (hb : m < l.length) (s1 : Srt K l a m) (h1 : a ≤ i) (h2 : i ≤ m) (lo : ∀ h, a ≤ h → h < i → K (gt l h) ≤ K (gt l m)) (hi : ∀ h, i ≤ h → h < m → K (gt l m) < K (gt l h)) :
    Srt K (mvD l m (m - i)) a (m + 1) := by
  have hg := gt_mvD (l := l) (m := m) (n := m - i) hb (by omega)
  intro x y x1 x2 x3
  have hx := hg x
  have hy := hg y
  by_cases cx : x = m - (m - i)
  · rw [if_pos cx] at hx
    by_cases cy : y = m - (m - i)
    · rw [if_pos cy] at hy
      rw [hx, hy]
      omega
    · rw [if_neg cy, if_pos (by omega)] at hy
      rw [hx, hy]
      have := hi (y - 1) (by omega) (by omega)
      omega
  · rw [if_neg cx] at hx
    by_cases dx : m - (m - i) < x ∧ x ≤ m
    · rw [if_pos dx] at hx
      rw [if_neg (by omega), if_pos (by omega)] at hy
      rw [hx, hy]
      exact s1 _ _ (by omega) (by omega) (by omega)
    · rw [if_neg dx] at hx
      by_cases cy : y = m - (m - i)
      · rw [if_pos cy] at hy
        rw [hx, hy]
        exact lo x x1 (by omega)
      · rw [if_neg cy] at hy
        by_cases dy : m - (m - i) < y ∧ y ≤ m
        · rw [if_pos dy] at hy
          rw [hx, hy]
          exact s1 _ _ x1 (by omega) (by omega)
        · rw [if_neg dy] at hy
          rw [hx, hy]
          exact s1 _ _ x1 x2 (by omega)
end Go.Proofs.YtinbilbgipfemaaDoor
/- Rows of lengths told by symbols: the plain answer; rows of the call's own. -/
namespace Go.Proofs.YtinbilbgipfemaaDoor
open Go.RowKit

/-- What one symbol and its extra number add. -/
def stepT (l : List Int) (p : Int × Int) : Option (List Int) :=
  if 0 ≤ p.1 ∧ p.1 < 16 ∧ p.2 = 0 then some (l ++ [p.1])
  else if p.1 = 16 ∧ 0 ≤ p.2 ∧ p.2 ≤ 3 ∧ 1 ≤ l.length then some (l ++ List.replicate (3 + p.2).toNat (l[l.length - 1]?.getD 0))
  else if p.1 = 17 ∧ 0 ≤ p.2 ∧ p.2 ≤ 7 then some (l ++ List.replicate (3 + p.2).toNat 0)
  else if p.1 = 18 ∧ 0 ≤ p.2 ∧ p.2 ≤ 127 then some (l ++ List.replicate (11 + p.2).toNat 0)
  else none
def rowT : List (Int × Int) → List Int → Option (List Int)
  | [], l => some l
  | p :: ps, l => match stepT l p with
    | some l' => rowT ps l'
    | none => none
theorem rowT_snoc (ps : List (Int × Int)) (p : Int × Int) : ∀ l : List Int, rowT (ps ++ [p]) l = match rowT ps l with
    | some l' => stepT l' p
    | none => none := by
  induction ps with
  | nil =>
    intro l
    show rowT [p] l = stepT l p
    simp only [rowT]
    cases stepT l p <;> rfl
  | cons q qs ih =>
    intro l
    show rowT (q :: (qs ++ [p])) l = match rowT (q :: qs) l with
      | some l' => stepT l' p
      | none => none
    simp only [rowT]
    cases stepT l q with
    | none => rfl
    | some l' => exact ih l'
theorem stepT_cases {l l' : List Int} {p : Int × Int} (h : stepT l p = some l') :
    (0 ≤ p.1 ∧ p.1 < 16 ∧ p.2 = 0 ∧ l' = l ++ List.replicate 1 p.1) ∨ (p.1 = 16 ∧ 0 ≤ p.2 ∧ p.2 ≤ 3 ∧ 1 ≤ l.length ∧ l' = l ++ List.replicate (3 + p.2).toNat (l[l.length - 1]?.getD 0)) ∨
    (p.1 = 17 ∧ 0 ≤ p.2 ∧ p.2 ≤ 7 ∧ l' = l ++ List.replicate (3 + p.2).toNat 0) ∨ (p.1 = 18 ∧ 0 ≤ p.2 ∧ p.2 ≤ 127 ∧ l' = l ++ List.replicate (11 + p.2).toNat 0) := by
  unfold stepT at h
  split at h
  · next g => exact .inl ⟨g.1, g.2.1, g.2.2, (Option.some.inj h).symm⟩
  · split at h
    · next g => exact .inr (.inl ⟨g.1, g.2.1, g.2.2.1, g.2.2.2, (Option.some.inj h).symm⟩)
    · split at h
      · next g => exact .inr (.inr (.inl ⟨g.1, g.2.1, g.2.2, (Option.some.inj h).symm⟩))
      · split at h
        · next g => exact .inr (.inr (.inr ⟨g.1, g.2.1, g.2.2, (Option.some.inj h).symm⟩))
        · cases h
theorem stepT_more {l l' : List Int} {p : Int × Int} (h : stepT l p = some l') : l.length + 1 ≤ l'.length := by
  rcases stepT_cases h with ⟨_, _, _, rfl⟩ | ⟨_, _, _, _, rfl⟩ | ⟨_, _, _, rfl⟩ | ⟨_, _, _, rfl⟩ <;> simp only [List.length_append, List.length_replicate] <;> omega
theorem rowT_more : ∀ {ps : List (Int × Int)} {l l' : List Int}, rowT ps l = some l' → l.length + ps.length ≤ l'.length
  | [], l, l', h => by obtain rfl := Option.some.inj h; simp
  | p :: ps, l, l', h => by
    simp only [rowT] at h
    cases hs : stepT l p with
    | none => rw [hs] at h; cases h
    | some m =>
      rw [hs] at h
      have h1 := stepT_more hs
      have h2 := rowT_more h
      simp only [List.length_cons]
      omega

/-- Numbers of the call's own. -/
def OwnInts (B : Nat) (W : World) (v : Value) (zs : List Int) : Prop := (∃ g c, v = .slice g zs.length c) ∧ W.ownsRow B 3 1 v zs.length (zs.map (Value.int .i64))
theorem OwnInts.nil (B : Nat) (W : World) : OwnInts B W (.slice none 0 0) [] := ⟨⟨none, 0, rfl⟩, ⟨rfl, .inl ⟨rfl, rfl⟩⟩⟩
theorem OwnInts.below {B : Nat} {W W' : World} {v : Value} {zs : List Int} (h : OwnInts B W v zs) (hb : Below W.heap.size W W') : OwnInts B W' v zs := ⟨h.1, owns_kept (S := (· < W.heap.size)) h.2 (Kept.of_below hb (fun _ h => h)) (fun k hk => (h.2.lt k hk).2)⟩
theorem OwnInts.alloc {B : Nat} {W : World} {v : Value} {zs : List Int} (h : OwnInts B W v zs) (o : Obj) : OwnInts B (W.alloc o) v zs := h.below ((Below.refl _ W).alloc (Nat.le_refl _) o)
theorem OwnInts.drewN {B : Nat} {W : World} {v : Value} {zs : List Int} (h : OwnInts B W v zs) (n : Nat) : OwnInts B (W.drewN n) v zs := h
theorem OwnInts.push {B : Nat} {W0 w w' : World} {v v' : Value} {zs : List Int} {b : Int} (h : OwnInts B w v zs) (hB : Below B W0 w) (ho : w'.ownsRow B 3 1 v' (zs.length + 1) (zs.map (Value.int .i64) ++ [.int .i64 b])) (hg : w.grownBy w' v.ownBlock) (hBs : B ≤ w.heap.size) :
    OwnInts B w' v' (zs ++ [b]) ∧ Below B W0 w' := by
  refine ⟨⟨?_, ?_⟩, ?_⟩
  · obtain ⟨g, c, e⟩ := owns_form ho
    exact ⟨g, c, by rw [e, List.length_append]; rfl⟩
  · rw [List.length_append, List.map_append]
    exact ho
  · exact hB.trans ((((Kept.refl (· < B) w).grown hg (fun k hk => by have : k < B := hk; omega) (fun k hk hlt => by have := (h.2.lt k hk).1; have : k < B := hlt; omega))).below (fun _ h => h))
theorem OwnInts.cell {B : Nat} {W : World} {g : Option Addr} {c : Nat} {zs : List Int} (h : OwnInts B W (.slice g zs.length c) zs) (j : Nat) (hj : j < zs.length) : ∃ gb, g = some ⟨gb, 0, none⟩ ∧ W.cell? ⟨gb, j, none⟩ = some (.int .i64 (zs[j]?.getD 0)) := by
  rcases h.2.2 with ⟨h0, h1⟩ | ⟨gb, cap', cur, hv, hb', hg', _⟩
  · omega
  · simp only [Value.slice.injEq] at hv
    obtain ⟨rfl, -, rfl⟩ := hv
    have c0 := h.2.cells (g := gb) rfl j (.int .i64 (zs[j]?.getD 0)) (by simp [hj])
    rw [Go.WideShapes.add_plain] at c0
    exact ⟨gb, rfl, by simpa using c0⟩
theorem OwnInts.ints {B : Nat} {W : World} {v : Value} {zs : List Int} (h : OwnInts B W v zs) : IntsIn (· < W.heap.size) W v zs := by
  obtain ⟨⟨g, c, rfl⟩, ho⟩ := h
  rcases ho.2 with ⟨h0, h1⟩ | ⟨gb, cap', cur, hv, hb', hg', _⟩
  · exact .inl ⟨List.eq_nil_of_length_eq_zero h1, _, _, by rw [h1]⟩
  · simp only [Value.slice.injEq] at hv
    obtain ⟨rfl, -, rfl⟩ := hv
    refine .inr ⟨gb, 0, _, rfl, (Array.getElem?_eq_some_iff.1 hg').1, fun j hj => ?_⟩
    have c0 := ho.cells (g := gb) rfl j (.int .i64 (zs[j]?.getD 0)) (by simp [hj])
    rwa [Go.WideShapes.add_plain] at c0
end Go.Proofs.YtinbilbgipfemaaDoor
