/- The iterator over the symbols of one length (ofLength and its closure). -/
import Derived.RangeFuncNested
import Derived.RangeFuncBox
import Derived.RangeFuncBound
import Derived.RangeFuncCalls
import Derived.RangeFuncLeaves
import Derived.Shelf.Abstract
import Derived.Shelf.RegionOpen
import Derived.WalkKit
import Derived.OwnWalkIn
import Derived.TacticsInMore
import Derived.LoopNIn
import Derived.LoopIn
import Derived.Test.YtiakploggmmklaaTab
namespace Go.Proofs.Ytiakploggmmklaa
open Go.RowKit Go.Shelf

attribute [local go_sem] Oper.semAt_some

set_option maxHeartbeats 1000000 in
theorem ofLength_in (F : Fence) (n : Nat) (h27 : F.fn 23) (hro : F.round = none) (sv : Option Addr) (len cap : Nat) (m : Int) (w : World) :
    CallsIn F n Try.prog 23 #[.slice sv len cap, .int .i64 m] w fun e w' => e = .returned (.func (.func 29) #[] #[.pointer (some ⟨w.heap.size, 0, none⟩), .pointer (some ⟨w.heap.size + 1, 0, none⟩)]) ∧
      w' = (w.alloc (.cells #[.slice sv len cap] 22)).alloc (.cells #[.int .i64 m] 3) := by
  refine callsIn_of_wp Try.func23 rfl h27 ?_ hro
  simp only [Try.ntmps23, List.size_toArray, List.length_cons, List.length_nil, Nat.reduceAdd, Nat.reduceSub, Array.replicate_succ, Array.replicate_zero, List.push_toArray, List.append_toArray, List.nil_append, List.cons_append]
  gi_wp2
  go_ret
  exact ⟨rfl, rfl⟩

/-- The symbols below k of length m, in order. -/
def ofF (zs : List Int) (m : Int) : Nat → List (Fin zs.length)
  | 0 => []
  | k + 1 => ofF zs m k ++ (if h : k < zs.length then (if zs[k]?.getD 0 = m then [⟨k, h⟩] else []) else [])
theorem ofF_yes (zs : List Int) (m : Int) (k : Nat) (h : k < zs.length) (e : zs[k]?.getD 0 = m) : ofF zs m (k + 1) = ofF zs m k ++ [⟨k, h⟩] := by
  rw [ofF, dif_pos h, if_pos e]
theorem ofF_no (zs : List Int) (m : Int) (k : Nat) (e : ¬ zs[k]?.getD 0 = m) : ofF zs m (k + 1) = ofF zs m k := by
  rw [ofF]
  by_cases h : k < zs.length
  · rw [dif_pos h, if_neg e, List.append_nil]
  · rw [dif_neg h, List.append_nil]
theorem ofF_length (zs : List Int) (m : Int) (k : Nat) : (ofF zs m k).length ≤ k := by
  induction k with
  | zero => simp [ofF]
  | succ k ih =>
    rw [ofF, List.length_append]
    split
    · split <;> simp <;> omega
    · simp; omega

set_option maxRecDepth 100000 in
set_option maxHeartbeats 2000000 in
theorem ofl_in (F : Fence) (n : Nat) (h43 : F.fn 29) (hro : F.round = none) (hn : 1 ≤ n) (l B0 : Nat) (S : Nat → Prop) (m : Int) (sv : Value) (zs : List Int) (hl : zs.length ≤ 140737488355328)
    (hS1 : S (B0 + 1)) (J Jx : List (Fin zs.length) → World → Prop)
    (hY : ∀ pre x W, J pre W → pre.length < zs.length → YieldAt F (n - 1) Try.prog l #[.int .i64 ((x : Fin zs.length).1 : Int)] W fun e W' =>
      (e = .returned (.bool true) ∧ J (pre ++ [x]) W' ∧ Kept S W W') ∨ (e = .returned (.bool false) ∧ Jx (pre ++ [x]) W'))
    (W : World) (c0 : W.cell? ⟨B0, 0, none⟩ = some sv) (c1 : W.cell? ⟨B0 + 1, 0, none⟩ = some (.int .i64 m))
    (hI : IntsIn S W sv zs) (h0 : J [] W) :
    CallsIn F n Try.prog 29 #[.func (.yield l) #[] #[], .pointer (some ⟨B0, 0, none⟩), .pointer (some ⟨B0 + 1, 0, none⟩)] W fun e W' => (∃ v, e = .returned v) ∧
      ((∃ ys, ys = ofF zs m zs.length ∧ J ys W') ∨ (∃ pre, (∃ k, k ≤ zs.length ∧ pre = ofF zs m k) ∧ Jx pre W')) := by
  obtain ⟨a, cap, rfl⟩ : ∃ a cap, sv = .slice a zs.length cap := by
    rcases hI with ⟨rfl, a, cap, rfl⟩ | ⟨b, off, cap, rfl, _⟩
    · exact ⟨a, cap, rfl⟩
    · exact ⟨_, _, rfl⟩
  refine callsIn_of_wp Try.func29 rfl h43 ?_ hro
  simp only [Try.ntmps29, List.size_toArray, List.length_cons, List.length_nil, Nat.reduceAdd, Nat.reduceSub, Array.replicate_succ, Array.replicate_zero, List.push_toArray, List.append_toArray, List.nil_append, List.cons_append]
  gi_wp2
  gi_loopw [8] (fun i wr => ∃ k : Nat, k ≤ zs.length ∧ i = .int .i64 k ∧ J (ofF zs m k) wr ∧ Kept S W wr)
    (fun i _ => zs.length - (intOf i).toNat)
  case atStart => exact ⟨0, Nat.zero_le _, rfl, h0, Kept.refl _ _⟩
  case round =>
    obtain ⟨k, hk, rfl, hJs, hnx⟩ := hrel
    by_cases hlt : k < zs.length
    · obtain ⟨b, off, rfl, hb, hc⟩ := hI.at k hlt
      have c1' := (hnx.cell (p := ⟨B0 + 1, 0, none⟩) hS1).trans c1
      have hcx := (hnx.cell (p := ⟨b, off + k, none⟩) hb).trans hc
      by_cases heq : zs[k]?.getD 0 = m
      · have HF : Hid (ofF zs m (k + 1) = ofF zs m k ++ [⟨k, hlt⟩]) := ofF_yes zs m k hlt heq
        obtain ⟨fn, tmps, assign, body, hy, hR⟩ := hY _ (⟨k, hlt⟩ : Fin zs.length) wr hJs (by have := ofF_length zs m k; omega)
        rw [heq] at hcx
        clear hc c0 c1 heq
        have ht : (m == m) = true := by simp
        simp only at hy
        gi_wp2
        refine hR.mono ?_
        rintro e W3 (⟨rfl, hJ3, hk3⟩ | ⟨rfl, hJx3⟩)
        · gi_wp2
          go_roundw
          case rel => exact ⟨k + 1, by omega, by simp, by rw [HF.out]; exact hJ3, hnx.trans hk3⟩
          case measure => simp [intOf]; omega
        · gi_wp2
          refine bodyPost_ret (results_none rfl _ _ _) rfl ?_
          exact ⟨⟨_, rfl⟩, .inr ⟨_, ⟨k + 1, by omega, HF.out.symm⟩, hJx3⟩⟩
      · have HF : Hid (ofF zs m (k + 1) = ofF zs m k) := ofF_no zs m k heq
        generalize zs[k]?.getD 0 = z at hcx heq
        have ht : (z == m) = false := by simpa using heq
        clear hc c0 c1 heq
        gi_wp2
        refine ⟨(fun f hf => by cases hf), ?_⟩
        gi_wp2
        go_roundw
        case rel => exact ⟨k + 1, by omega, by simp, by rw [HF.out]; exact hJs, hnx⟩
        case measure => simp [intOf]; omega
    · obtain rfl : k = zs.length := by omega
      clear hI c0 c1
      gi_wp2
      go_end0
      exact ⟨⟨_, rfl⟩, .inl ⟨_, rfl, hJs⟩⟩

/-- The iterator's contract: all symbols of this length, in order; or the first of them. -/
theorem ofl_stops (F : Fence) (n : Nat) (h43 : F.fn 29) (hro : F.round = none) (hn : 1 ≤ n) (B0 : Nat) (S : Nat → Prop) (m : Int) (sv : Value) (zs : List Int) (hl : zs.length ≤ 140737488355328)
    (hS1 : S (B0 + 1)) (w : World) (hS : ∀ k, S k → k < w.heap.size) (hB : B0 < w.heap.size)
    (c0 : w.cell? ⟨B0, 0, none⟩ = some sv) (c1 : w.cell? ⟨B0 + 1, 0, none⟩ = some (.int .i64 m)) (hI : IntsIn S w sv zs) :
    SeqStopsK F n Try.prog 29 #[.pointer (some ⟨B0, 0, none⟩), .pointer (some ⟨B0 + 1, 0, none⟩)] (fun x : Fin zs.length => #[Value.int .i64 (x.1 : Int)]) (Kept S)
      (fun ys => ys = ofF zs m zs.length) (fun pre => ∃ k, k ≤ zs.length ∧ pre = ofF zs m k) zs.length w := fun l J Jx W hW _ _ hY h0 =>
  ofl_in F n h43 hro hn l B0 S m sv zs hl hS1 J Jx hY W ((hW.cell (p := ⟨B0, 0, none⟩) hB).trans c0) ((hW.cell (p := ⟨B0 + 1, 0, none⟩) (hS _ hS1)).trans c1) (hI.kept (Kept.of_below hW hS)) h0
end Go.Proofs.Ytiakploggmmklaa
