/- The iterator over bits (stretch and its closure): it hands out m bits from bit number pos on, each with its number. -/
import Derived.RangeFuncNested
import Derived.RangeFuncBox
import Derived.RangeFuncBound
import Derived.RangeFuncCalls
import Derived.RangeFuncLeaves
import Derived.Shelf.Abstract
import Derived.Shelf.RegionOpen
import Derived.WalkKit
import Derived.OwnWalkIn
import Derived.TacticsInMore
import Derived.LoopNIn
import Derived.LoopIn
import Derived.Test.YtibnafngkcpafaaGreatDoorRows
import Derived.Test.YtibnafngkcpafaaGreatDoorBase
namespace Go.Proofs.YtibnafngkcpafaaGreatDoor
open Go.RowKit Go.Shelf

attribute [local go_sem] Oper.semAt_some

set_option maxHeartbeats 1000000 in
theorem stretch_in (F : Fence) (n : Nat) (h34 : F.fn 55) (hro : F.round = none) (sv : Option Addr) (len cap : Nat) (pos m : Int) (w : World) :
    CallsIn F n Tryz.prog 55 #[.slice sv len cap, .int .i64 pos, .int .i64 m] w fun e w' => e = .returned (.func (.func 71) #[] #[.pointer (some ⟨w.heap.size + 1 + 1, 0, none⟩), .pointer (some ⟨w.heap.size + 1, 0, none⟩), .pointer (some ⟨w.heap.size, 0, none⟩)]) ∧
      w' = ((w.alloc (.cells #[.slice sv len cap] 28)).alloc (.cells #[.int .i64 pos] 3)).alloc (.cells #[.int .i64 m] 3) := by
  refine callsIn_of_wp Tryz.func55 rfl h34 ?_ hro
  simp only [Tryz.ntmps55, List.size_toArray, List.length_cons, List.length_nil, Nat.reduceAdd, Nat.reduceSub, Array.replicate_succ, Array.replicate_zero, List.push_toArray, List.append_toArray, List.nil_append, List.cons_append]
  gi_wp2
  go_ret
  exact ⟨rfl, rfl⟩

/-- What the closure hands out at its round k. -/
def bitF (zs : List Int) (pos : Nat) (k : Nat) : Nat × Bit := (k, bitAt zs (pos + k))

set_option maxRecDepth 100000 in
set_option maxHeartbeats 2000000 in
theorem str1_in (F : Fence) (n : Nat) (h37 : F.fn 71) (hro : F.round = none) (hn : 1 ≤ n) (l B0 : Nat) (S : Nat → Prop) (pos m : Nat) (sv : Value) (zs : List Int) (hp : pos + m ≤ 8 * zs.length) (hl : zs.length ≤ 140737488355328)
    (hz : AreBytes zs) (hS0 : S B0) (hS1 : S (B0 + 1)) (J Jx : List (Nat × Bit) → World → Prop)
    (hY : ∀ pre x W, J pre W → pre.length < m → YieldAt F (n - 1) Tryz.prog l #[.int .i64 (x.1 : Int), .int .u32 x.2.1] W fun e W' =>
      (e = .returned (.bool true) ∧ J (pre ++ [x]) W' ∧ Kept S W W') ∨ (e = .returned (.bool false) ∧ Jx (pre ++ [x]) W'))
    (W : World) (c0 : W.cell? ⟨B0, 0, none⟩ = some sv) (c1 : W.cell? ⟨B0 + 1, 0, none⟩ = some (.int .i64 pos)) (c2 : W.cell? ⟨B0 + 1 + 1, 0, none⟩ = some (.int .i64 m))
    (hI : BytesIn S W sv zs) (h0 : J [] W) :
    CallsIn F n Tryz.prog 71 #[.func (.yield l) #[] #[], .pointer (some ⟨B0 + 1 + 1, 0, none⟩), .pointer (some ⟨B0 + 1, 0, none⟩), .pointer (some ⟨B0, 0, none⟩)] W fun e W' => (∃ v, e = .returned v) ∧
      ((∃ ys, ys = upto (bitF zs pos) m ∧ J ys W') ∨ (∃ pre, (∃ k, k ≤ m ∧ pre = upto (bitF zs pos) k) ∧ Jx pre W')) := by
  refine callsIn_of_wp Tryz.func71 rfl h37 ?_ hro
  simp only [Tryz.ntmps71, List.size_toArray, List.length_cons, List.length_nil, Nat.reduceAdd, Nat.reduceSub, Array.replicate_succ, Array.replicate_zero, List.push_toArray, List.append_toArray, List.nil_append, List.cons_append]
  gi_wp2
  gi_loopw [8] (fun i wr => ∃ k : Nat, k ≤ m ∧ i = .int .i64 k ∧ J (upto (bitF zs pos) k) wr ∧ Kept S W wr)
    (fun i _ => m - (intOf i).toNat)
  case atStart => exact ⟨0, Nat.zero_le _, rfl, h0, Kept.refl _ _⟩
  case round =>
    obtain ⟨k, hk, rfl, hJs, hnx⟩ := hrel
    by_cases hlt : k < m
    · rcases hI with ⟨rfl, _⟩ | ⟨b, off, cap, rfl, hb, hc⟩
      · simp at hp; omega
      have c0' := (hnx.cell (p := ⟨B0, 0, none⟩) hS0).trans c0
      have c1' := (hnx.cell (p := ⟨B0 + 1, 0, none⟩) hS1).trans c1
      have hcx : wr.cell? ⟨b, off + ((pos + k) / 8), none⟩ = some (.int .u8 (zs[(pos + k) / 8]?.getD 0)) := (hnx.cell (p := ⟨b, off + (pos + k) / 8, none⟩) hb).trans (hc _ (by omega))
      obtain ⟨fn, tmps, assign, body, hy, hR⟩ := hY _ (bitF zs pos k) wr hJs (by rw [upto_length]; exact hlt)
      simp only [bitF, bitAt] at hy
      clear hc c0 c1 c2
      have hzk := hz ((pos + k) / 8)
      clear hz
      gi_wp2
      refine hR.mono ?_
      rintro e W3 (⟨rfl, hJ3, hk3⟩ | ⟨rfl, hJx3⟩)
      · gi_wp2
        go_roundw
        case rel => exact ⟨k + 1, by omega, by simp, by rw [upto_succ]; exact hJ3, hnx.trans hk3⟩
        case measure => simp [intOf]; omega
      · gi_wp2
        refine bodyPost_ret (results_none rfl _ _ _) rfl ?_
        exact ⟨⟨_, rfl⟩, .inr ⟨_, ⟨k + 1, by omega, (upto_succ _ _).symm⟩, hJx3⟩⟩
    · obtain rfl : k = m := by omega
      clear hI hz c0 c1
      gi_wp2
      go_end0
      exact ⟨⟨_, rfl⟩, .inl ⟨_, rfl, hJs⟩⟩

/-- The iterator's contract: all bits, in order; or the first k of them. -/
theorem str_stops (F : Fence) (n : Nat) (h37 : F.fn 71) (hro : F.round = none) (hn : 1 ≤ n) (B0 : Nat) (S : Nat → Prop) (pos m : Nat) (sv : Value) (zs : List Int) (hp : pos + m ≤ 8 * zs.length) (hl : zs.length ≤ 140737488355328)
    (hz : AreBytes zs) (hS0 : S B0) (hS1 : S (B0 + 1)) (w : World) (hS : ∀ k, S k → k < w.heap.size) (hB : B0 + 1 + 1 < w.heap.size)
    (c0 : w.cell? ⟨B0, 0, none⟩ = some sv) (c1 : w.cell? ⟨B0 + 1, 0, none⟩ = some (.int .i64 pos)) (c2 : w.cell? ⟨B0 + 1 + 1, 0, none⟩ = some (.int .i64 m)) (hI : BytesIn S w sv zs) :
    SeqStopsK F n Tryz.prog 71 #[.pointer (some ⟨B0 + 1 + 1, 0, none⟩), .pointer (some ⟨B0 + 1, 0, none⟩), .pointer (some ⟨B0, 0, none⟩)] (fun x : Nat × Bit => #[Value.int .i64 (x.1 : Int), Value.int .u32 x.2.1]) (Kept S)
      (fun ys => ys = upto (bitF zs pos) m) (fun pre => ∃ k, k ≤ m ∧ pre = upto (bitF zs pos) k) m w := fun l J Jx W hW _ _ hY h0 =>
  str1_in F n h37 hro hn l B0 S pos m sv zs hp hl hz hS0 hS1 J Jx hY W ((hW.cell (p := ⟨B0, 0, none⟩) (hS _ hS0)).trans c0) ((hW.cell (p := ⟨B0 + 1, 0, none⟩) (hS _ hS1)).trans c1)
    ((hW.cell (p := ⟨B0 + 1 + 1, 0, none⟩) hB).trans c2) (hI.kept (Kept.of_below hW hS)) h0

end Go.Proofs.YtibnafngkcpafaaGreatDoor
