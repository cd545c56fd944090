/- slices.Backward over the rows: the last first. -/
import Derived.Test.YtiakploggmmklaaRel
import Derived.Test.YtiakploggmmklaaTab
import Derived.Shelf.Abstract
import Derived.Shelf.RegionOpen
import Derived.WalkKit
import Derived.OwnWalkIn
import Derived.TacticsInMore
import Derived.LoopNIn
import Derived.LoopIn
namespace Go.Proofs.Ytiakploggmmklaa
open Go.RowKit Go.Shelf

attribute [local go_sem] Oper.semAt_some

set_option maxHeartbeats 1000000 in
theorem backward_in (F : Fence) (n : Nat) (h46 : F.fn 19) (hro : F.round = none) (sv : Option Addr) (len cap : Nat) (w : World) :
    CallsIn F n Try.prog 19 #[.slice sv len cap] w fun e w' => e = .returned (.func (.func 26) #[] #[.pointer (some ⟨w.heap.size, 0, none⟩)]) ∧ w' = w.alloc (.cells #[.slice sv len cap] 35) := by
  refine callsIn_of_wp Try.func19 rfl h46 ?_ hro
  simp only [Try.ntmps19, List.size_toArray, List.length_cons, List.length_nil, Nat.reduceAdd, Nat.reduceSub, Array.replicate_succ, Array.replicate_zero, List.push_toArray, List.append_toArray, List.nil_append, List.cons_append]
  gi_wp2
  go_ret
  exact ⟨rfl, rfl⟩

set_option maxRecDepth 100000 in
set_option maxHeartbeats 2000000 in
theorem bwd_seq (F : Fence) (n : Nat) (h52 : F.fn 26) (hro : F.round = none) (hn : 1 ≤ n) (B0 GA limit : Nat) (S : Nat → Prop) (sv : Nat → Value) (hS0 : S B0) (hSG : S GA) (h15 : limit ≤ 15) (w : World) (hSw : ∀ k, S k → k < w.heap.size)
    (c0 : w.cell? ⟨B0, 0, none⟩ = some (.slice (some ⟨GA, 0, none⟩) limit limit)) (cs : ∀ i, i < limit → w.cell? ⟨GA, i, none⟩ = some (sv i)) :
    SeqRel F n Try.prog 26 #[.pointer (some ⟨B0, 0, none⟩)] (fun x : Fin limit => #[Value.int .i64 (x.1 : Int), sv x.1]) (Kept S) (fun pre x => x.1 + 1 + pre.length = limit) (fun xs => xs.length = limit) w := by
  intro l J W hW hY h0
  have hKW : Kept S w W := Kept.of_below hW hSw
  have c0' := (hKW.cell (p := ⟨B0, 0, none⟩) hS0).trans c0
  have cs' : ∀ i, i < limit → W.cell? ⟨GA, i, none⟩ = some (sv i) := fun i hi => (hKW.cell (p := ⟨GA, i, none⟩) hSG).trans (cs i hi)
  clear hW hKW c0 cs
  refine callsIn_of_wp Try.func26 rfl h52 ?_ hro
  simp only [Try.ntmps26, List.size_toArray, List.length_cons, List.length_nil, Nat.reduceAdd, Nat.reduceSub, Array.replicate_succ, Array.replicate_zero, List.push_toArray, List.append_toArray, List.nil_append, List.cons_append]
  gi_wp2
  gi_loopw [3] (fun i wr => ∃ (pre : List (Fin limit)), pre.length ≤ limit ∧ i = .int .i64 ((limit : Int) - 1 - pre.length) ∧ J pre wr ∧ Kept S W wr)
    (fun i _ => (intOf i + 1).toNat)
  case atStart => exact ⟨[], Nat.zero_le _, by simp, h0, Kept.refl _ _⟩
  case round =>
    obtain ⟨pre, hk, rfl, hJs, hnx⟩ := hrel
    by_cases hlt : pre.length < limit
    · obtain ⟨i, hi⟩ : ∃ i, i + 1 + pre.length = limit := ⟨limit - 1 - pre.length, by omega⟩
      have ei : (limit : Int) - 1 - pre.length = (i : Int) := by omega
      have d0 := (hnx.cell (p := ⟨B0, 0, none⟩) hS0).trans c0'
      have d1 := (hnx.cell (p := ⟨GA, i, none⟩) hSG).trans (cs' i (by omega))
      have hil : i < limit := by omega
      have HY : ∃ fn tmps assign body, (Instr.yield l #[.int .i64 (i : Int), sv i]).run Try.prog wr = .ok (.round l fn tmps assign body) wr ∧ RoundIn F (n - 1) Try.prog l fn tmps assign body wr fun e V' => e = .returned (.bool true) ∧ J (pre ++ [⟨i, hil⟩]) V' ∧ Kept S wr V' := hY pre (⟨i, hil⟩ : Fin limit) wr hJs hi
      obtain ⟨fn, tmps, assign, body, hy, hR⟩ := HY
      rw [ei]
      have HJ : Hid (pre.length + 1 ≤ limit) := hlt
      have HI : Hid (i + 1 + pre.length = limit) := hi
      clear c0' cs' hlt hi ei hk
      generalize sv i = v at d1 hy
      gi_wp2
      refine hR.mono ?_
      rintro e W3 ⟨rfl, hJ3, hk3⟩
      gi_wp2
      go_roundw
      case rel => exact ⟨pre ++ [⟨i, hil⟩], by simp; exact HJ.out, by have := HI.out; simp; omega, hJ3, hnx.trans hk3⟩
      case measure => simp [intOf]
    · have e : pre.length = limit := by omega
      have ei : (limit : Int) - 1 - pre.length = -1 := by omega
      rw [ei]
      clear c0' cs' hlt ei hk
      gi_wp2
      go_end0
      exact ⟨⟨_, rfl⟩, _, e, hJs⟩
end Go.Proofs.Ytiakploggmmklaa
