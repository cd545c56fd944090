import Derived.RangeFuncNested
import Derived.RangeFuncBox
import Derived.RangeFuncBound
import Derived.RangeFuncCalls
import Derived.RangeFuncLeaves
import Derived.Shelf.Abstract
import Derived.Shelf.RegionOpen
import Derived.WalkKit
import Derived.OwnWalkIn
import Derived.TacticsInMore
import Derived.LoopNIn
import Derived.LoopIn
import Derived.Test.YtinbilbgipfemaaDoorTabM
import Derived.Test.YtinbilbgipfemaaDoorRel
/- The iterator over the symbols of one length (ofLength and its closure). -/
namespace Go.Proofs.YtinbilbgipfemaaDoor
open Go.RowKit Go.Shelf

attribute [local go_sem] Oper.semAt_some

set_option maxHeartbeats 1000000 in
theorem ofLength_in (F : Fence) (n : Nat) (h27 : F.fn 88) (hro : F.round = none) (sv : Option Addr) (len cap : Nat) (m : Int) (w : World) :
    CallsIn F n Tryd.prog 88 #[.slice sv len cap, .int .i64 m] w fun e w' => e = .returned (.func (.func 95) #[] #[.pointer (some ⟨w.heap.size, 0, none⟩), .pointer (some ⟨w.heap.size + 1, 0, none⟩)]) ∧
      w' = (w.alloc (.cells #[.slice sv len cap] 40)).alloc (.cells #[.int .i64 m] 3) := by
  refine callsIn_of_wp Tryd.func88 rfl h27 ?_ hro
  simp only [Tryd.ntmps88, List.size_toArray, List.length_cons, List.length_nil, Nat.reduceAdd, Nat.reduceSub, Array.replicate_succ, Array.replicate_zero, List.push_toArray, List.append_toArray, List.nil_append, List.cons_append]
  gi_wp2
  go_ret
  exact ⟨rfl, rfl⟩

/-- The symbols below k of length m, in order. -/
def ofF (zs : List Int) (m : Int) : Nat → List (Fin zs.length)
  | 0 => []
  | k + 1 => ofF zs m k ++ (if h : k < zs.length then (if zs[k]?.getD 0 = m then [⟨k, h⟩] else []) else [])
theorem ofF_yes (zs : List Int) (m : Int) (k : Nat) (h : k < zs.length) (e : zs[k]?.getD 0 = m) : ofF zs m (k + 1) = ofF zs m k ++ [⟨k, h⟩] := by
  rw [ofF, dif_pos h, if_pos e]
theorem ofF_no (zs : List Int) (m : Int) (k : Nat) (e : ¬ zs[k]?.getD 0 = m) : ofF zs m (k + 1) = ofF zs m k := by
  rw [ofF]
  by_cases h : k < zs.length
  · rw [dif_pos h, if_neg e, List.append_nil]
  · rw [dif_neg h, List.append_nil]
theorem ofF_length (zs : List Int) (m : Int) (k : Nat) : (ofF zs m k).length ≤ k := by
  induction k with
  | zero => simp [ofF]
  | succ k ih =>
    rw [ofF, List.length_append]
    split
    · split <;> simp <;> omega
    · simp; omega

set_option maxRecDepth 100000 in
set_option maxHeartbeats 2000000 in
theorem ofl_in (F : Fence) (n : Nat) (h43 : F.fn 95) (hro : F.round = none) (hn : 1 ≤ n) (l B0 : Nat) (S : Nat → Prop) (m : Int) (sv : Value) (zs : List Int) (hl : zs.length ≤ 140737488355328)
    (hS1 : S (B0 + 1)) (J Jx : List (Fin zs.length) → World → Prop)
    (hY : ∀ pre x W, J pre W → pre.length < zs.length → YieldAt F (n - 1) Tryd.prog l #[.int .i64 ((x : Fin zs.length).1 : Int)] W fun e W' =>
      (e = .returned (.bool true) ∧ J (pre ++ [x]) W' ∧ Kept S W W') ∨ (e = .returned (.bool false) ∧ Jx (pre ++ [x]) W'))
    (W : World) (c0 : W.cell? ⟨B0, 0, none⟩ = some sv) (c1 : W.cell? ⟨B0 + 1, 0, none⟩ = some (.int .i64 m))
    (hI : IntsIn S W sv zs) (h0 : J [] W) :
    CallsIn F n Tryd.prog 95 #[.func (.yield l) #[] #[], .pointer (some ⟨B0, 0, none⟩), .pointer (some ⟨B0 + 1, 0, none⟩)] W fun e W' => (∃ v, e = .returned v) ∧
      ((∃ ys, ys = ofF zs m zs.length ∧ J ys W') ∨ (∃ pre, (∃ k, k ≤ zs.length ∧ pre = ofF zs m k) ∧ Jx pre W')) := by
  obtain ⟨a, cap, rfl⟩ : ∃ a cap, sv = .slice a zs.length cap := by
    rcases hI with ⟨rfl, a, cap, rfl⟩ | ⟨b, off, cap, rfl, _⟩
    · exact ⟨a, cap, rfl⟩
    · exact ⟨_, _, rfl⟩
  refine callsIn_of_wp Tryd.func95 rfl h43 ?_ hro
  simp only [Tryd.ntmps95, List.size_toArray, List.length_cons, List.length_nil, Nat.reduceAdd, Nat.reduceSub, Array.replicate_succ, Array.replicate_zero, List.push_toArray, List.append_toArray, List.nil_append, List.cons_append]
  gi_wp2
  gi_loopw [8] (fun i wr => ∃ k : Nat, k ≤ zs.length ∧ i = .int .i64 k ∧ J (ofF zs m k) wr ∧ Kept S W wr)
    (fun i _ => zs.length - (intOf i).toNat)
  case atStart => exact ⟨0, Nat.zero_le _, rfl, h0, Kept.refl _ _⟩
  case round =>
    obtain ⟨k, hk, rfl, hJs, hnx⟩ := hrel
    by_cases hlt : k < zs.length
    · obtain ⟨b, off, rfl, hb, hc⟩ := hI.at k hlt
      have c1' := (hnx.cell (p := ⟨B0 + 1, 0, none⟩) hS1).trans c1
      have hcx := (hnx.cell (p := ⟨b, off + k, none⟩) hb).trans hc
      by_cases heq : zs[k]?.getD 0 = m
      · have HF : Hid (ofF zs m (k + 1) = ofF zs m k ++ [⟨k, hlt⟩]) := ofF_yes zs m k hlt heq
        obtain ⟨fn, tmps, assign, body, hy, hR⟩ := hY _ (⟨k, hlt⟩ : Fin zs.length) wr hJs (by have := ofF_length zs m k; omega)
        rw [heq] at hcx
        clear hc c0 c1 heq
        have ht : (m == m) = true := by simp
        simp only at hy
        gi_wp2
        refine hR.mono ?_
        rintro e W3 (⟨rfl, hJ3, hk3⟩ | ⟨rfl, hJx3⟩)
        · gi_wp2
          go_roundw
          case rel => exact ⟨k + 1, by omega, by simp, by rw [HF.out]; exact hJ3, hnx.trans hk3⟩
          case measure => simp [intOf]; omega
        · gi_wp2
          refine bodyPost_ret (results_none rfl _ _ _) rfl ?_
          exact ⟨⟨_, rfl⟩, .inr ⟨_, ⟨k + 1, by omega, HF.out.symm⟩, hJx3⟩⟩
      · have HF : Hid (ofF zs m (k + 1) = ofF zs m k) := ofF_no zs m k heq
        generalize zs[k]?.getD 0 = z at hcx heq
        have ht : (z == m) = false := by simpa using heq
        clear hc c0 c1 heq
        gi_wp2
        refine ⟨(fun f hf => by cases hf), ?_⟩
        gi_wp2
        go_roundw
        case rel => exact ⟨k + 1, by omega, by simp, by rw [HF.out]; exact hJs, hnx⟩
        case measure => simp [intOf]; omega
    · obtain rfl : k = zs.length := by omega
      clear hI c0 c1
      gi_wp2
      go_end0
      exact ⟨⟨_, rfl⟩, .inl ⟨_, rfl, hJs⟩⟩

/-- The iterator's contract: all symbols of this length, in order; or the first of them. -/
theorem ofl_stops (F : Fence) (n : Nat) (h43 : F.fn 95) (hro : F.round = none) (hn : 1 ≤ n) (B0 : Nat) (S : Nat → Prop) (m : Int) (sv : Value) (zs : List Int) (hl : zs.length ≤ 140737488355328)
    (hS1 : S (B0 + 1)) (w : World) (hS : ∀ k, S k → k < w.heap.size) (hB : B0 < w.heap.size)
    (c0 : w.cell? ⟨B0, 0, none⟩ = some sv) (c1 : w.cell? ⟨B0 + 1, 0, none⟩ = some (.int .i64 m)) (hI : IntsIn S w sv zs) :
    SeqStopsK F n Tryd.prog 95 #[.pointer (some ⟨B0, 0, none⟩), .pointer (some ⟨B0 + 1, 0, none⟩)] (fun x : Fin zs.length => #[Value.int .i64 (x.1 : Int)]) (Kept S)
      (fun ys => ys = ofF zs m zs.length) (fun pre => ∃ k, k ≤ zs.length ∧ pre = ofF zs m k) zs.length w := fun l J Jx W hW _ _ hY h0 =>
  ofl_in F n h43 hro hn l B0 S m sv zs hl hS1 J Jx hY W ((hW.cell (p := ⟨B0, 0, none⟩) hB).trans c0) ((hW.cell (p := ⟨B0 + 1, 0, none⟩) (hS _ hS1)).trans c1) (hI.kept (Kept.of_below hW hS)) h0
end Go.Proofs.YtinbilbgipfemaaDoor
/- slices.Backward over the rows: the last first. -/
namespace Go.Proofs.YtinbilbgipfemaaDoor
open Go.RowKit Go.Shelf

attribute [local go_sem] Oper.semAt_some

set_option maxHeartbeats 1000000 in
theorem backward_in (F : Fence) (n : Nat) (h46 : F.fn 90) (hro : F.round = none) (sv : Option Addr) (len cap : Nat) (w : World) :
    CallsIn F n Tryd.prog 90 #[.slice sv len cap] w fun e w' => e = .returned (.func (.func 98) #[] #[.pointer (some ⟨w.heap.size, 0, none⟩)]) ∧ w' = w.alloc (.cells #[.slice sv len cap] 134) := by
  refine callsIn_of_wp Tryd.func90 rfl h46 ?_ hro
  simp only [Tryd.ntmps90, List.size_toArray, List.length_cons, List.length_nil, Nat.reduceAdd, Nat.reduceSub, Array.replicate_succ, Array.replicate_zero, List.push_toArray, List.append_toArray, List.nil_append, List.cons_append]
  gi_wp2
  go_ret
  exact ⟨rfl, rfl⟩

set_option maxRecDepth 100000 in
set_option maxHeartbeats 2000000 in
theorem bwd_seq (F : Fence) (n : Nat) (h52 : F.fn 98) (hro : F.round = none) (hn : 1 ≤ n) (B0 GA limit : Nat) (S : Nat → Prop) (sv : Nat → Value) (hS0 : S B0) (hSG : S GA) (h15 : limit ≤ 15) (w : World) (hSw : ∀ k, S k → k < w.heap.size)
    (c0 : w.cell? ⟨B0, 0, none⟩ = some (.slice (some ⟨GA, 0, none⟩) limit limit)) (cs : ∀ i, i < limit → w.cell? ⟨GA, i, none⟩ = some (sv i)) :
    SeqRel F n Tryd.prog 98 #[.pointer (some ⟨B0, 0, none⟩)] (fun x : Fin limit => #[Value.int .i64 (x.1 : Int), sv x.1]) (Kept S) (fun pre x => x.1 + 1 + pre.length = limit) (fun xs => xs.length = limit) w := by
  intro l J W hW hY h0
  have hKW : Kept S w W := Kept.of_below hW hSw
  have c0' := (hKW.cell (p := ⟨B0, 0, none⟩) hS0).trans c0
  have cs' : ∀ i, i < limit → W.cell? ⟨GA, i, none⟩ = some (sv i) := fun i hi => (hKW.cell (p := ⟨GA, i, none⟩) hSG).trans (cs i hi)
  clear hW hKW c0 cs
  refine callsIn_of_wp Tryd.func98 rfl h52 ?_ hro
  simp only [Tryd.ntmps98, List.size_toArray, List.length_cons, List.length_nil, Nat.reduceAdd, Nat.reduceSub, Array.replicate_succ, Array.replicate_zero, List.push_toArray, List.append_toArray, List.nil_append, List.cons_append]
  gi_wp2
  gi_loopw [3] (fun i wr => ∃ (pre : List (Fin limit)), pre.length ≤ limit ∧ i = .int .i64 ((limit : Int) - 1 - pre.length) ∧ J pre wr ∧ Kept S W wr)
    (fun i _ => (intOf i + 1).toNat)
  case atStart => exact ⟨[], Nat.zero_le _, by simp, h0, Kept.refl _ _⟩
  case round =>
    obtain ⟨pre, hk, rfl, hJs, hnx⟩ := hrel
    by_cases hlt : pre.length < limit
    · obtain ⟨i, hi⟩ : ∃ i, i + 1 + pre.length = limit := ⟨limit - 1 - pre.length, by omega⟩
      have ei : (limit : Int) - 1 - pre.length = (i : Int) := by omega
      have d0 := (hnx.cell (p := ⟨B0, 0, none⟩) hS0).trans c0'
      have d1 := (hnx.cell (p := ⟨GA, i, none⟩) hSG).trans (cs' i (by omega))
      have hil : i < limit := by omega
      have HY : ∃ fn tmps assign body, (Instr.yield l #[.int .i64 (i : Int), sv i]).run Tryd.prog wr = .ok (.round l fn tmps assign body) wr ∧ RoundIn F (n - 1) Tryd.prog l fn tmps assign body wr fun e V' => e = .returned (.bool true) ∧ J (pre ++ [⟨i, hil⟩]) V' ∧ Kept S wr V' := hY pre (⟨i, hil⟩ : Fin limit) wr hJs hi
      obtain ⟨fn, tmps, assign, body, hy, hR⟩ := HY
      rw [ei]
      have HJ : Hid (pre.length + 1 ≤ limit) := hlt
      have HI : Hid (i + 1 + pre.length = limit) := hi
      clear c0' cs' hlt hi ei hk
      generalize sv i = v at d1 hy
      gi_wp2
      refine hR.mono ?_
      rintro e W3 ⟨rfl, hJ3, hk3⟩
      gi_wp2
      go_roundw
      case rel => exact ⟨pre ++ [⟨i, hil⟩], by simp; exact HJ.out, by have := HI.out; simp; omega, hJ3, hnx.trans hk3⟩
      case measure => simp [intOf]
    · have e : pre.length = limit := by omega
      have ei : (limit : Int) - 1 - pre.length = -1 := by omega
      rw [ei]
      clear c0' cs' hlt ei hk
      gi_wp2
      go_end0
      exact ⟨⟨_, rfl⟩, _, e, hJs⟩
end Go.Proofs.YtinbilbgipfemaaDoor
/- Runs of lengths: what is none counts as 0; the symbol that tells the most. -/
namespace Go.Proofs.YtinbilbgipfemaaDoor
open Go.RowKit Go.Shelf

def cln (z : Int) : Int := if z < 0 ∨ 15 < z then 0 else z
theorem cln_bd (z : Int) : 0 ≤ cln z ∧ cln z ≤ 15 := by unfold cln; split <;> omega

set_option maxRecDepth 100000 in
set_option maxHeartbeats 400000 in
theorem clean_any (z : Int) (w : World) : Calls Tryd.prog 44 #[.int .i64 z] w fun e w' => e = .returned (.int .i64 (cln z)) ∧ w' = w := by
  by_cases h : z < 0
  · have e : Hid (cln z = 0) := by show _ = _; unfold cln; rw [if_pos (.inl h)]
    go_enter Tryd.func44, Tryd.ntmps44
    go_wp2
    go_ret
    exact ⟨by rw [e.out]; rfl, rfl⟩
  · by_cases h2 : 15 < z
    · have e : Hid (cln z = 0) := by show _ = _; unfold cln; rw [if_pos (.inr h2)]
      go_enter Tryd.func44, Tryd.ntmps44
      go_wp2
      go_ret
      exact ⟨by rw [e.out]; rfl, rfl⟩
    · have e : Hid (cln z = z) := by show _ = _; unfold cln; rw [if_neg (by omega)]
      go_enter Tryd.func44, Tryd.ntmps44
      go_wp2
      go_ret
      exact ⟨by rw [e.out]; rfl, rfl⟩

/-- The symbol that tells the most of so many times a length, and how many it tells at least. -/
def symOf (len : Int) (t : Nat) : Int × Nat := if t < 3 then (len, 1) else if 0 < len then (16, 3) else if t < 11 then (17, 3) else (18, 11)
def bitsN (s : Int) : Nat := if s = 16 then 2 else if s = 17 then 3 else if s = 18 then 7 else 0

set_option maxRecDepth 100000 in
set_option maxHeartbeats 400000 in
theorem runSymbol_any (len : Int) (t : Nat) (w : World) (ht : t ≤ 140737488355328) : Calls Tryd.prog 27 #[.int .i64 len, .int .i64 (t : Int)] w fun e w' => e = .returned (.tuple #[.int .i64 (symOf len t).1, .int .i64 ((symOf len t).2 : Int)]) ∧ w' = w := by
  by_cases h1 : t < 3
  · have e : Hid (symOf len t = (len, 1)) := by show _ = _; simp [symOf, h1]
    have t1 : (t : Int) < 3 := by omega
    go_enter Tryd.func27, Tryd.ntmps27
    go_wp2
    exact bodyPost_ret (v := .tuple #[.int .i64 len, .int .i64 1]) (by simp [results, Tryd.f27, go_sem]) rfl ⟨by rw [e.out]; rfl, rfl⟩
  have t1 : ¬ ((t : Int) < 3) := by omega
  by_cases h2 : 0 < len
  · have e : Hid (symOf len t = (16, 3)) := by show _ = _; simp [symOf, h1, h2]
    go_enter Tryd.func27, Tryd.ntmps27
    go_wp2
    exact bodyPost_ret (v := .tuple #[.int .i64 16, .int .i64 3]) (by simp [results, Tryd.f27, go_sem]) rfl ⟨by rw [e.out]; rfl, rfl⟩
  by_cases h3 : t < 11
  · have e : Hid (symOf len t = (17, 3)) := by show _ = _; simp [symOf, h1, h2, h3]
    have t3 : (t : Int) < 11 := by omega
    go_enter Tryd.func27, Tryd.ntmps27
    go_wp2
    exact bodyPost_ret (v := .tuple #[.int .i64 17, .int .i64 3]) (by simp [results, Tryd.f27, go_sem]) rfl ⟨by rw [e.out]; rfl, rfl⟩
  · have e : Hid (symOf len t = (18, 11)) := by show _ = _; simp [symOf, h1, h2, h3]
    have t3 : ¬ ((t : Int) < 11) := by omega
    go_enter Tryd.func27, Tryd.ntmps27
    go_wp2
    exact bodyPost_ret (v := .tuple #[.int .i64 18, .int .i64 11]) (by simp [results, Tryd.f27, go_sem]) rfl ⟨by rw [e.out]; rfl, rfl⟩

set_option maxRecDepth 100000 in
set_option maxHeartbeats 400000 in
theorem runBits_any (s : Int) (w : World) : Calls Tryd.prog 28 #[.int .i64 s] w fun e w' => e = .returned (.int .i64 (bitsN s : Int)) ∧ w' = w := by
  by_cases h1 : s = 16
  · subst h1
    go_enter Tryd.func28, Tryd.ntmps28
    go_wp2
    go_ret
    exact ⟨rfl, rfl⟩
  have e1 : (s == 16) = false := by simpa using h1
  by_cases h2 : s = 17
  · subst h2
    go_enter Tryd.func28, Tryd.ntmps28
    go_wp2
    go_ret
    exact ⟨rfl, rfl⟩
  have e2 : (s == 17) = false := by simpa using h2
  by_cases h3 : s = 18
  · subst h3
    go_enter Tryd.func28, Tryd.ntmps28
    go_wp2
    go_ret
    exact ⟨rfl, rfl⟩
  have e3 : (s == 18) = false := by simpa using h3
  have e : Hid (bitsN s = 0) := by show _ = _; simp [bitsN, h1, h2, h3]
  go_enter Tryd.func28, Tryd.ntmps28
  go_wp2
  go_ret
  exact ⟨by rw [e.out]; rfl, rfl⟩

set_option maxRecDepth 100000 in
set_option maxHeartbeats 400000 in
theorem runs_any (sv : Option Addr) (len cap : Nat) (w : World) :
    Calls Tryd.prog 26 #[.slice sv len cap] w fun e w' => e = .returned (.func (.func 43) #[] #[.pointer (some ⟨w.heap.size, 0, none⟩)]) ∧ w' = w.alloc (.cells #[.slice sv len cap] 40) := by
  go_enter Tryd.func26, Tryd.ntmps26
  go_wp2
  go_ret
  exact ⟨rfl, rfl⟩
end Go.Proofs.YtinbilbgipfemaaDoor
/- The iterator over runs of lengths. -/
namespace Go.Proofs.YtinbilbgipfemaaDoor
open Go.RowKit Go.Shelf

attribute [local go_sem] Oper.semAt_some

def tot : List (Int × Nat) → Nat
  | [] => 0
  | x :: xs => x.2 + tot xs
theorem tot_snoc (pre : List (Int × Nat)) (x : Int × Nat) : tot (pre ++ [x]) = tot pre + x.2 := by
  induction pre with
  | nil => simp [tot]
  | cons y ys ih => simp [tot, ih]; omega

/-- What may come next: a run of the row. -/
def RunOf (zs : List Int) (pre : List (Int × Nat)) (x : Int × Nat) : Prop :=
  1 ≤ x.2 ∧ tot pre + x.2 ≤ zs.length ∧ (0 ≤ x.1 ∧ x.1 ≤ 15) ∧ ∀ j, tot pre ≤ j → j < tot pre + x.2 → cln (zs[j]?.getD 0) = x.1

set_option maxRecDepth 100000 in
set_option maxHeartbeats 4000000 in
theorem runs_seq (n : Nat) (B0 : Nat) (a : Option Addr) (cap : Nat) (zs : List Int) (S : Nat → Prop) (hS0 : S B0) (w : World) (hSw : ∀ k, S k → k < w.heap.size) (hlen : zs.length ≤ 17592186043904)
    (c0 : w.cell? ⟨B0, 0, none⟩ = some (.slice a zs.length cap)) (hI : IntsIn S w (.slice a zs.length cap) zs) :
    SeqRel Fence.wide n Tryd.prog 43 #[.pointer (some ⟨B0, 0, none⟩)] (fun x : Int × Nat => #[Value.int .i64 x.1, .int .i64 (x.2 : Int)]) (Kept S) (RunOf zs) (fun xs => tot xs = zs.length) w := by
  intro l J W hW hY h0
  have hKW : Kept S w W := Kept.of_below hW hSw
  have c0' := (hKW.cell (p := ⟨B0, 0, none⟩) hS0).trans c0
  have hI' := hI.kept hKW
  clear hW hKW c0 hI
  refine callsIn_of_wp Tryd.func43 rfl trivial ?_ rfl
  simp only [Tryd.ntmps43, List.size_toArray, List.length_cons, List.length_nil, Nat.reduceAdd, Nat.reduceSub, Array.replicate_succ, Array.replicate_zero, List.push_toArray, List.append_toArray, List.nil_append, List.cons_append]
  gi_wp2
  gi_loopw [3] (fun v3 wr => ∃ pre : List (Int × Nat), v3 = .int .i64 (tot pre : Int) ∧ tot pre ≤ zs.length ∧ J pre wr ∧ Kept S W wr) (fun v3 _ => zs.length - (intOf v3).toNat)
  case atStart => exact ⟨[], rfl, Nat.zero_le _, h0, Kept.refl _ _⟩
  case round =>
    obtain ⟨pre, rfl, hle, hJ, hK⟩ := hrel
    have d0 := (hK.cell (p := ⟨B0, 0, none⟩) hS0).trans c0'
    have hIr := hI'.kept hK
    by_cases hlt : tot pre < zs.length
    rotate_left
    · have HE : Hid (tot pre = zs.length) := by show _ = _; omega
      have t1 : ¬ ((tot pre : Int) < (zs.length : Int)) := by omega
      clear hY hIr hI' hK
      gi_wp2
      go_end0
      exact ⟨⟨_, rfl⟩, pre, HE.out, hJ⟩
    obtain ⟨b, off, rfl, hSb, q0⟩ := hIr.at (tot pre) hlt
    have HQC : Hid (∀ j, j < zs.length → wr.cell? ⟨b, off + j, none⟩ = some (.int .i64 (zs[j]?.getD 0))) := by
      intro j hj
      obtain ⟨b', off', e, _, q⟩ := hIr.at j hj
      simp only [Option.some.injEq, Addr.mk.injEq, and_true] at e
      obtain ⟨rfl, rfl⟩ := e
      exact q
    obtain ⟨z, HZ⟩ : ∃ z, Hid (zs[tot pre]?.getD 0 = z) := ⟨_, rfl⟩
    rw [HZ.out] at q0
    have HC : Hid (Calls Tryd.prog 44 #[.int .i64 z] wr fun e w' => e = .returned (.int .i64 (cln z)) ∧ w' = wr) := clean_any _ wr
    clear hIr hI'
    gi_wp2_with fail
    refine ⟨trivial, (fun h => by cases h), (callsIn_wide.2 HC.out).mono ?_⟩
    clear HC
    rintro e w1 ⟨rfl, rfl⟩
    obtain ⟨ln, HLN⟩ : ∃ ln, Hid (cln z = ln) := ⟨_, rfl⟩
    rw [HLN.out]
    have HB : Hid (0 ≤ ln ∧ ln ≤ 15) := by rw [← HLN.out]; exact cln_bd _
    have hwp : IntKind.i64.wrap ((tot pre : Int) + 1) = (tot pre : Int) + 1 := by simp [IntKind.wrap, IntKind.bits, IntKind.signed]; omega
    gi_wp2
    gi_loopw [4] (fun v4 wq => ∃ nx : Nat, v4 = .int .i64 (nx : Int) ∧ tot pre < nx ∧ nx ≤ zs.length ∧ Hid (∀ j, tot pre ≤ j → j < nx → cln (zs[j]?.getD 0) = ln) ∧ wq = w1) (fun v4 _ => zs.length - (intOf v4).toNat)
    case atStart =>
      refine ⟨tot pre + 1, by go_num, by omega, by omega, ?_, rfl⟩
      intro j h1 h2
      obtain rfl : j = tot pre := by omega
      rw [HZ.out]
      exact HLN.out
    case round =>
      obtain ⟨nx, rfl, hn1, hn2, HA, rfl⟩ := hrel
      by_cases hnl : nx < zs.length
      · obtain ⟨z2, HZ2⟩ : ∃ z2, Hid (zs[nx]?.getD 0 = z2) := ⟨_, rfl⟩
        have q2 := HQC.out nx hnl
        rw [HZ2.out] at q2
        have t1 : (nx : Int) < (zs.length : Int) := by omega
        have HC : Hid (Calls Tryd.prog 44 #[.int .i64 z2] wr fun e w' => e = .returned (.int .i64 (cln z2)) ∧ w' = wr) := clean_any _ wr
        gi_wp2_with fail
        refine ⟨trivial, (fun h => by cases h), (callsIn_wide.2 HC.out).mono ?_⟩
        clear HC
        rintro e wz ⟨rfl, hwz⟩
        subst hwz
        obtain ⟨l2, HL2⟩ : ∃ l2, Hid (cln z2 = l2) := ⟨_, rfl⟩
        rw [HL2.out]
        by_cases heq : l2 = ln
        · have e1 : (l2 == ln) = true := by simpa using heq
          have HA2 : Hid (∀ j, tot pre ≤ j → j < nx + 1 → cln (zs[j]?.getD 0) = ln) := by
            intro j h1 h2
            by_cases hj : j = nx
            · subst hj; rw [HZ2.out, HL2.out]; exact heq
            · exact HA.out j h1 (by omega)
          have HNL : Hid (tot pre < nx + 1 ∧ nx + 1 ≤ zs.length) := ⟨by omega, by omega⟩
          have hwn : IntKind.i64.wrap ((nx : Int) + 1) = (nx : Int) + 1 := by simp [IntKind.wrap, IntKind.bits, IntKind.signed]; omega
          clear hY HA heq
          gi_wp2
          exact ⟨⟨nx + 1, by go_num, HNL.out.1, HNL.out.2, HA2, trivial⟩, by have := HNL.out; simp [intOf]; omega⟩
        · have e1 : (l2 == ln) = false := by simpa using heq
          clear heq HL2 HZ2
          have hRO : RunOf zs pre (ln, nx - tot pre) := ⟨by show 1 ≤ nx - tot pre; omega, by show tot pre + (nx - tot pre) ≤ zs.length; omega, HB.out, fun j h1 h2 => HA.out j h1 (by have : j < tot pre + (nx - tot pre) := h2; omega)⟩
          obtain ⟨fn, tmps, assign, body, hy, hRd⟩ := hY pre (ln, nx - tot pre) wz hJ hRO
          have HTS : Hid (tot (pre ++ [(ln, nx - tot pre)]) = nx) := by show _ = _; rw [tot_snoc]; show tot pre + (nx - tot pre) = nx; omega
          have HTL : Hid (tot pre < nx ∧ nx ≤ zs.length) := ⟨by omega, by omega⟩
          simp only at hy
          rw [show ((nx - tot pre : Nat) : Int) = (nx : Int) - (tot pre : Int) by omega] at hy
          have hws : IntKind.i64.wrap ((nx : Int) - (tot pre : Int)) = (nx : Int) - (tot pre : Int) := by simp [IntKind.wrap, IntKind.bits, IntKind.signed]; omega
          clear hY hJ hRO HA HB
          gi_wp2
          refine ⟨(fun h => by cases h), hRd.mono ?_⟩
          rintro e w9 ⟨rfl, hJ9, hk9⟩
          clear hRd hy
          gi_wp2
          exact ⟨⟨pre ++ [(ln, nx - tot pre)], by rw [HTS.out], by rw [HTS.out]; exact HTL.out.2, hJ9, hK.trans hk9⟩, by have := HTL.out; simp [intOf]; omega⟩
      · obtain rfl : nx = zs.length := by omega
        have hRO : RunOf zs pre (ln, zs.length - tot pre) := ⟨by show 1 ≤ zs.length - tot pre; omega, by show tot pre + (zs.length - tot pre) ≤ zs.length; omega, HB.out, fun j h1 h2 => HA.out j h1 (by have : j < tot pre + (zs.length - tot pre) := h2; omega)⟩
        obtain ⟨fn, tmps, assign, body, hy, hRd⟩ := hY pre (ln, zs.length - tot pre) wr hJ hRO
        have HTS : Hid (tot (pre ++ [(ln, zs.length - tot pre)]) = zs.length) := by show _ = _; rw [tot_snoc]; show tot pre + (zs.length - tot pre) = zs.length; omega
        have HTL : Hid (tot pre < zs.length ∧ zs.length ≤ zs.length) := ⟨by omega, by omega⟩
        simp only at hy
        rw [show ((zs.length - tot pre : Nat) : Int) = (zs.length : Int) - (tot pre : Int) by omega] at hy
        have hws : IntKind.i64.wrap ((zs.length : Int) - (tot pre : Int)) = (zs.length : Int) - (tot pre : Int) := by simp [IntKind.wrap, IntKind.bits, IntKind.signed]; omega
        clear hY hJ hRO HA HB
        gi_wp2
        refine ⟨trivial, ?_⟩
        gi_wp2
        refine ⟨(fun h => by cases h), hRd.mono ?_⟩
        rintro e w9 ⟨rfl, hJ9, hk9⟩
        clear hRd hy
        gi_wp2
        exact ⟨⟨pre ++ [(ln, zs.length - tot pre)], by rw [HTS.out], by rw [HTS.out]; exact HTL.out.2, hJ9, hK.trans hk9⟩, by have := HTL.out; simp [intOf]; omega⟩
end Go.Proofs.YtinbilbgipfemaaDoor
/- The symbol that is told next adds what it should: the plain step. -/
namespace Go.Proofs.YtinbilbgipfemaaDoor

def topOf (len : Int) (t : Nat) : Nat := (symOf len t).2 + 2 ^ bitsN (symOf len t).1 - 1
theorem sym_step (done : List Int) (len : Int) (t many : Nat) (h : 1 ≤ t) (hl : 0 ≤ len ∧ len ≤ 15) (hlast : 0 < len → 1 ≤ done.length ∧ done[done.length - 1]?.getD 0 = len) (hm : many = min t (topOf len t)) :
    1 ≤ many ∧ many ≤ t ∧ (symOf len t).2 ≤ many ∧ stepT done ((symOf len t).1, (many : Int) - ((symOf len t).2 : Int)) = some (done ++ List.replicate many len) := by
  unfold topOf at hm
  unfold symOf at *
  by_cases h1 : t < 3
  · rw [if_pos h1] at *
    have hb : bitsN len = 0 := by unfold bitsN; rw [if_neg (by omega), if_neg (by omega), if_neg (by omega)]
    simp only [hb] at hm
    obtain rfl : many = 1 := by simp at hm; omega
    refine ⟨by omega, by omega, by omega, ?_⟩
    unfold stepT
    rw [if_pos ⟨hl.1, by show len < 16; omega, by simp⟩]
    rfl
  · rw [if_neg h1] at *
    by_cases h2 : 0 < len
    · rw [if_pos h2] at *
      have hb : bitsN 16 = 2 := rfl
      simp only [hb] at hm
      have hm' : many = min t 6 := by simpa using hm
      refine ⟨by omega, by omega, by omega, ?_⟩
      unfold stepT
      rw [if_neg (by simp), if_pos ⟨rfl, by show (0 : Int) ≤ (many : Int) - 3; omega, by show (many : Int) - 3 ≤ 3; omega, (hlast h2).1⟩]
      show some (done ++ List.replicate (3 + ((many : Int) - 3)).toNat (done[done.length - 1]?.getD 0)) = _
      rw [(hlast h2).2, show (3 + ((many : Int) - 3)).toNat = many by omega]
    · rw [if_neg h2] at *
      obtain rfl : len = 0 := by omega
      by_cases h3 : t < 11
      · rw [if_pos h3] at *
        have hb : bitsN 17 = 3 := rfl
        simp only [hb] at hm
        have hm' : many = min t 10 := by simpa using hm
        refine ⟨by omega, by omega, by omega, ?_⟩
        unfold stepT
        rw [if_neg (by simp), if_neg (by simp), if_pos ⟨rfl, by show (0 : Int) ≤ (many : Int) - 3; omega, by show (many : Int) - 3 ≤ 7; omega⟩]
        show some (done ++ List.replicate (3 + ((many : Int) - 3)).toNat 0) = _
        rw [show (3 + ((many : Int) - 3)).toNat = many by omega]
      · rw [if_neg h3] at *
        have hb : bitsN 18 = 7 := rfl
        simp only [hb] at hm
        have hm' : many = min t 138 := by simpa using hm
        refine ⟨by omega, by omega, by omega, ?_⟩
        unfold stepT
        rw [if_neg (by simp), if_neg (by simp), if_neg (by simp), if_pos ⟨rfl, by show (0 : Int) ≤ (many : Int) - 11; omega, by show (many : Int) - 11 ≤ 127; omega⟩]
        show some (done ++ List.replicate (11 + ((many : Int) - 11)).toNat 0) = _
        rw [show (11 + ((many : Int) - 11)).toNat = many by omega]
end Go.Proofs.YtinbilbgipfemaaDoor
