import Derived.Test.YtinbilbgipfemaaDoorBlkM
import Derived.Laws.ResultCell
import Derived.Laws.EntriesVeiled
/- The way without any symbol; the cheapest way at the lowest level. -/
namespace Go.Proofs.YtinbilbgipfemaaDoor
open Go.RowKit

/-- How many bits a stored block has. -/
def storedN (at' len : Nat) : Nat := 3 + (8 - (at' + 3) % 8) % 8 + 32 + 8 * len

set_option maxRecDepth 100000 in
set_option maxHeartbeats 1000000 in
theorem stored_any (K at' : Nat) (a : Option Addr) (len cap : Nat) (w : World) (h0 : w.cell? ⟨K, 0, none⟩ = some (.slice a len cap)) (hat : at' < 140737488355328) (hl : len < 140737488355328) :
    Calls Tryd.prog 35 #[.pointer (some ⟨K, 0, none⟩), .int .i64 (at' : Int)] w fun e w' => ∃ B, e = .returned (.agg #[.int .i64 (storedN at' len : Int), .func (.func 51) #[] #[.pointer (some ⟨B, 0, none⟩)]]) ∧ w.heap.size ≤ B ∧ B < w'.heap.size ∧ w'.cell? ⟨B, 0, none⟩ = some (.pointer (some ⟨K, 0, none⟩)) ∧ Below w.heap.size w w' := by
  have e1 : IntKind.i64.wrap ((at' : Int) + 3) = ((at' + 3 : Nat) : Int) := by simp [IntKind.wrap, IntKind.bits, IntKind.signed]; omega
  have hB : Below w.heap.size w ((w.alloc (.cells #[.pointer (some ⟨K, 0, none⟩)] 76)).alloc (.cells #[.int .i64 0, .nilFunc] 58)) := ((Below.refl _ w).alloc (Nat.le_refl _) _).alloc (by simp) _
  have hc := (hB.cell (p := ⟨K, 0, none⟩) (World.block_lt_of_cell? _ _ h0)).trans h0
  go_enter Tryd.func35, Tryd.ntmps35
  go_wp2
  have hn' : (3 + -((((at' : Nat) : Int) + 3) % 8) % 8 + 32 + 8 * (len : Int)) = (storedN at' len : Int) := by unfold storedN; omega
  rw [hn']
  refine bodyPost_ret (v := .agg #[.int .i64 (storedN at' len : Int), .func (.func 51) #[] #[.pointer (some ⟨w.heap.size, 0, none⟩)]]) (results_cell_row rfl _ _ (w.heap.size + 1) 58 _ (0, 0) _ rfl (heap_alloc2_new w _ _) Tryd.underlying58 rfl (by kernel_rfl)) rfl ⟨w.heap.size, rfl, Nat.le_refl _, by simp; omega, ?_, ?_⟩
  · simp
  · exact ((Below.refl _ w).alloc (Nat.le_refl _) _).alloc (by simp) _

set_option maxRecDepth 100000 in
set_option maxHeartbeats 1000000 in
theorem minOne_any (G c : Nat) (s : Int) (fn : Fn) (f1 f2 : Array Value) (f : Value) (w : World) (h0 : w.cell? ⟨G, 0, none⟩ = some (.int .i64 s)) (h1 : w.cell? ⟨G, 1, none⟩ = some (.func fn f1 f2)) :
    Calls Tryd.prog 38 #[.slice (some ⟨G, 0, none⟩) 1 c, f] w fun e w' => e = .returned (.agg #[.int .i64 s, .func fn f1 f2]) ∧ Below w.heap.size w w' := by
  have hB : Below w.heap.size w (w.alloc (.cells #[.int .i64 0, .nilFunc] 58)) := (Below.refl _ w).alloc (Nat.le_refl _) _
  have c0 := (hB.cell (p := ⟨G, 0, none⟩) (World.block_lt_of_cell? _ _ h0)).trans h0
  have c1 := (hB.cell (p := ⟨G, 1, none⟩) (World.block_lt_of_cell? _ _ h1)).trans h1
  go_enter Tryd.func38, Tryd.ntmps38
  go_wp2
  go_loopw [6] (fun v6 wr => v6 = .int .i64 1 ∧ wr = (w.alloc (.cells #[.int .i64 0, .nilFunc] 58)).alloc (.cells #[.int .i64 s, .func fn f1 f2] 58)) (fun _ _ => 0)
  case atStart => exact ⟨rfl, rfl⟩
  case round =>
    obtain ⟨rfl, rfl⟩ := hrel
    go_wp2
    refine bodyPost_ret (v := .agg #[.int .i64 s, .func fn f1 f2]) (results_cell_row rfl _ _ w.heap.size 58 _ (0, 0) _ rfl ?_ Tryd.underlying58 rfl (by kernel_rfl)) rfl ⟨rfl, ?_⟩
    · rw [heap_alloc_old _ _ _ (by simp)]
      exact heap_alloc_new w _
    · exact ((Below.refl _ w).alloc (Nat.le_refl _) _).alloc (by simp) _

set_option maxRecDepth 100000 in
set_option maxHeartbeats 1000000 in
theorem cheapest0_any (K at' : Nat) (a : Option Addr) (len cap : Nat) (w : World) (h0 : w.cell? ⟨K, 0, none⟩ = some (.slice a len cap)) (hat : at' < 140737488355328) (hl : len < 140737488355328) :
    Calls Tryd.prog 20 #[.pointer (some ⟨K, 0, none⟩), .int .i64 0, .int .i64 (at' : Int)] w fun e w' => ∃ B, e = .returned (.agg #[.int .i64 (storedN at' len : Int), .func (.func 51) #[] #[.pointer (some ⟨B, 0, none⟩)]]) ∧ w.heap.size ≤ B ∧ B < w'.heap.size ∧ w'.cell? ⟨B, 0, none⟩ = some (.pointer (some ⟨K, 0, none⟩)) ∧ Below w.heap.size w w' := by
  have hB : Below w.heap.size w (w.alloc (.cells #[.int .i64 0, .nilFunc] 58)) := (Below.refl _ w).alloc (Nat.le_refl _) _
  have hR0 : Two (w.alloc (.cells #[.int .i64 0, .nilFunc] 58)) w.heap.size 58 (.int .i64 0) .nilFunc := Two.new w 58 _ _
  have c0 := (hB.cell (p := ⟨K, 0, none⟩) (World.block_lt_of_cell? _ _ h0)).trans h0
  have hs0 : (w.alloc (.cells #[.int .i64 0, .nilFunc] 58)).heap.size = w.heap.size + 1 := by simp
  have H1 : Hid (Calls Tryd.prog 35 #[.pointer (some ⟨K, 0, none⟩), .int .i64 (at' : Int)] (w.alloc (.cells #[.int .i64 0, .nilFunc] 58)) _) := stored_any K at' a len cap _ c0 hat hl
  go_enter Tryd.func20, Tryd.ntmps20
  go_wp2_with fail
  refine H1.out.mono ?_
  rw [hs0]
  clear H1 hs0
  rintro e w1 ⟨B, rfl, hB1, hB2, hB3, hb1⟩
  have hR1 : Two w1 w.heap.size 58 (.int .i64 0) .nilFunc := (hb1.block w.heap.size (by omega)).trans hR0
  generalize hsn : storedN at' len = sn
  have Hs : Hid (storedN at' len = sn) := hsn
  clear hsn
  generalize Hr : w1.alloc (.cells #[.int .i64 (sn : Int), .func (.func 51) #[] #[.pointer (some ⟨B, 0, none⟩)]] 58) = w2
  have d0 : w2.cell? ⟨w1.heap.size, 0, none⟩ = some (.int .i64 (sn : Int)) := by subst Hr; exact (Two.new w1 58 _ _).cell0
  have d1 : w2.cell? ⟨w1.heap.size, 1, none⟩ = some (.func (.func 51) #[] #[.pointer (some ⟨B, 0, none⟩)]) := by subst Hr; exact (Two.new w1 58 _ _).cell1
  have hb2 : Below w.heap.size w w2 := by
    subst Hr
    exact (hB.trans (hb1.mono (by omega))).alloc (by have := hR1.lt; omega) _
  have hR2 : Two w2 w.heap.size 58 (.int .i64 0) .nilFunc := by subst Hr; exact hR1.alloc _
  have hB4 : w2.cell? ⟨B, 0, none⟩ = some (.pointer (some ⟨K, 0, none⟩)) := by
    subst Hr
    exact (((Below.refl _ w1).alloc (Nat.le_refl _) _).cell (p := ⟨B, 0, none⟩) hB2).trans hB3
  have hB5 : B < w2.heap.size := World.block_lt_of_cell? _ _ hB4
  clear hR1 hB3 hB2 hR0 c0 h0 hB hb1
  have H2 : Hid (Calls Tryd.prog 38 #[.slice (some ⟨w1.heap.size, 0, none⟩) 1 1, .func (.func 39) #[] #[]] w2 _) := minOne_any w1.heap.size 1 _ _ _ _ _ w2 d0 d1
  go_wp2_with fail
  refine H2.out.mono ?_
  clear H2 d0 d1 Hr
  rintro e w3 ⟨rfl, hb3⟩
  have hR3 : Two w3 w.heap.size 58 (.int .i64 0) .nilFunc := (hb3.block w.heap.size hR2.lt).trans hR2
  have c0 := hR3.cell0
  have c1 := hR3.cell1
  have f0 := hR3.frozen 0
  have f1 := hR3.frozen 1
  have HF : Hid (B < w3.heap.size ∧ w3.cell? ⟨B, 0, none⟩ = some (.pointer (some ⟨K, 0, none⟩)) ∧ Below w.heap.size w w3) := ⟨Nat.lt_of_lt_of_le hB5 hb3.size, (hb3.cell (p := ⟨B, 0, none⟩) hB5).trans hB4, hb2.trans (hb3.mono hb2.size)⟩
  clear hB4 hB5 hb2 hb3 hR2
  go_wp2
  obtain ⟨q1, q2, q3⟩ := HF.out
  have hRe := (hR3.set0 (.int .i64 (sn : Int))).set1 (.func (.func 51) #[] #[.pointer (some ⟨B, 0, none⟩)])
  refine bodyPost_ret (v := .agg #[.int .i64 (sn : Int), .func (.func 51) #[] #[.pointer (some ⟨B, 0, none⟩)]]) (results_cell_row rfl _ _ w.heap.size 58 _ (0, 0) _ rfl hRe Tryd.underlying58 rfl (by kernel_rfl)) rfl ⟨B, by rw [Hs.out], by omega, ?_, ?_, ?_⟩
  · simpa using q1
  · have hk : Kept (fun k => k = B) w3 ((w3.setCell ⟨w.heap.size, 0, none⟩ (.int .i64 (sn : Int))).setCell ⟨w.heap.size, 1, none⟩ (.func (.func 51) #[] #[.pointer (some ⟨B, 0, none⟩)])) := ((Kept.refl _ w3).setCell (p := ⟨w.heap.size, 0, none⟩) (by show ¬ w.heap.size = B; omega) _).setCell (p := ⟨w.heap.size, 1, none⟩) (by show ¬ w.heap.size = B; omega) _
    exact (hk.cell (p := ⟨B, 0, none⟩) rfl).trans q2
  · have hk : Kept (fun k => k < w.heap.size) w3 ((w3.setCell ⟨w.heap.size, 0, none⟩ (.int .i64 (sn : Int))).setCell ⟨w.heap.size, 1, none⟩ (.func (.func 51) #[] #[.pointer (some ⟨B, 0, none⟩)])) := ((Kept.refl _ w3).setCell (p := ⟨w.heap.size, 0, none⟩) (by show ¬ w.heap.size < w.heap.size; omega) _).setCell (p := ⟨w.heap.size, 1, none⟩) (by show ¬ w.heap.size < w.heap.size; omega) _
    exact q3.trans (hk.below (fun _ h => h))
end Go.Proofs.YtinbilbgipfemaaDoor
