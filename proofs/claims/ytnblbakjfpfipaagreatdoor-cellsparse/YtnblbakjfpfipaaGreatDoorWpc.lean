import Derived.Test.YtnblbakjfpfipaaGreatDoorWlt
import Derived.Test.YtnblbakjfpfipaaGreatDoorWah
import Derived.Test.YtnblbakjfpfipaaGreatDoorOrdM
import Derived.Lib.AppendIntMem
import Derived.Lib.SmallJoins
/- What the library reads; fixed, place. -/
namespace Go.Proofs.YtnblbakjfpfipaaGreatDoor
open Go.RowKit

/-- The library's table of powers, and its own variable, lie as they lay. -/
structure Env (w : World) : Prop where
  tab : Lib.TabIs Tryz.prog w "internal/strconv.uint64pow10" .u64 Lib.pow10Tab
  max : ∃ m, w.cell? ⟨0, 0, none⟩ = some (.int .i64 m)
theorem cell_lt {w : World} {b o : Nat} {v : Value} (h : w.cell? ⟨b, o, none⟩ = some v) : b < w.heap.size := by
  by_cases hb : b < w.heap.size
  · exact hb
  · simp [World.cell?, Array.getElem?_eq_none (Nat.le_of_not_lt hb)] at h
theorem Env.below {w w' : World} (h : Env w) (hB : Below w.heap.size w w') : Env w' := by
  refine ⟨Lib.tabBelow_of_tabIs h.tab w' hB, ?_⟩
  obtain ⟨m, hm⟩ := h.max
  exact ⟨m, (World.cell?_of_block (w := w) (hB.block 0 (cell_lt hm))).trans hm⟩
theorem itoa_any (n : Int) (h0 : 0 ≤ n) (h1 : n ≤ 512) (w : World) (hE : Env w) : Calls Tryz.prog 53 #[.int .i64 n] w fun e w' => e = .returned (.string (bs (Lib.itoa n))) ∧ Below w.heap.size w w' := by
  refine (Tryz.strconv_Itoa n (by omega) (by omega) w hE.tab).mono ?_
  rintro e w' ⟨rfl, k, os, rfl⟩
  exact ⟨rfl, Lib.below_grow _ _ (Nat.le_refl _) _ _⟩
def fixedL (b : Bool) : List UInt8 := if b then [36] else []
set_option maxHeartbeats 400000 in
theorem fixed_any (b : Bool) (w : World) : Calls Tryz.prog 52 #[.bool b] w fun e w' => e = .returned (.string (bs (fixedL b))) ∧ w' = w := by
  cases b
  all_goals
    go_enter Tryz.func52, Tryz.ntmps52
    go_wp2
    go_ret
    exact ⟨rfl, rfl⟩
theorem bs_append (a b : List UInt8) : bs a ++ bs b = bs (a ++ b) := bs_ext (by rw [Go.Joins.data_append]; rfl)
theorem fixedL_len (b : Bool) : (fixedL b).length ≤ 1 := by cases b <;> simp [fixedL]
theorem lettersS_len (n : Int) : (lettersS n).length ≤ 2 := by
  unfold lettersS
  split
  · rename_i h
    have hb : 1 ≤ n ∧ n ≤ 64 := by simpa [colB] using h
    have := backL_two n.toNat (by omega)
    simpa [lettersL] using this
  · simp
theorem decDigits_len (n : Nat) (h : n < 1000) : (Lib.decDigits n).length ≤ 3 := by
  unfold Lib.decDigits
  split
  · simp
  · unfold Lib.decDigits
    split
    · simp
    · unfold Lib.decDigits
      split
      · simp
      · omega
theorem itoa_len (n : Int) (h0 : 0 ≤ n) (h1 : n ≤ 512) : (Lib.itoa n).length ≤ 3 := by
  unfold Lib.itoa
  rw [if_neg (by omega)]
  exact decDigits_len _ (by omega)
/-- How a reference is written without its sheet. -/
def placeL (c r : Int) (ac ar : Bool) : List UInt8 := fixedL ac ++ lettersS c ++ fixedL ar ++ Lib.itoa r
set_option maxRecDepth 100000 in
set_option maxHeartbeats 2000000 in
theorem place_any (x : Rf) (h0 : 0 ≤ x.r) (h1 : x.r ≤ 512) (w : World) (hE : Env w) : Calls Tryz.prog 32 #[x.v] w fun e w' => e = .returned (.string (bs (placeL x.c x.r x.ac x.ar))) ∧ Below w.heap.size w w' := by
  obtain ⟨s, c, r, ac, ar⟩ := x
  simp only at h0 h1
  unfold Rf.v
  simp only
  have HF1 : ∀ W, Hid _ := fun W => fixed_any ac W
  have HF2 : ∀ W, Hid _ := fun W => fixed_any ar W
  have HL : ∀ W, Hid (Calls Tryz.prog 12 #[.int .i64 c] W fun e w' => e = .returned (.string (bs (lettersS c))) ∧ Below W.heap.size W w') := fun W => letters_any c W
  have HI : ∀ W, Env W → Hid (Calls Tryz.prog 53 #[.int .i64 r] W fun e w' => e = .returned (.string (bs (Lib.itoa r))) ∧ Below W.heap.size W w') := fun W hW => itoa_any r h0 h1 W hW
  unfold placeL
  have k1 : (bs (fixedL ac)).size ≤ 1 := by rw [bs_size]; exact fixedL_len ac
  have k2 : (bs (fixedL ar)).size ≤ 1 := by rw [bs_size]; exact fixedL_len ar
  have k3 : (bs (lettersS c)).size ≤ 2 := by rw [bs_size]; exact lettersS_len c
  have k4 : (bs (Lib.itoa r)).size ≤ 3 := by rw [bs_size]; exact itoa_len r h0 h1
  generalize fixedL ac = l1 at *
  generalize fixedL ar = l2 at *
  generalize lettersS c = l3 at *
  generalize Lib.itoa r = l4 at *
  clear h0 h1
  go_enter Tryz.func32, Tryz.ntmps32
  go_wp2_with fail
  have hA : Row (w.alloc (.cells #[.string s, .int .i64 c, .int .i64 r, .bool ac, .bool ar] 23)) w.heap.size 23 #[.string s, .int .i64 c, .int .i64 r, .bool ac, .bool ar] := Row.new w 23 _
  have hB0 : Below w.heap.size w (w.alloc (.cells #[.string s, .int .i64 c, .int .i64 r, .bool ac, .bool ar] 23)) := (Below.refl _ w).alloc (Nat.le_refl _) _
  generalize w.alloc (.cells #[.string s, .int .i64 c, .int .i64 r, .bool ac, .bool ar] 23) = W at *
  have hE0 := hE.below hB0
  have hS : Below W.heap.size W W.drew := (Below.refl _ W).drew
  refine wp_region_M (fun wx : World => Below W.heap.size W wx) (fun j => decide (j < 16)) 16 rfl (by kernel_rfl) ?_
  refine wpM_held 0 (v := ?_) rfl (by kernel_rfl) (by kernel_rfl) rfl (fun _ _ _ h => h) rfl (by intro wx hx; go_simp <;> rfl) hS ?_
  refine wpM_held 1 (v := .bool ac) rfl (by kernel_rfl) (by kernel_rfl) rfl (fun _ _ _ h => h) rfl (by intro wx hx; obtain ⟨x0, x1, x2, x3, x4⟩ := (hA.below hx hA.lt).five; go_simp <;> rfl) hS ?_
  refine wpM_held 3 (v := ?_) rfl (by kernel_rfl) (by kernel_rfl) rfl (fun _ _ _ h => h) rfl (by intro wx hx; go_simp <;> rfl) hS ?_
  refine wpM_held 4 (v := .int .i64 c) rfl (by kernel_rfl) (by kernel_rfl) rfl (fun _ _ _ h => h) rfl (by intro wx hx; obtain ⟨x0, x1, x2, x3, x4⟩ := (hA.below hx hA.lt).five; go_simp <;> rfl) hS ?_
  refine wpM_held 7 (v := ?_) rfl (by kernel_rfl) (by kernel_rfl) rfl (fun _ _ _ h => h) rfl (by intro wx hx; go_simp <;> rfl) hS ?_
  refine wpM_held 8 (v := .bool ar) rfl (by kernel_rfl) (by kernel_rfl) rfl (fun _ _ _ h => h) rfl (by intro wx hx; obtain ⟨x0, x1, x2, x3, x4⟩ := (hA.below hx hA.lt).five; go_simp <;> rfl) hS ?_
  refine wpM_held 11 (v := ?_) rfl (by kernel_rfl) (by kernel_rfl) rfl (fun _ _ _ h => h) rfl (by intro wx hx; go_simp <;> rfl) hS ?_
  refine wpM_held 12 (v := .int .i64 r) rfl (by kernel_rfl) (by kernel_rfl) rfl (fun _ _ _ h => h) rfl (by intro wx hx; obtain ⟨x0, x1, x2, x3, x4⟩ := (hA.below hx hA.lt).five; go_simp <;> rfl) hS ?_
  refine wpM_one 2 rfl (by kernel_rfl) rfl ?_
  go_wp2_with fail
  refine Calls.mono (HF1 _).out ?_
  rintro _ w1 ⟨rfl, hw1⟩
  rw [hw1]
  clear hw1 w1
  go_wp2_with fail
  refine ⟨fun _ => hS, ?_⟩
  refine wpM_one 5 rfl (by kernel_rfl) rfl ?_
  go_wp2_with fail
  refine Calls.mono (HL _).out ?_
  rintro _ w1 ⟨rfl, hb1⟩
  have hS1 : Below W.heap.size W w1 := hS.trans (hb1.mono hS.size)
  clear hb1
  go_wp2_with fail
  refine ⟨fun _ => hS1, ?_⟩
  refine wpM_held 6 (v := .string (bs l1 ++ bs l3)) rfl (by kernel_rfl) (by kernel_rfl) rfl (fun _ _ _ h => h) rfl (by intro wx hx; go_simp <;> first | rfl | omega) hS1 ?_
  refine wpM_one 9 rfl (by kernel_rfl) rfl ?_
  go_wp2_with fail
  refine Calls.mono (HF2 _).out ?_
  rintro _ w2 ⟨rfl, hw2⟩
  rw [hw2]
  clear hw2 w2
  go_wp2_with fail
  refine ⟨fun _ => hS1, ?_⟩
  refine wpM_held 10 (v := .string (bs l1 ++ bs l3 ++ bs l2)) rfl (by kernel_rfl) (by kernel_rfl) rfl (fun _ _ _ h => h) rfl (by intro wx hx; go_simp <;> first | rfl | (simp only [ByteArray.size_append]; omega) | omega) hS1 ?_
  refine wpM_one 13 rfl (by kernel_rfl) rfl ?_
  go_wp2_with fail
  refine Calls.mono (HI _ (hE0.below hS1)).out ?_
  rintro _ w3 ⟨rfl, hb3⟩
  have hS3 : Below W.heap.size W w3 := hS1.trans (hb3.mono hS1.size)
  clear hb3
  go_wp2_with fail
  refine ⟨fun _ => hS3, ?_⟩
  refine wpM_one 14 rfl (by kernel_rfl) rfl ?_
  go_wp2_with fail
  refine ⟨fun _ => hS3, ?_⟩
  refine wpM_one 15 rfl (by kernel_rfl) rfl ?_
  go_wp2_with fail
  refine ⟨fun _ => hS3, ?_⟩
  refine wpM_done (by kernel_rfl) ?_
  go_wp2
  go_ret
  refine ⟨?_, hB0.trans (hS3.mono hB0.size)⟩
  rw [bs_append, bs_append, bs_append]
  rfl
end Go.Proofs.YtnblbakjfpfipaaGreatDoor
