/- What must come at any rate: the chapter's examples. -/
import Derived.Test.YtiakploggmmklaaCod
import Derived.Test.YtiakploggmmklaaLen
namespace Go.Proofs.Ytiakploggmmklaa
open Go.RowKit

theorem ex_err1 : errOf [2, 1, 3, 3] = 0 := by decide +kernel
theorem ex_codes : codesOf [2, 1, 3, 3] = [2, 0, 6, 7] := by decide +kernel
theorem ex_err2 : errOf [1, 1, 1] = 11 := by decide +kernel
theorem ex_lens : lenS [5, 1, 1, 0] 15 = [1, 2, 2, 0] := by decide +kernel
theorem ex_ord : (ordL [5, 1, 1, 0] 4).length = 3 := by decide +kernel
theorem ex_safe : ∀ k, k < 15 → (spR (singlesL [5, 1, 1, 0] (ordS [5, 1, 1, 0])) (ordS [5, 1, 1, 0]) (List.replicate 4 0) (2 * (ordS [5, 1, 1, 0]).length - 2) 15 k).2 ≤ (rowN (singlesL [5, 1, 1, 0] (ordS [5, 1, 1, 0])) (15 - 1 - k)).length := by decide +kernel

theorem intsIn_new (w : World) (l : List Int) : IntsIn (fun k => k < w.heap.size + 1) (w.alloc (.cells (intsV l) 3)) (.slice (some ⟨w.heap.size, 0, none⟩) l.length l.length) l :=
  .inr ⟨w.heap.size, 0, l.length, rfl, by simp, fun j hj => by
    rw [Nat.zero_add, (Row.new w 3 (intsV l)).cell (intsV_at l j hj)]
    simp [hj]⟩

set_option maxRecDepth 100000 in
set_option maxHeartbeats 4000000 in
theorem alive_any (w : World) : Calls Try.prog 5 #[] w fun e w' => e = .returned (.bool true) ∧ Below w.heap.size w w' := by
  have H1 : Hid (∀ w : World, Calls Try.prog 14 #[.slice (some ⟨w.heap.size, 0, none⟩) 4 4] (w.alloc (.cells #[.int .i64 2, .int .i64 1, .int .i64 3, .int .i64 3] 3)) fun e w' => Below w.heap.size w w' ∧ ∃ G, e = .returned (.tuple #[.slice (some ⟨G, 0, none⟩) 4 4, .int .i64 0]) ∧ Row w' G 40 #[.int .u32 2, .int .u32 0, .int .u32 6, .int .u32 7]) := by
    intro w
    refine (codes_any (fun k => k < w.heap.size + 1) (some ⟨w.heap.size, 0, none⟩) 4 [2, 1, 3, 3] (w.alloc (.cells (intsV [2, 1, 3, 3]) 3)) (fun k hk => by simp; omega) (intsIn_new w [2, 1, 3, 3])).mono ?_
    rintro e w' ⟨hB, (⟨h, _⟩ | ⟨_, G, he, _, hR⟩)⟩
    · exact absurd ex_err1 h
    · rw [ex_codes] at hR
      exact ⟨((Below.refl _ w).alloc (Nat.le_refl _) _).trans (hB.mono (by simp)), G, he, hR⟩
  have H2 : Hid (∀ w : World, Calls Try.prog 14 #[.slice (some ⟨w.heap.size, 0, none⟩) 3 3] (w.alloc (.cells #[.int .i64 1, .int .i64 1, .int .i64 1] 3)) fun e w' => Below w.heap.size w w' ∧ e = .returned (.tuple #[.slice none 0 0, .int .i64 11])) := by
    intro w
    refine (codes_any (fun k => k < w.heap.size + 1) (some ⟨w.heap.size, 0, none⟩) 3 [1, 1, 1] (w.alloc (.cells (intsV [1, 1, 1]) 3)) (fun k hk => by simp; omega) (intsIn_new w [1, 1, 1])).mono ?_
    rintro e w' ⟨hB, (⟨_, he⟩ | ⟨h, _⟩)⟩
    · rw [ex_err2] at he
      exact ⟨((Below.refl _ w).alloc (Nat.le_refl _) _).trans (hB.mono (by simp)), he⟩
    · rw [ex_err2] at h
      cases h
  have H3 : Hid (∀ w : World, Calls Try.prog 4 #[.slice (some ⟨w.heap.size, 0, none⟩) 4 4, .int .i64 15] (w.alloc (.cells #[.int .i64 5, .int .i64 1, .int .i64 1, .int .i64 0] 3)) fun e w' => Below w.heap.size w w' ∧ ∃ G, e = .returned (.tuple #[.slice (some ⟨G, 0, none⟩) 4 4, .int .i64 0]) ∧ Row w' G 3 #[.int .i64 1, .int .i64 2, .int .i64 2, .int .i64 0]) := by
    intro w
    refine (lengths_small (fun k => k < w.heap.size + 1) (some ⟨w.heap.size, 0, none⟩) 4 15 [5, 1, 1, 0] (w.alloc (.cells (intsV [5, 1, 1, 0]) 3)) (fun k hk => by simp; omega) (intsIn_new w [5, 1, 1, 0]) (by omega) (by omega) (by simp) (by decide) (by show 2 ≤ (ordL [5, 1, 1, 0] 4).length; rw [ex_ord]; omega) (by show (ordL [5, 1, 1, 0] 4).length < 20; rw [ex_ord]; omega) (by show (ordL [5, 1, 1, 0] 4).length ≤ 2 ^ 15; rw [ex_ord]; omega) ex_safe).mono ?_
    rintro e w' ⟨G, he, hR, hB⟩
    rw [ex_lens] at hR
    exact ⟨((Below.refl _ w).alloc (Nat.le_refl _) _).trans (hB.mono (by simp)), G, he, hR⟩
  go_enter Try.func5, Try.ntmps5
  go_wp2_with fail
  refine (H1.out w).mono ?_
  rintro e w1 ⟨hB1, G1, rfl, hR1⟩
  clear H1
  go_wp2_with fail
  refine (H2.out w1).mono ?_
  rintro e w2 ⟨hB2, rfl⟩
  have hR2 := hR1.below hB2 hR1.lt
  have hB2' := hB1.trans (hB2.mono hB1.size)
  clear H2 hR1 hB1 hB2
  go_wp2_with fail
  refine (H3.out w2).mono ?_
  rintro e w3 ⟨hB3, G3, rfl, hR3⟩
  have hR2 := hR2.below hB3 hR2.lt
  have hB3' := hB2'.trans (hB3.mono hB2'.size)
  have c0 := hR2.cell (i := 0) (v := .int .u32 2) rfl
  have c1 := hR2.cell (i := 1) (v := .int .u32 0) rfl
  have c2 := hR2.cell (i := 2) (v := .int .u32 6) rfl
  have c3 := hR2.cell (i := 3) (v := .int .u32 7) rfl
  have d0 := hR3.cell (i := 0) (v := .int .i64 1) rfl
  have d1 := hR3.cell (i := 1) (v := .int .i64 2) rfl
  have d2 := hR3.cell (i := 2) (v := .int .i64 2) rfl
  have d3 := hR3.cell (i := 3) (v := .int .i64 0) rfl
  clear H3 hR2 hR3 hB2' hB3
  go_wp2
  go_ret
  exact ⟨rfl, hB3'⟩
end Go.Proofs.Ytiakploggmmklaa
