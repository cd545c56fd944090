/- utf: the chapter's examples (alive); Less. -/
import Derived.Test.YtckopbcpjecjhaaPct
namespace Go.Proofs.Ytckopbcpjecjhaa
open Go.RowKit

theorem ex1 : validL (natsOf ⟨#[228, 189, 160]⟩) = true := by decide
theorem ex2 : validL (natsOf ⟨#[192, 128]⟩) = false := by decide
theorem ex3 : validL (natsOf ⟨#[237, 160, 128]⟩) = false := by decide
theorem ex4 : strOfNums (textZ (cutZ (restZ ⟨#[97, 195, 177, 98]⟩ 0) 1 1)) = ⟨#[195, 177]⟩ := by decide
theorem ex5 : strOfNums (trimEnd (trimTo ⟨#[32, 32, 97, 32, 32, 98, 32]⟩ 7)) = ⟨#[97, 32, 98]⟩ := by decide
theorem ex6 : ((runesL (natsOf ⟨#[195, 177]⟩)).length : Int) = 1 := by decide
theorem ex7 : errX (xmlL (natsOf ⟨#[1]⟩)) = 20 := by decide

set_option maxRecDepth 100000 in
set_option maxHeartbeats 2000000 in
theorem alive_any (w : World) : Calls Try.prog 16 #[] w fun e w' => e = .returned (.bool true) ∧ Below w.heap.size w w' := by
  have H1 : ∀ W, Hid (Calls Try.prog 8 #[.string ⟨#[228, 189, 160]⟩] W fun e w' => e = .returned (.bool true) ∧ Below W.heap.size W w') := by
    intro W; have := pvalid_any ⟨#[228, 189, 160]⟩ W; rw [ex1] at this; exact this
  have H2 : ∀ W, Hid (Calls Try.prog 8 #[.string ⟨#[192, 128]⟩] W fun e w' => e = .returned (.bool false) ∧ Below W.heap.size W w') := by
    intro W; have := pvalid_any ⟨#[192, 128]⟩ W; rw [ex2] at this; exact this
  have H3 : ∀ W, Hid (Calls Try.prog 8 #[.string ⟨#[237, 160, 128]⟩] W fun e w' => e = .returned (.bool false) ∧ Below W.heap.size W w') := by
    intro W; have := pvalid_any ⟨#[237, 160, 128]⟩ W; rw [ex3] at this; exact this
  have H4 : ∀ W, Hid (Calls Try.prog 17 #[.string ⟨#[97, 195, 177, 98]⟩, .int .i64 1, .int .i64 1] W fun e w' => e = .returned (.string ⟨#[195, 177]⟩) ∧ Below W.heap.size W w') := by
    intro W; have := pcut_any ⟨#[97, 195, 177, 98]⟩ 1 1 (by omega) (by omega) (by omega) (by omega) (by decide) W; rw [ex4] at this; exact this
  have H5 : ∀ W, Hid (Calls Try.prog 25 #[.string ⟨#[32, 32, 97, 32, 32, 98, 32]⟩] W fun e w' => e = .returned (.string ⟨#[97, 32, 98]⟩) ∧ Below W.heap.size W w') := by
    intro W; have := ptrim_any ⟨#[32, 32, 97, 32, 32, 98, 32]⟩ (by decide) W; rw [show (⟨#[32, 32, 97, 32, 32, 98, 32]⟩ : ByteArray).size = 7 from rfl, ex5] at this; exact this
  have H6 : ∀ W, Hid (Calls Try.prog 15 #[.string ⟨#[195, 177]⟩] W fun e w' => e = .returned (.int .i64 1) ∧ Below W.heap.size W w') := by
    intro W; have := pcount_any ⟨#[195, 177]⟩ (by decide) W; rw [ex6] at this; exact this
  have H7 : ∀ W, Hid (Calls Try.prog 10 #[.string ⟨#[1]⟩] W fun e w' => e = .returned (.int .i64 20) ∧ Below W.heap.size W w') := by
    intro W; have := pxml_any ⟨#[1]⟩ W; rw [ex7] at this; exact this
  go_enter Try.func16, Try.ntmps16
  go_wp2_with fail
  refine Calls.mono (H1 _).out ?_
  rintro e w1 ⟨rfl, b1⟩
  go_wp2_with fail
  refine Calls.mono (H2 _).out ?_
  rintro e w2 ⟨rfl, b2⟩
  have B2 : Hid (Below w.heap.size w w2) := b1.trans (b2.mono b1.size)
  clear b1 b2
  go_wp2_with fail
  refine Calls.mono (H3 _).out ?_
  rintro e w3 ⟨rfl, b3⟩
  have B3 : Hid (Below w.heap.size w w3) := B2.out.trans (b3.mono B2.out.size)
  clear b3 B2
  go_wp2_with fail
  refine Calls.mono (H4 _).out ?_
  rintro e w4 ⟨rfl, b4⟩
  have B4 : Hid (Below w.heap.size w w4) := B3.out.trans (b4.mono B3.out.size)
  clear b4 B3
  go_wp2_with fail
  refine Calls.mono (H5 _).out ?_
  rintro e w5 ⟨rfl, b5⟩
  have B5 : Hid (Below w.heap.size w w5) := B4.out.trans (b5.mono B4.out.size)
  clear b5 B4
  go_wp2_with fail
  refine Calls.mono (H6 _).out ?_
  rintro e w6 ⟨rfl, b6⟩
  have B6 : Hid (Below w.heap.size w w6) := B5.out.trans (b6.mono B5.out.size)
  clear b6 B5
  go_wp2_with fail
  refine Calls.mono (H7 _).out ?_
  rintro e w7 ⟨rfl, b7⟩
  have B7 : Hid (Below w.heap.size w w7) := B6.out.trans (b7.mono B6.out.size)
  clear b7 B6
  go_wp2
  go_ret
  exact ⟨rfl, B7.out⟩
end Go.Proofs.Ytckopbcpjecjhaa
