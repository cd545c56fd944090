import Derived.Test.YtnblbakjfpfipaaGreatDoorWpt
import Derived.Test.YtnblbakjfpfipaaGreatDoorWpa
/- alive: the chapter's examples. -/
namespace Go.Proofs.YtnblbakjfpfipaaGreatDoor
open Go.RowKit

set_option maxRecDepth 100000 in
theorem al_col : colOf [66, 76] = some 64 := by kernel_rfl
set_option maxRecDepth 100000 in
theorem al_p1 : parseR [66, 36, 50] = (⟨bs [], 2, 2, false, true⟩, 0) := by kernel_rfl
set_option maxRecDepth 100000 in
theorem al_p2 : parseR [65, 48] = (Rf.zero, 40) := by kernel_rfl
set_option maxRecDepth 100000 in
theorem al_p3 : parseR [65, 53, 49, 51] = (Rf.zero, 41) := by kernel_rfl
set_option maxRecDepth 100000 in
theorem al_sh : shiftR ⟨.empty, 1, 1, true, false⟩ 1 1 = some ⟨.empty, 1, 2, true, false⟩ := by kernel_rfl
set_option maxRecDepth 100000 in
theorem al_le : lettersS 27 = [65, 65] := by kernel_rfl
set_option maxRecDepth 100000 in
theorem al_r1 : printL ⟨⟨#[97, 32, 98]⟩, 1, 1, false, false⟩ = [39, 97, 32, 98, 39, 33, 65, 49] := by kernel_rfl
set_option maxRecDepth 100000 in
theorem al_r2 : printL ⟨.empty, 1, 2, true, false⟩ = [36, 65, 50] := by kernel_rfl
set_option maxRecDepth 100000 in
set_option maxHeartbeats 2000000 in
theorem alive_any (w : World) (hE : Env w) : Calls Tryz.prog 20 #[] w fun e w' => e = .returned (.bool true) ∧ Below w.heap.size w w' := by
  have h1 : ∀ W, Hid (Calls Tryz.prog 6 #[.string ⟨#[66, 76]⟩] W fun e w' => e = .returned (.tuple #[.int .i64 64, .bool true]) ∧ w' = W) := fun W => by
    have := col_any [66, 76] (by decide) W
    rw [al_col] at this
    exact this
  have h2 : ∀ W, Hid (Calls Tryz.prog 21 #[.string ⟨#[66, 36, 50]⟩] W fun e w' => e = .returned (.tuple #[.agg #[.string .empty, .int .i64 2, .int .i64 2, .bool false, .bool true], .int .i64 0]) ∧ Below W.heap.size W w') := fun W => by
    have := parse_any [66, 36, 50] (by decide) W
    rw [al_p1] at this
    exact this
  have h3 : ∀ W, Hid (Calls Tryz.prog 21 #[.string ⟨#[65, 48]⟩] W fun e w' => e = .returned (.tuple #[.agg #[.string .empty, .int .i64 0, .int .i64 0, .bool false, .bool false], .int .i64 40]) ∧ Below W.heap.size W w') := fun W => by
    have := parse_any [65, 48] (by decide) W
    rw [al_p2] at this
    exact this
  have h4 : ∀ W, Hid (Calls Tryz.prog 21 #[.string ⟨#[65, 53, 49, 51]⟩] W fun e w' => e = .returned (.tuple #[.agg #[.string .empty, .int .i64 0, .int .i64 0, .bool false, .bool false], .int .i64 41]) ∧ Below W.heap.size W w') := fun W => by
    have := parse_any [65, 53, 49, 51] (by decide) W
    rw [al_p3] at this
    exact this
  have h5 : ∀ W, Hid (Calls Tryz.prog 25 #[.agg #[.string .empty, .int .i64 1, .int .i64 1, .bool true, .bool false], .int .i64 1, .int .i64 1] W fun e w' => e = .returned (.tuple #[.agg #[.string .empty, .int .i64 1, .int .i64 2, .bool true, .bool false], .bool true]) ∧ Below W.heap.size W w') := fun W => by
    have := shift_any ⟨.empty, 1, 1, true, false⟩ 1 1 (by decide) (by decide) (by decide) (by decide) W
    rw [al_sh] at this
    exact this
  have h6 : ∀ W, Hid (Calls Tryz.prog 12 #[.int .i64 27] W fun e w' => e = .returned (.string ⟨#[65, 65]⟩) ∧ Below W.heap.size W w') := fun W => by
    have := letters_any 27 W
    rw [al_le] at this
    exact this
  have h7 : ∀ W, Env W → Hid (Calls Tryz.prog 8 #[.agg #[.string ⟨#[97, 32, 98]⟩, .int .i64 1, .int .i64 1, .bool false, .bool false]] W fun e w' => e = .returned (.string ⟨#[39, 97, 32, 98, 39, 33, 65, 49]⟩) ∧ Below W.heap.size W w') := fun W hW => by
    have := print_any ⟨⟨#[97, 32, 98]⟩, 1, 1, false, false⟩ W hW
    rw [al_r1] at this
    exact this
  have h8 : ∀ W, Env W → Hid (Calls Tryz.prog 8 #[.agg #[.string .empty, .int .i64 1, .int .i64 2, .bool true, .bool false]] W fun e w' => e = .returned (.string ⟨#[36, 65, 50]⟩) ∧ Below W.heap.size W w') := fun W hW => by
    have := print_any ⟨.empty, 1, 2, true, false⟩ W hW
    rw [al_r2] at this
    exact this
  go_enter Tryz.func20, Tryz.ntmps20
  go_wp2_with fail
  refine Calls.mono (h1 _).out ?_
  rintro _ w1 ⟨rfl, rfl⟩
  go_wp2_with fail
  refine Calls.mono (h2 _).out ?_
  rintro _ w2 ⟨rfl, b2⟩
  have r2 := Row.new w2 23 #[.string .empty, .int .i64 2, .int .i64 2, .bool false, .bool true]
  have b2 := below_allocS b2 (.cells #[.string .empty, .int .i64 2, .int .i64 2, .bool false, .bool true] 23)
  go_wp2_with fail
  refine Calls.mono (h3 _).out ?_
  rintro _ w3 ⟨rfl, b3⟩
  have r3 := (r2.below b3 r2.lt).alloc (.cells #[.string .empty, .int .i64 0, .int .i64 0, .bool false, .bool false] 23)
  have b3 := below_allocS (b2.trans (b3.mono b2.size)) (.cells #[.string .empty, .int .i64 0, .int .i64 0, .bool false, .bool false] 23)
  clear r2 b2
  go_wp2_with fail
  refine Calls.mono (h4 _).out ?_
  rintro _ w4 ⟨rfl, b4⟩
  have r4 := (r3.below b4 r3.lt).alloc (.cells #[.string .empty, .int .i64 0, .int .i64 0, .bool false, .bool false] 23)
  have b4 := below_allocS (b3.trans (b4.mono b3.size)) (.cells #[.string .empty, .int .i64 0, .int .i64 0, .bool false, .bool false] 23)
  clear r3 b3
  go_wp2_with fail
  refine Calls.mono (h5 _).out ?_
  rintro _ w5 ⟨rfl, b5⟩
  have r5 := (r4.below b5 r4.lt).alloc (.cells #[.string .empty, .int .i64 1, .int .i64 2, .bool true, .bool false] 23)
  have q5 := Row.new w5 23 #[.string .empty, .int .i64 1, .int .i64 2, .bool true, .bool false]
  have b5 := below_allocS (b4.trans (b5.mono b4.size)) (.cells #[.string .empty, .int .i64 1, .int .i64 2, .bool true, .bool false] 23)
  clear r4 b4
  go_wp2_with fail
  refine Calls.mono (h6 _).out ?_
  rintro _ w6 ⟨rfl, b6⟩
  have r6 := r5.below b6 r5.lt
  have q6 := q5.below b6 q5.lt
  have b6 := b5.trans (b6.mono b5.size)
  clear r5 q5 b5
  obtain ⟨c0, c1, c2, c3, c4⟩ := r6.five
  go_wp2_with fail
  refine Calls.mono (h7 _ (hE.below b6)).out ?_
  rintro _ w7 ⟨rfl, b7⟩
  have q7 := q6.below b7 q6.lt
  have b7 := b6.trans (b7.mono b6.size)
  clear c0 c1 c2 c3 c4 r6 q6 b6
  obtain ⟨c0, c1, c2, c3, c4⟩ := q7.five
  go_wp2_with fail
  refine Calls.mono (h8 _ (hE.below b7)).out ?_
  rintro _ w8 ⟨rfl, b8⟩
  have b8 := b7.trans (b8.mono b7.size)
  clear h1 h2 h3 h4 h5 h6 h7 h8
  go_wp2
  go_ret
  exact ⟨rfl, b8⟩
end Go.Proofs.YtnblbakjfpfipaaGreatDoor
