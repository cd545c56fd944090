import Derived.Test.YtnblbakjfpfipaaGreatDoorWcq
import Derived.Test.YtnblbakjfpfipaaGreatDoorWcu
import Derived.Test.YtnblbakjfpfipaaGreatDoorWpl
/- cutSheet: the sheet's name that a text begins with. -/
namespace Go.Proofs.YtnblbakjfpfipaaGreatDoor
open Go.RowKit

/-- The name, what stands behind its sign, whether it is one as it is written. -/
def sheetC (l : List UInt8) : List UInt8 × List UInt8 × Bool :=
  if Lib.hasPrefix l [39] then ((cutQ (l.drop 1)).1, Lib.trimPrefix (cutQ (l.drop 1)).2 [39, 33], Lib.hasPrefix (cutQ (l.drop 1)).2 [39, 33] && nameS (cutQ (l.drop 1)).1 && !plainB (cutQ (l.drop 1)).1)
  else if (cutB l 33).2.2 then ((cutB l 33).1, (cutB l 33).2.1, nameS (cutB l 33).1 && plainB (cutB l 33).1) else ([], l, true)

theorem cutB_len (l : List UInt8) (c : UInt8) : (cutB l c).1.length ≤ l.length ∧ (cutB l c).2.1.length ≤ l.length := by
  unfold cutB
  split
  · simp; omega
  · simp
set_option maxRecDepth 100000 in
set_option maxHeartbeats 2000000 in
theorem cutSheet_any (l : List UInt8) (hl : l.length ≤ 140737488351232) (w : World) :
    Calls Tryz.prog 61 #[.string (bs l)] w fun e w' => e = .returned (.tuple #[.string (bs (sheetC l).1), .string (bs (sheetC l).2.1), .bool (sheetC l).2.2]) ∧ Below w.heap.size w w' := by
  have HP : ∀ W, Hid (Calls Tryz.prog 76 #[.string (bs l), .string ⟨#[39]⟩] W fun e w' => e = .returned (.bool (Lib.hasPrefix l [39])) ∧ w' = W) := fun W => Tryz.strings_HasPrefix (bs l) ⟨#[39]⟩ W
  cases hp : Lib.hasPrefix l [39]
  · rw [hp] at HP
    have e : sheetC l = if (cutB l 33).2.2 then ((cutB l 33).1, (cutB l 33).2.1, nameS (cutB l 33).1 && plainB (cutB l 33).1) else ([], l, true) := by unfold sheetC; rw [hp]; rfl
    rw [e]
    have HC : ∀ W, Hid _ := fun W => cut_any l 33 (by omega) W
    have hlen := (cutB_len l 33).1
    generalize cutB l 33 = q at HC hlen ⊢
    obtain ⟨A, B, f⟩ := q
    simp only at HC hlen ⊢
    cases f
    · go_enter Tryz.func61, Tryz.ntmps61
      go_wp2_with fail
      refine Calls.mono (HP _).out ?_
      rintro _ w1 ⟨rfl, rfl⟩
      go_wp2_with fail
      refine Calls.mono (HC _).out ?_
      rintro _ w2 ⟨rfl, b2⟩
      clear HP HC
      go_wp2
      go_ret3
      exact ⟨rfl, b2⟩
    · have HN : ∀ W, Hid _ := fun W => sheetName_any (bs A) W
      have HL : ∀ W, Hid _ := fun W => plain_any A (by omega) W
      rw [show (bs A).data.toList = A from rfl] at HN
      generalize nameS A = x at HN ⊢
      generalize plainB A = y at HL ⊢
      clear hlen e hp hl
      cases x
      · go_enter Tryz.func61, Tryz.ntmps61
        go_wp2_with fail
        refine Calls.mono (HP _).out ?_
        rintro _ w1 ⟨rfl, rfl⟩
        go_wp2_with fail
        refine Calls.mono (HC _).out ?_
        rintro _ w2 ⟨rfl, b2⟩
        go_wp2_with fail
        refine Calls.mono (HN _).out ?_
        rintro _ w3 ⟨rfl, rfl⟩
        clear HP HC HN HL
        go_wp2
        go_ret3
        exact ⟨rfl, b2⟩
      · go_enter Tryz.func61, Tryz.ntmps61
        go_wp2_with fail
        refine Calls.mono (HP _).out ?_
        rintro _ w1 ⟨rfl, rfl⟩
        go_wp2_with fail
        refine Calls.mono (HC _).out ?_
        rintro _ w2 ⟨rfl, b2⟩
        go_wp2_with fail
        refine Calls.mono (HN _).out ?_
        rintro _ w3 ⟨rfl, rfl⟩
        go_wp2_with fail
        refine Calls.mono (HL _).out ?_
        rintro _ w4 ⟨rfl, b4⟩
        clear HP HC HN HL
        go_wp2
        go_ret3
        exact ⟨rfl, b2.trans (b4.mono b2.size)⟩
  · rw [hp] at HP
    have h1 : 1 ≤ l.length := by
      cases l with
      | nil => simp [Lib.hasPrefix] at hp
      | cons a l => simp
    have e : sheetC l = ((cutQ (l.drop 1)).1, Lib.trimPrefix (cutQ (l.drop 1)).2 [39, 33], Lib.hasPrefix (cutQ (l.drop 1)).2 [39, 33] && nameS (cutQ (l.drop 1)).1 && !plainB (cutQ (l.drop 1)).1) := by unfold sheetC; rw [hp]; rfl
    rw [e]
    have HC : ∀ W, Hid _ := fun W => cutQuoted_any l hl h1 W
    have hlen := cutQ_len _ (l.drop 1) (Nat.le_refl _)
    have hdl : (l.drop 1).length ≤ l.length := by simp
    generalize cutQ (l.drop 1) = q at HC hlen ⊢
    obtain ⟨A, B⟩ := q
    simp only at HC hlen ⊢
    generalize Lib.trimPrefix B [39, 33] = B' at HC ⊢
    generalize Lib.hasPrefix B [39, 33] = f at HC ⊢
    have HN : ∀ W, Hid _ := fun W => sheetName_any (bs A) W
    have HL : ∀ W, Hid _ := fun W => plain_any A (by omega) W
    rw [show (bs A).data.toList = A from rfl] at HN
    generalize nameS A = x at HN ⊢
    generalize plainB A = y at HL ⊢
    clear hlen hdl e hp h1
    cases f
    · go_enter Tryz.func61, Tryz.ntmps61
      go_wp2_with fail
      refine Calls.mono (HP _).out ?_
      rintro _ w1 ⟨rfl, rfl⟩
      go_wp2_with fail
      refine Calls.mono (HC _).out ?_
      rintro _ w2 ⟨rfl, b2⟩
      clear HP HC HN HL
      go_wp2
      go_ret3
      exact ⟨rfl, b2⟩
    cases x
    · go_enter Tryz.func61, Tryz.ntmps61
      go_wp2_with fail
      refine Calls.mono (HP _).out ?_
      rintro _ w1 ⟨rfl, rfl⟩
      go_wp2_with fail
      refine Calls.mono (HC _).out ?_
      rintro _ w2 ⟨rfl, b2⟩
      go_wp2_with fail
      refine Calls.mono (HN _).out ?_
      rintro _ w3 ⟨rfl, rfl⟩
      clear HP HC HN HL
      go_wp2
      go_ret3
      exact ⟨rfl, b2⟩
    · go_enter Tryz.func61, Tryz.ntmps61
      go_wp2_with fail
      refine Calls.mono (HP _).out ?_
      rintro _ w1 ⟨rfl, rfl⟩
      go_wp2_with fail
      refine Calls.mono (HC _).out ?_
      rintro _ w2 ⟨rfl, b2⟩
      go_wp2_with fail
      refine Calls.mono (HN _).out ?_
      rintro _ w3 ⟨rfl, rfl⟩
      go_wp2_with fail
      refine Calls.mono (HL _).out ?_
      rintro _ w4 ⟨rfl, b4⟩
      clear HP HC HN HL
      cases y
      all_goals
        go_wp2
        go_ret3
        exact ⟨rfl, b2.trans (b4.mono b2.size)⟩
end Go.Proofs.YtnblbakjfpfipaaGreatDoor
