/- Right, Shift. -/
import Derived.Test.YtnblbakjfpfipaaGreatDoorWsn
namespace Go.Proofs.YtnblbakjfpfipaaGreatDoor
open Go.RowKit

/-- A reference: its sheet's name, column, row, what is fixed. -/
structure Rf where
  s : ByteArray
  c : Int
  r : Int
  ac : Bool
  ar : Bool
def Rf.v (x : Rf) : Value := .agg #[.string x.s, .int .i64 x.c, .int .i64 x.r, .bool x.ac, .bool x.ar]
def Rf.zero : Rf := ⟨.empty, 0, 0, false, false⟩
/-- Is it right? -/
def rightB (x : Rf) : Bool := colB x.c && rowB x.r && (x.s.toList.isEmpty || nameS x.s.data.toList)

set_option maxRecDepth 100000 in
set_option maxHeartbeats 1000000 in
theorem right_any (x : Rf) (w : World) : Calls Tryz.prog 18 #[x.v] w fun e w' => e = .returned (.bool (rightB x)) ∧ Below w.heap.size w w' := by
  obtain ⟨s, c, r, ac, ar⟩ := x
  unfold Rf.v rightB
  simp only
  have HC : ∀ W, Hid _ := fun W => column_any c W
  have HRW : ∀ W, Hid _ := fun W => row_any r W
  have HS : ∀ W, Hid _ := fun W => sheetName_any s W
  generalize colB c = b1 at HC ⊢
  generalize rowB r = b2 at HRW ⊢
  generalize nameS s.data.toList = b3 at HS ⊢
  cases b1
  · go_enter Tryz.func18, Tryz.ntmps18
    go_wp2_with fail
    refine Calls.mono (HC _).out ?_
    rintro e w1 ⟨rfl, rfl⟩
    go_wp2
    go_ret
    exact ⟨rfl, (Below.refl _ w).alloc (Nat.le_refl _) _⟩
  cases b2
  · go_enter Tryz.func18, Tryz.ntmps18
    go_wp2_with fail
    refine Calls.mono (HC _).out ?_
    rintro e w1 ⟨rfl, rfl⟩
    go_wp2_with fail
    refine Calls.mono (HRW _).out ?_
    rintro e w1 ⟨rfl, rfl⟩
    go_wp2
    go_ret
    exact ⟨rfl, (Below.refl _ w).alloc (Nat.le_refl _) _⟩
  cases he : s.toList.isEmpty
  · go_enter Tryz.func18, Tryz.ntmps18
    go_wp2_with fail
    refine Calls.mono (HC _).out ?_
    rintro e w1 ⟨rfl, rfl⟩
    go_wp2_with fail
    refine Calls.mono (HRW _).out ?_
    rintro e w1 ⟨rfl, rfl⟩
    go_wp2_with fail
    refine Calls.mono (HS _).out ?_
    rintro e w1 ⟨rfl, rfl⟩
    cases b3
    all_goals
      go_wp2
      go_ret
      exact ⟨rfl, (Below.refl _ w).alloc (Nat.le_refl _) _⟩
  · go_enter Tryz.func18, Tryz.ntmps18
    go_wp2_with fail
    refine Calls.mono (HC _).out ?_
    rintro e w1 ⟨rfl, rfl⟩
    go_wp2_with fail
    refine Calls.mono (HRW _).out ?_
    rintro e w1 ⟨rfl, rfl⟩
    go_wp2
    go_ret
    exact ⟨rfl, (Below.refl _ w).alloc (Nat.le_refl _) _⟩
end Go.Proofs.YtnblbakjfpfipaaGreatDoor
