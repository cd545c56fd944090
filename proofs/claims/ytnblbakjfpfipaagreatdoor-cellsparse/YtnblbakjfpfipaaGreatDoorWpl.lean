import Derived.Test.YtnblbakjfpfipaaGreatDoorWah
/- plain. -/
namespace Go.Proofs.YtnblbakjfpfipaaGreatDoor
open Go.RowKit

def capL : List UInt8 := [65, 66, 67, 68, 69, 70, 71, 72, 73, 74, 75, 76, 77, 78, 79, 80, 81, 82, 83, 84, 85, 86, 87, 88, 89, 90]
def digL : List UInt8 := [48, 49, 50, 51, 52, 53, 54, 55, 56, 57]
def alphaL : List UInt8 := [65, 66, 67, 68, 69, 70, 71, 72, 73, 74, 75, 76, 77, 78, 79, 80, 81, 82, 83, 84, 85, 86, 87, 88, 89, 90, 97, 98, 99, 100, 101, 102, 103, 104, 105, 106, 107, 108, 109, 110, 111, 112, 113, 114, 115, 116, 117, 118, 119, 120, 121, 122, 95]
def alnumL : List UInt8 := [65, 66, 67, 68, 69, 70, 71, 72, 73, 74, 75, 76, 77, 78, 79, 80, 81, 82, 83, 84, 85, 86, 87, 88, 89, 90, 97, 98, 99, 100, 101, 102, 103, 104, 105, 106, 107, 108, 109, 110, 111, 112, 113, 114, 115, 116, 117, 118, 119, 120, 121, 122, 48, 49, 50, 51, 52, 53, 54, 55, 56, 57, 95]
/-- Is a name written without quotes? -/
@[irreducible] def plainB (l : List UInt8) : Bool := !(aheadL l alphaL).isEmpty && (behindL (behindL l alphaL) alnumL).isEmpty

set_option maxRecDepth 100000 in
set_option maxHeartbeats 1000000 in
theorem plain_any (l : List UInt8) (hl : l.length ≤ 9223372036854775807) (w : World) :
    Calls Tryz.prog 36 #[.string (bs l)] w fun e w' => e = .returned (.bool (plainB l)) ∧ Below w.heap.size w w' := by
  have h1 : ∀ W, Hid (Calls Tryz.prog 56 #[.string (bs l), .string ⟨#[65, 66, 67, 68, 69, 70, 71, 72, 73, 74, 75, 76, 77, 78, 79, 80, 81, 82, 83, 84, 85, 86, 87, 88, 89, 90, 97, 98, 99, 100, 101, 102, 103, 104, 105, 106, 107, 108, 109, 110, 111, 112, 113, 114, 115, 116, 117, 118, 119, 120, 121, 122, 95]⟩] W _) := fun W => ahead_any l alphaL hl (by decide) (by decide) W
  have hk := ahead_len l alphaL
  have h2 : ∀ W, Hid (Calls Tryz.prog 56 #[.string (bs (behindL l alphaL)), .string ⟨#[65, 66, 67, 68, 69, 70, 71, 72, 73, 74, 75, 76, 77, 78, 79, 80, 81, 82, 83, 84, 85, 86, 87, 88, 89, 90, 97, 98, 99, 100, 101, 102, 103, 104, 105, 106, 107, 108, 109, 110, 111, 112, 113, 114, 115, 116, 117, 118, 119, 120, 121, 122, 48, 49, 50, 51, 52, 53, 54, 55, 56, 57, 95]⟩] W _) := fun W => ahead_any (behindL l alphaL) alnumL (by omega) (by decide) (by decide) W
  obtain ⟨r, hr⟩ : ∃ r, plainB l = r := ⟨_, rfl⟩
  have H : Hid ((!(aheadL l alphaL).isEmpty && (behindL (behindL l alphaL) alnumL).isEmpty) = r) := by unfold plainB at hr; exact hr
  rw [hr]
  clear hr hk hl
  generalize aheadL l alphaL = A at h1 h2 H
  generalize behindL l alphaL = X at h1 h2 H
  generalize aheadL X alnumL = Y at h1 h2 H
  generalize behindL X alnumL = Z at h1 h2 H
  cases A with
  | nil =>
    obtain rfl : r = false := by rw [← H.out]; rfl
    clear H
    go_enter Tryz.func36, Tryz.ntmps36
    go_wp2_with fail
    refine Calls.mono (h1 _).out ?_
    rintro _ w1 ⟨rfl, b1⟩
    go_wp2_with fail
    refine Calls.mono (h2 _).out ?_
    rintro _ w2 ⟨rfl, b2⟩
    clear h1 h2
    have t1 : (bs []).toList.isEmpty = true := by rw [bs_toList]; rfl
    go_wp2
    go_ret
    exact ⟨rfl, b1.trans (b2.mono b1.size)⟩
  | cons a A =>
    have t1 : (bs (a :: A)).toList.isEmpty = false := by rw [bs_toList]; rfl
    have HR : Hid (r = Z.isEmpty) := by show _ = _; rw [← H.out]; simp
    clear H
    cases Z with
    | nil =>
      have t2 : (bs []).toList.isEmpty = true := by rw [bs_toList]; rfl
      obtain rfl : r = true := HR.out
      go_enter Tryz.func36, Tryz.ntmps36
      go_wp2_with fail
      refine Calls.mono (h1 _).out ?_
      rintro _ w1 ⟨rfl, b1⟩
      go_wp2_with fail
      refine Calls.mono (h2 _).out ?_
      rintro _ w2 ⟨rfl, b2⟩
      clear h1 h2
      go_wp2
      go_ret
      exact ⟨rfl, b1.trans (b2.mono b1.size)⟩
    | cons z Z =>
      have t2 : (bs (z :: Z)).toList.isEmpty = false := by rw [bs_toList]; rfl
      obtain rfl : r = false := HR.out
      go_enter Tryz.func36, Tryz.ntmps36
      go_wp2_with fail
      refine Calls.mono (h1 _).out ?_
      rintro _ w1 ⟨rfl, b1⟩
      go_wp2_with fail
      refine Calls.mono (h2 _).out ?_
      rintro _ w2 ⟨rfl, b2⟩
      clear h1 h2
      go_wp2
      go_ret
      exact ⟨rfl, b1.trans (b2.mono b1.size)⟩
end Go.Proofs.YtnblbakjfpfipaaGreatDoor
