/- The program's Right, whole. -/
import Derived.Test.YtibnafngkcpafaaGreatDoorZrt
import Derived.Lib.SplitLaws
namespace Go.Proofs.YtibnafngkcpafaaGreatDoor
open Go.RowKit

def slash : ByteArray := ⟨#[47]⟩
/-- What stands between slashes. -/
def partsOf (s : ByteArray) : List ByteArray := Lib.splitB ⟨#[47]⟩ 0 (Lib.countB s ⟨#[47]⟩) s
theorem partsOf_length (s : ByteArray) : (partsOf s).length = Lib.countB s ⟨#[47]⟩ + 1 := Lib.splitB_all ⟨#[47]⟩ (by decide) 0 _ s rfl
/-- May a file have this name? -/
@[irreducible] def rightS (s : ByteArray) : Bool := decide (s.size ≤ 255) && s.data.toList.all okB && !(partsOf s).any astray
theorem take_snocB (s : ByteArray) (k : Nat) (h : k < s.size) : s.data.toList.take (k + 1) = s.data.toList.take k ++ [s[k]] := by
  rw [List.take_succ_eq_append_getElem (by simpa using h)]; rfl

set_option maxRecDepth 100000 in
set_option maxHeartbeats 1000000 in
theorem right_any (s : ByteArray) (m : Int) (w : World) (hs : s.size ≤ maxLen) (hm : w.cell? ⟨0, 0, none⟩ = some (.int .i64 m)) :
    Calls Tryz.prog 4 #[.string s] w fun e w' => e = .returned (.bool (rightS s)) ∧ Below w.heap.size w w' := by
  unfold maxLen at hs
  obtain ⟨r, hr⟩ : ∃ r, rightS s = r := ⟨_, rfl⟩
  rw [hr]
  have H : Hid ((decide (s.size ≤ 255) && s.data.toList.all okB && !(partsOf s).any astray) = r) := by unfold rightS at hr; exact hr
  clear hr
  by_cases hbig : 255 < s.size
  · have e : r = false := by rw [← H.out]; simp; omega
    subst e
    have t1 : (255 : Int) < (s.size : Int) := by omega
    go_enter Tryz.func4, Tryz.ntmps4
    go_wp2
    go_ret
    exact ⟨rfl, Below.refl _ _⟩
  · have t1 : ¬ ((255 : Int) < (s.size : Int)) := by omega
    go_enter Tryz.func4, Tryz.ntmps4
    go_wp2
    go_loop [9] (fun v9 => ∃ k : Nat, k ≤ s.size ∧ v9 = .int .i64 (k : Int) ∧ Hid ((s.data.toList.take k).all okB = true)) (fun v9 => s.size - (intOf v9).toNat)
    case atStart => exact ⟨0, Nat.zero_le _, rfl, by show _ = _; simp⟩
    case round =>
      obtain ⟨k, hk, rfl, HA⟩ := hrel
      by_cases hlt : k < s.size
      · have HT : Hid ((s.data.toList.take (k + 1)).all okB = okB s[k]) := by
          have := HA.out
          show _ = _
          rw [take_snocB s k hlt, List.all_append, this]
          simp
        have HM : Hid (s[k] ∈ s.data.toList) := by show _ ∈ _; exact List.getElem_mem (by simpa using hlt)
        have HL : Hid (Calls Tryz.prog 7 #[.int .u8 (s[k].toNat : Int)] w _) := allowed_any s[k] w
        cases ha : okB s[k]
        all_goals
          rw [ha] at HL HT
          go_wp2_with fail
          refine Calls.mono HL.out ?_
          clear HL
          rintro e w1 ⟨rfl, rfl⟩
          go_wp2
        · go_ret
          have h1 : s.data.toList.all okB = false := by
            rw [List.all_eq_false]
            exact ⟨_, HM.out, by rw [ha]; simp⟩
          refine ⟨?_, Below.refl _ _⟩
          rw [← H.out, h1]
          simp
        · go_round
          case rel => exact ⟨k + 1, by omega, by go_num, HT.out⟩
          case measure => simp [intOf]; omega
      · have t2 : ¬ ((k : Int) < (s.size : Int)) := by omega
        have h1 : s.data.toList.all okB = true := by
          have := HA.out
          rwa [List.take_of_length_le (by simp; omega)] at this
        have HR : Hid (r = !(partsOf s).any astray) := by
          have := H.out
          rw [h1, show decide (s.size ≤ 255) = true from decide_eq_true (by omega)] at this
          show _ = _
          rw [← this]; simp
        have HCL : Hid (Lib.countB s ⟨#[47]⟩ ≤ 255) := by
          have := Lib.countB_le ⟨#[47]⟩ (by decide) s.size s (Nat.le_refl _)
          show _ ≤ _; omega
        have HS : Hid (Calls Tryz.prog 9 #[.string s, .string ⟨#[47]⟩] w _) := Tryz.strings_Split s ⟨#[47]⟩ m w (by omega) hm (by decide)
        have HPL : Hid ((partsOf s).length = Lib.countB s ⟨#[47]⟩ + 1) := partsOf_length s
        have HSI : Hid (StrsIn (w.alloc (.cells ((partsOf s).map Value.string).toArray 9)) w.heap.size (partsOf s)) := by
          intro j hj
          refine (Row.new w 9 _).cell ?_
          simp [hj]
        clear HA h1 H
        go_wp2_with fail
        refine Calls.mono HS.out ?_
        clear HS
        rintro e w1 ⟨rfl, rfl⟩
        have HAA : Hid _ := anyAstray_any w.heap.size (Lib.countB s ⟨#[47]⟩ + 1) (partsOf s) _ (by have := HPL.out; have := HCL.out; omega) HSI.out
        rw [HPL.out] at HAA
        go_wp2_with fail
        refine Calls.mono HAA.out ?_
        clear HAA
        rintro e w2 ⟨rfl, rfl⟩
        go_wp2
        go_ret
        exact ⟨by rw [HR.out]; rfl, (Below.refl _ w).alloc (Nat.le_refl _) _⟩
end Go.Proofs.YtibnafngkcpafaaGreatDoor
