/- The program's Right: which names a file may have. -/
import Derived.Test.YtibnafngkcpafaaGreatDoorShf
import Derived.Test.YtibnafngkcpafaaGreatDoorTab
import Derived.WalkKit
import Derived.WalkSpells
namespace Go.Proofs.YtibnafngkcpafaaGreatDoor
open Go.RowKit

/-- May a name have this byte? -/
def okB (c : UInt8) : Bool := decide (32 ≤ c.toNat) && decide (c.toNat ≤ 126) && !decide (c.toNat = 92) && !decide (c.toNat = 58)

set_option maxHeartbeats 400000 in
theorem allowed_any (c : UInt8) (w : World) : Calls Tryz.prog 7 #[.int .u8 (c.toNat : Int)] w fun e w' => e = .returned (.bool (okB c)) ∧ w' = w := by
  by_cases h1 : 32 ≤ c.toNat
  rotate_left
  · have e : okB c = false := by simp [okB, h1]
    have h1' : ¬ ((32 : Int) ≤ (c.toNat : Int)) := by omega
    go_enter Tryz.func7, Tryz.ntmps7
    go_wp2
    go_ret
    exact ⟨by first | rfl | (rw [e]; rfl), rfl⟩
  have h1' : (32 : Int) ≤ (c.toNat : Int) := by omega
  by_cases h2 : c.toNat ≤ 126
  rotate_left
  · have e : okB c = false := by simp [okB, h2]
    have h2' : ¬ ((c.toNat : Int) ≤ 126) := by omega
    go_enter Tryz.func7, Tryz.ntmps7
    go_wp2
    go_ret
    exact ⟨by first | rfl | (rw [e]; rfl), rfl⟩
  have h2' : (c.toNat : Int) ≤ 126 := by omega
  by_cases h3 : c.toNat = 92
  · have e : okB c = false := by simp [okB, h3]
    go_enter Tryz.func7, Tryz.ntmps7
    rw [h3]
    go_wp2
    go_ret
    exact ⟨by first | rfl | (rw [e]; rfl), rfl⟩
  have h3' : ((c.toNat : Int) != 92) = true := by rw [bne_iff_ne]; omega
  by_cases h4 : c.toNat = 58
  · have e : okB c = false := by simp [okB, h4]
    go_enter Tryz.func7, Tryz.ntmps7
    rw [h4]
    go_wp2
    go_ret
    exact ⟨by first | rfl | (rw [e]; rfl), rfl⟩
  have h4' : ((c.toNat : Int) != 58) = true := by rw [bne_iff_ne]; omega
  have e : okB c = true := by simp [okB, h1, h2, h3, h4]
  go_enter Tryz.func7, Tryz.ntmps7
  go_wp2
  go_ret
  exact ⟨by first | rfl | (rw [e]; rfl), rfl⟩

/-- Is a part no name? -/
@[irreducible] def astray (p : ByteArray) : Bool := p.toList.isEmpty || p.toList == [46] || p.toList == [46, 46]

set_option maxHeartbeats 400000 in
theorem leads_any (p : ByteArray) (w : World) : Calls Tryz.prog 10 #[.string p] w fun e w' => e = .returned (.bool (astray p)) ∧ w' = w := by
  go_enter Tryz.func10, Tryz.ntmps10
  go_wp2
  all_goals
    go_ret
    refine ⟨congrArg (fun b => Ending.returned (.bool b)) ?_, rfl⟩
    unfold astray
    first
      | rfl
      | (rename_i h; simp [h])
      | (rename_i h1 h2; simp [h2])

/-- A slice of texts in memory. -/
def StrsIn (W : World) (b : Nat) (ps : List ByteArray) : Prop := ∀ j : Nat, j < ps.length → W.cell? ⟨b, j, none⟩ = some (.string (ps[j]?.getD .empty))

set_option maxHeartbeats 1000000 in
theorem indexAstray_any (b cap : Nat) (ps : List ByteArray) (w : World) (hl : ps.length ≤ 1000000) (hI : StrsIn w b ps) :
    Calls Tryz.prog 13 #[.slice (some ⟨b, 0, none⟩) ps.length cap, .func (.func 10) #[] #[]] w fun e w' => ∃ i : Int, e = .returned (.int .i64 i) ∧ decide (0 ≤ i) = ps.any astray ∧ w' = w := by
  go_enter Tryz.func13, Tryz.ntmps13
  go_wp2
  go_loop [8] (fun v8 => ∃ k : Nat, k ≤ ps.length ∧ v8 = .int .i64 (k : Int) ∧ Hid ((ps.take k).any astray = false)) (fun v8 => ps.length - (intOf v8).toNat)
  case atStart => exact ⟨0, Nat.zero_le _, rfl, by show _ = _; simp⟩
  case round =>
    obtain ⟨k, hk, rfl, HA⟩ := hrel
    by_cases hlt : k < ps.length
    · have hc := hI k hlt
      have HT : Hid ((ps.take (k + 1)).any astray = astray (ps[k]?.getD .empty)) := by
        have := HA.out
        show _ = _
        rw [List.take_succ_eq_append_getElem hlt, List.any_append, this, List.getElem?_eq_getElem hlt]
        simp
      have HM : Hid (ps[k]?.getD .empty ∈ ps) := by show _ ∈ _; rw [List.getElem?_eq_getElem hlt]; exact List.getElem_mem hlt
      generalize ps[k]?.getD .empty = p at hc HT HM
      have HL : Hid _ := leads_any p w
      cases ha : astray p
      all_goals
        rw [ha] at HL HT
        go_wp2_with fail
        refine Calls.mono HL.out ?_
        clear HL
        rintro e w1 ⟨rfl, rfl⟩
        go_wp2
      · go_round
        case rel => exact ⟨k + 1, by omega, by go_num, HT.out⟩
        case measure => simp [intOf]; omega
      · go_ret
        refine ⟨k, rfl, ?_, rfl⟩
        have h1 : ps.any astray = true := List.any_eq_true.2 ⟨p, HM.out, ha⟩
        rw [h1]
        simp
    · have t1 : ¬ ((k : Int) < (ps.length : Int)) := by omega
      go_wp2
      go_ret
      refine ⟨-1, rfl, ?_, rfl⟩
      have := HA.out
      rw [List.take_of_length_le (by omega)] at this
      rw [this]
      rfl

set_option maxHeartbeats 1000000 in
theorem anyAstray_any (b cap : Nat) (ps : List ByteArray) (w : World) (hl : ps.length ≤ 1000000) (hI : StrsIn w b ps) :
    Calls Tryz.prog 8 #[.slice (some ⟨b, 0, none⟩) ps.length cap, .func (.func 10) #[] #[]] w fun e w' => e = .returned (.bool (ps.any astray)) ∧ w' = w := by
  go_enter Tryz.func8, Tryz.ntmps8
  go_wp2_with fail
  refine (indexAstray_any b cap ps w hl hI).mono ?_
  rintro e w1 ⟨i, rfl, hi, rfl⟩
  have HI : Hid _ := hi
  clear hi
  go_wp2
  go_ret
  exact ⟨by rw [← HI.out]; rfl, rfl⟩
end Go.Proofs.YtibnafngkcpafaaGreatDoor
