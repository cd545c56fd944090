import Derived.Test.YtgihginfegckcaaGreatDoorWcoM
/- lex's small functions: among, ahead, pastDigits, cutOne. -/
namespace Go.Proofs.YtgihginfegckcaaGreatDoor
open Go.RowKit

theorem index_neg' (l : List UInt8) (c : UInt8) : Lib.indexByte l c < 0 ↔ ∀ j : Nat, l[j]? ≠ some c := by
  have hge := Lib.indexByte_ge l c
  constructor
  · intro h j
    exact Lib.indexByte_none (by omega) j
  · intro h
    by_cases h0 : Lib.indexByte l c < 0
    · exact h0
    · obtain ⟨i, hi⟩ : ∃ i : Nat, Lib.indexByte l c = i := ⟨(Lib.indexByte l c).toNat, by omega⟩
      exact absurd (Lib.indexByte_some hi).1 (h i)
theorem indexByte_has (l : List UInt8) (c : UInt8) : decide (0 ≤ Lib.indexByte l c) = l.contains c := by
  by_cases h : c ∈ l
  · rw [List.contains_iff_mem.2 h]
    refine decide_eq_true ?_
    by_cases h2 : Lib.indexByte l c < 0
    · exfalso
      obtain ⟨j, hj, e⟩ := List.mem_iff_getElem.1 h
      exact (index_neg' l c).1 h2 j (by rw [List.getElem?_eq_getElem hj, e])
    · omega
  · have h2 : Lib.indexByte l c < 0 := (index_neg' l c).2 (fun j hj => h (List.mem_of_getElem? hj))
    rw [decide_eq_false (by omega)]
    simpa using h
set_option maxRecDepth 100000 in
set_option maxHeartbeats 400000 in
theorem among_any (l : List UInt8) (c : UInt8) (w : World) :
    Calls Tryz.prog 14 #[.string (bs l), .int .u8 (c.toNat : Int)] w fun e w' => e = .returned (.bool (l.contains c)) ∧ w' = w := by
  have HI : ∀ W, Hid (Calls Tryz.prog 24 #[.string (bs l), .int .u8 (c.toNat : Int)] W fun e w' => e = .returned (.int .i64 (Lib.indexByte l c)) ∧ w' = W) := fun W => by
    have e : ((c.toNat : Int)).toNat.toUInt8 = c := by simp
    have := Tryz.strings_IndexByte (bs l) (c.toNat : Int) W
    rw [e] at this
    exact this
  have HE : Hid (decide (0 ≤ Lib.indexByte l c) = l.contains c) := indexByte_has l c
  generalize Lib.indexByte l c = n at HI HE
  go_enter Tryz.func14, Tryz.ntmps14
  go_wp2_with fail
  refine Calls.mono (HI _).out ?_
  rintro _ w1 ⟨rfl, hw⟩
  rw [hw]
  clear hw w1
  go_wp2
  go_ret
  exact ⟨by rw [← HE.out]; rfl, rfl⟩
set_option maxRecDepth 100000 in
set_option maxHeartbeats 400000 in
theorem lexAhead_any (l cs : List UInt8) (hl : l.length ≤ 9223372036854775807) (hc : cs.length < 1000) (ha : cs.all (fun b => decide (b.toNat < 128)) = true) (w : World) :
    Calls Tryz.prog 30 #[.string (bs l), .string (bs cs)] w fun e w' => e = .returned (.tuple #[.string (bs (aheadL l cs)), .string (bs (behindL l cs))]) ∧ Below w.heap.size w w' := by
  have HT : Hid (Calls Tryz.prog 55 #[.string (bs l), .string (bs cs)] w fun e w' => e = .returned (.string (bs (behindL l cs))) ∧ Below w.heap.size w w') :=
    Tryz.strings_TrimLeft_laid (bs l) (bs cs) w (by rw [bs_size]; omega) (fun j b hb => by
      have := List.all_eq_true.1 ha b (List.mem_of_getElem? hb)
      simpa using this)
  have hk := ahead_len l cs
  have s1 := bs_size l
  have s2 := bs_size (behindL l cs)
  have e1 : wrap64 (((bs l).size : Int) - ((bs (behindL l cs)).size : Int)) = (((aheadL l cs).length : Nat) : Int) := by
    rw [wrap64_id _ (by omega)]; omega
  have e2 : (bs l).extract 0 (aheadL l cs).length = bs (aheadL l cs) := by rw [bs_take, ahead_take]
  have hle : (aheadL l cs).length ≤ (bs l).size := by omega
  clear s1 s2 hk
  go_enter Tryz.func30, Tryz.ntmps30
  go_wp2_with fail
  refine Calls.mono HT.out ?_
  rintro _ w1 ⟨rfl, hB⟩
  clear HT
  go_wp2
  go_ret2
  exact ⟨rfl, hB⟩
/-- What stands behind the digits; otherwise, if there are none. -/
def pastD (l o : List UInt8) : List UInt8 := if (aheadL l digL).isEmpty then o else behindL l digL
set_option maxRecDepth 100000 in
set_option maxHeartbeats 400000 in
theorem pastDigits_any (l o : List UInt8) (hl : l.length ≤ 9223372036854775807) (w : World) :
    Calls Tryz.prog 25 #[.string (bs l), .string (bs o)] w fun e w' => e = .returned (.string (bs (pastD l o))) ∧ Below w.heap.size w w' := by
  have HT : Hid (Calls Tryz.prog 30 #[.string (bs l), .string ⟨#[48, 49, 50, 51, 52, 53, 54, 55, 56, 57]⟩] w fun e w' => e = .returned (.tuple #[.string (bs (aheadL l digL)), .string (bs (behindL l digL))]) ∧ Below w.heap.size w w') := lexAhead_any l digL hl (by decide) (by decide) w
  unfold pastD
  rcases ha : aheadL l digL with _ | ⟨a, r⟩
  · rw [ha] at HT
    have eE : (bs []).toList.isEmpty = true := by rw [bs_toList]; rfl
    go_enter Tryz.func25, Tryz.ntmps25
    go_wp2_with fail
    refine Calls.mono HT.out ?_
    rintro _ w1 ⟨rfl, hB⟩
    clear HT
    go_wp2
    go_ret
    exact ⟨rfl, hB⟩
  · rw [ha] at HT
    have eE : (bs (a :: r)).toList.isEmpty = false := by rw [bs_toList]; rfl
    go_enter Tryz.func25, Tryz.ntmps25
    go_wp2_with fail
    refine Calls.mono HT.out ?_
    rintro _ w1 ⟨rfl, hB⟩
    clear HT
    go_wp2
    go_ret
    exact ⟨rfl, hB⟩
/-- A text without its first sign, if that is one of these. -/
def cutO (l cs : List UInt8) : List UInt8 × Bool := match l with
  | [] => ([], false)
  | a :: r => if cs.contains a then (r, true) else (a :: r, false)
set_option maxRecDepth 100000 in
set_option maxHeartbeats 400000 in
theorem cutOne_any (l cs : List UInt8) (w : World) :
    Calls Tryz.prog 26 #[.string (bs l), .string (bs cs)] w fun e w' => e = .returned (.tuple #[.string (bs (cutO l cs).1), .bool (cutO l cs).2]) ∧ w' = w := by
  rcases l with _ | ⟨a, r⟩
  · have eE : (bs []).toList.isEmpty = true := by rw [bs_toList]; rfl
    go_enter Tryz.func26, Tryz.ntmps26
    go_wp2
    go_ret2
    exact ⟨rfl, rfl⟩
  · have eE : (bs (a :: r)).toList.isEmpty = false := by rw [bs_toList]; rfl
    have h0 : 0 < (bs (a :: r)).size := by rw [bs_size]; simp
    have HG : (bs (a :: r))[0] = a := rfl
    have hsl : (1 : Int) ≤ ((bs (a :: r)).size : Int) := by omega
    have HA : ∀ W, Hid (Calls Tryz.prog 14 #[.string (bs cs), .int .u8 ((bs (a :: r))[0].toNat : Int)] W fun e w' => e = .returned (.bool (cs.contains a)) ∧ w' = W) := fun W => by rw [HG]; exact among_any cs a W
    have HX : Hid ((bs (a :: r)).extract 1 (bs (a :: r)).size = bs r) := by show _ = _; rw [bs_drop]; rfl
    unfold cutO
    clear HG
    simp only
    obtain ⟨b, hb⟩ : ∃ b, cs.contains a = b := ⟨_, rfl⟩
    rw [hb] at HA ⊢
    clear hb
    cases b
    · show Calls Tryz.prog 26 _ w fun e w' => e = .returned (.tuple #[.string (bs (a :: r)), .bool false]) ∧ w' = w
      go_enter Tryz.func26, Tryz.ntmps26
      go_wp2_with fail
      refine Calls.mono (HA _).out ?_
      rintro _ w1 ⟨rfl, hw⟩
      rw [hw]
      clear hw w1 HA
      go_wp2
      go_ret2
      exact ⟨rfl, rfl⟩
    · show Calls Tryz.prog 26 _ w fun e w' => e = .returned (.tuple #[.string (bs r), .bool true]) ∧ w' = w
      go_enter Tryz.func26, Tryz.ntmps26
      go_wp2_with fail
      refine Calls.mono (HA _).out ?_
      rintro _ w1 ⟨rfl, hw⟩
      rw [hw]
      clear hw w1 HA
      go_wp2
      go_ret2
      exact ⟨by rw [← HX.out]; rfl, rfl⟩
end Go.Proofs.YtgihginfegckcaaGreatDoor
