import Derived.Test.YtnblbakjfpfipaaGreatDoorRlt
/- The document's plain. -/
namespace Go.Proofs.YtnblbakjfpfipaaGreatDoor
open Go.RowKit

def letB (c : UInt8) : Bool := (decide (65 ≤ c.toNat) && decide (c.toNat ≤ 90)) || (decide (97 ≤ c.toNat) && decide (c.toNat ≤ 122)) || decide (c.toNat = 95)
def digB (c : UInt8) : Bool := decide (48 ≤ c.toNat) && decide (c.toNat ≤ 57)
set_option maxRecDepth 100000 in
theorem let_alpha_all : (List.range 256).all (fun n => alphaL.contains (UInt8.ofNat n) == letB (UInt8.ofNat n)) = true := by kernel_rfl
set_option maxRecDepth 100000 in
theorem let_alnum_all : (List.range 256).all (fun n => alnumL.contains (UInt8.ofNat n) == (letB (UInt8.ofNat n) || digB (UInt8.ofNat n))) = true := by kernel_rfl
theorem let_alpha (c : UInt8) : alphaL.contains c = letB c := by
  have := List.all_eq_true.1 let_alpha_all c.toNat (List.mem_range.2 c.toNat_lt)
  rw [show UInt8.ofNat c.toNat = c from UInt8.toNat_inj.1 (by simp)] at this
  simpa using this
theorem let_alnum (c : UInt8) : alnumL.contains c = (letB c || digB c) := by
  have := List.all_eq_true.1 let_alnum_all c.toNat (List.mem_range.2 c.toNat_lt)
  rw [show UInt8.ofNat c.toNat = c from UInt8.toNat_inj.1 (by simp)] at this
  simpa using this
theorem behind_nil (l cs : List UInt8) (h : ∀ b ∈ l, cs.contains b = true) : behindL l cs = [] := by
  have := (ahead_app l [] cs h (fun b r e => by cases e)).2
  rwa [List.append_nil] at this
theorem plain_cons (a : UInt8) (r : List UInt8) : plainB (a :: r) = (letB a && r.all (fun b => letB b || digB b)) := by
  cases ha : letB a
  · unfold plainB aheadL
    rw [List.takeWhile_cons, let_alpha, ha]
    simp
  · cases hr : r.all (fun b => letB b || digB b)
    · cases hp : plainB (a :: r)
      · rfl
      · have hs := plain_signs hp
        exfalso
        have : r.all (fun b => letB b || digB b) = true := List.all_eq_true.2 (fun b hb => by rw [← let_alnum]; exact hs b (by simp [hb]))
        rw [this] at hr
        cases hr
    · have hs : ∀ b ∈ a :: r, alnumL.contains b = true := fun b hb => by
        rcases List.mem_cons.1 hb with rfl | hb
        · rw [let_alnum, ha]; rfl
        · rw [let_alnum]; exact List.all_eq_true.1 hr b hb
      have h1 : behindL (behindL (a :: r) alphaL) alnumL = [] := behind_nil _ _ (fun b hb => hs b (by
        rw [← ahead_behind (a :: r) alphaL]
        exact List.mem_append_right _ hb))
      unfold plainB
      rw [h1]
      unfold aheadL
      rw [List.takeWhile_cons, let_alpha, ha]
      rfl
set_option maxHeartbeats 1000000 in
theorem letter_any (c : UInt8) (w : World) : Calls Tryz.prog 58 #[.int .u8 (c.toNat : Int)] w fun e w' => e = .returned (.bool (letB c)) ∧ w' = w := by
  unfold letB
  by_cases h1 : 65 ≤ c.toNat
  · have h1' : (65 : Int) ≤ (c.toNat : Int) := by omega
    by_cases h2 : c.toNat ≤ 90
    · have h2' : (c.toNat : Int) ≤ 90 := by omega
      rw [decide_eq_true h1, decide_eq_true h2]
      clear h1 h2
      go_enter Tryz.func58, Tryz.ntmps58
      go_wp2
      go_ret
      exact ⟨rfl, rfl⟩
    · have h2' : ¬ ((c.toNat : Int) ≤ 90) := by omega
      rw [decide_eq_true h1, decide_eq_false h2]
      by_cases h3 : 97 ≤ c.toNat
      · have h3' : (97 : Int) ≤ (c.toNat : Int) := by omega
        by_cases h4 : c.toNat ≤ 122
        · have h4' : (c.toNat : Int) ≤ 122 := by omega
          rw [decide_eq_true h3, decide_eq_true h4]
          clear h1 h2 h3 h4
          go_enter Tryz.func58, Tryz.ntmps58
          go_wp2
          go_ret
          exact ⟨rfl, rfl⟩
        · have h4' : ¬ ((c.toNat : Int) ≤ 122) := by omega
          have h5 : ((c.toNat : Int) == 95) = false := by simp; omega
          rw [decide_eq_true h3, decide_eq_false h4, decide_eq_false (show ¬ c.toNat = 95 by omega)]
          clear h1 h2 h3 h4
          go_enter Tryz.func58, Tryz.ntmps58
          go_wp2
          go_ret
          exact ⟨rfl, rfl⟩
      · have h3' : ¬ ((97 : Int) ≤ (c.toNat : Int)) := by omega
        rw [decide_eq_false h3]
        by_cases h5 : c.toNat = 95
        · have h5' : ((c.toNat : Int) == 95) = true := by simp; omega
          rw [decide_eq_true h5]
          clear h1 h2 h3 h5
          go_enter Tryz.func58, Tryz.ntmps58
          go_wp2
          go_ret
          exact ⟨rfl, rfl⟩
        · have h5' : ((c.toNat : Int) == 95) = false := by simp; omega
          rw [decide_eq_false h5]
          clear h1 h2 h3 h5
          go_enter Tryz.func58, Tryz.ntmps58
          go_wp2
          go_ret
          exact ⟨rfl, rfl⟩
  · have h1' : ¬ ((65 : Int) ≤ (c.toNat : Int)) := by omega
    have h3' : ¬ ((97 : Int) ≤ (c.toNat : Int)) := by omega
    have h5' : ((c.toNat : Int) == 95) = false := by simp; omega
    rw [decide_eq_false h1, decide_eq_false (show ¬ 97 ≤ c.toNat by omega), decide_eq_false (show ¬ c.toNat = 95 by omega)]
    clear h1
    go_enter Tryz.func58, Tryz.ntmps58
    go_wp2
    go_ret
    exact ⟨rfl, rfl⟩
set_option maxHeartbeats 1000000 in
theorem digit_any (c : UInt8) (w : World) : Calls Tryz.prog 59 #[.int .u8 (c.toNat : Int)] w fun e w' => e = .returned (.bool (digB c)) ∧ w' = w := by
  unfold digB
  by_cases h1 : 48 ≤ c.toNat
  · have h1' : (48 : Int) ≤ (c.toNat : Int) := by omega
    rw [decide_eq_true h1]
    by_cases h2 : c.toNat ≤ 57
    · have h2' : (c.toNat : Int) ≤ 57 := by omega
      rw [decide_eq_true h2]
      clear h1 h2
      go_enter Tryz.func59, Tryz.ntmps59
      go_wp2
      go_ret
      exact ⟨rfl, rfl⟩
    · have h2' : ¬ ((c.toNat : Int) ≤ 57) := by omega
      rw [decide_eq_false h2]
      clear h1 h2
      go_enter Tryz.func59, Tryz.ntmps59
      go_wp2
      go_ret
      exact ⟨rfl, rfl⟩
  · have h1' : ¬ ((48 : Int) ≤ (c.toNat : Int)) := by omega
    rw [decide_eq_false h1]
    clear h1
    go_enter Tryz.func59, Tryz.ntmps59
    go_wp2
    go_ret
    exact ⟨rfl, rfl⟩
set_option maxRecDepth 100000 in
set_option maxHeartbeats 2000000 in
theorem refPlain_any (l : List UInt8) (hl : l.length ≤ 9223372036854775807) (w : World) : Calls Tryz.prog 38 #[.string (bs l)] w fun e w' => e = .returned (.bool (plainB l)) ∧ w' = w := by
  cases l with
  | nil =>
    have e : plainB [] = false := by unfold plainB; rfl
    rw [e]
    have t0 : (((bs []).size : Int) == 0) = true := by rw [bs_size]; rfl
    go_enter Tryz.func38, Tryz.ntmps38
    go_wp2
    go_ret
    exact ⟨rfl, rfl⟩
  | cons a r =>
    rw [plain_cons]
    have HS : Hid ((bs (a :: r)).size = r.length + 1) := by show _ = _; rw [bs_size]; rfl
    have hsz : (bs (a :: r)).size ≤ 9223372036854775807 := by rw [bs_size]; exact hl
    have h0 : 0 < (bs (a :: r)).size := by have := HS.out; omega
    have t0 : (((bs (a :: r)).size : Int) == 0) = false := beq_eq_false_iff_ne.2 (by omega)
    have HG0 : Hid ((bs (a :: r))[0] = a) := rfl
    have HL0 : ∀ W, Hid (Calls Tryz.prog 58 #[.int .u8 ((bs (a :: r))[0].toNat : Int)] W fun e w' => e = .returned (.bool (letB a)) ∧ w' = W) := fun W => letter_any a W
    clear hl
    cases ha : letB a
    · rw [ha] at HL0
      go_enter Tryz.func38, Tryz.ntmps38
      go_wp2_with fail
      refine Calls.mono (HL0 _).out ?_
      rintro _ w1 ⟨rfl, rfl⟩
      clear HL0
      go_wp2
      go_ret
      exact ⟨rfl, rfl⟩
    · rw [ha] at HL0
      obtain ⟨q, hq⟩ : ∃ q, (r.all (fun b => letB b || digB b)) = q := ⟨_, rfl⟩
      rw [hq]
      have H : Hid ((r.all (fun b => letB b || digB b)) = q) := hq
      clear hq
      go_enter Tryz.func38, Tryz.ntmps38
      go_wp2_with fail
      refine Calls.mono (HL0 _).out ?_
      rintro _ w1 ⟨rfl, rfl⟩
      clear HL0
      go_wp2
      go_loop [3] (fun v3 => ∃ k : Nat, 1 ≤ k ∧ k ≤ (bs (a :: r)).size ∧ v3 = .int .i64 (k : Int) ∧ Hid ((r.take (k - 1)).all (fun b => letB b || digB b) = true)) (fun v3 => (bs (a :: r)).size - (intOf v3).toNat)
      case atStart => exact ⟨1, by omega, by omega, rfl, rfl⟩
      case round =>
        obtain ⟨k, hk1, hk, rfl, HA⟩ := hrel
        by_cases hlt : k < (bs (a :: r)).size
        · obtain ⟨c, hc⟩ : ∃ c, (bs (a :: r))[k] = c := ⟨_, rfl⟩
          have HK : Hid (r[k - 1]? = some c) := by
            have h1 : k - 1 < r.length := by have := HS.out; omega
            show _ = _
            rw [List.getElem?_eq_getElem h1, ← hc]
            show some r[k - 1] = some ((a :: r)[k]'(by simp; omega))
            obtain ⟨j, rfl⟩ : ∃ j, k = j + 1 := ⟨k - 1, by omega⟩
            rfl
          have HT : Hid ((r.take (k + 1 - 1)).all (fun b => letB b || digB b) = (letB c || digB c)) := by
            have h1 : k - 1 < r.length := by have := HS.out; omega
            have e : r.take (k + 1 - 1) = r.take (k - 1) ++ [c] := by
              rw [show k + 1 - 1 = (k - 1) + 1 by omega, List.take_succ_eq_append_getElem h1]
              have := HK.out
              rw [List.getElem?_eq_getElem h1] at this
              rw [Option.some.inj this]
            show _ = _
            rw [e, List.all_append, HA.out]
            simp
          have HN : Hid ((letB c || digB c) = false → q = false) := by
            intro hf
            rw [← H.out]
            exact List.all_eq_false.2 ⟨c, List.mem_of_getElem? HK.out, by rw [hf]; simp⟩
          have HL : ∀ W, Hid (Calls Tryz.prog 58 #[.int .u8 ((bs (a :: r))[k].toNat : Int)] W fun e w' => e = .returned (.bool (letB c)) ∧ w' = W) := fun W => by rw [hc]; exact letter_any c W
          have HD : ∀ W, Hid (Calls Tryz.prog 59 #[.int .u8 ((bs (a :: r))[k].toNat : Int)] W fun e w' => e = .returned (.bool (digB c)) ∧ w' = W) := fun W => by rw [hc]; exact digit_any c W
          have HK1 : Hid (k + 1 ≤ (bs (a :: r)).size) := hlt
          clear hc HK HA
          cases h1 : letB c
          · rw [h1] at HL HT HN
            cases h2 : digB c
            · rw [h2] at HD HT HN
              obtain rfl : q = false := HN.out rfl
              clear HT HN
              go_wp2_with fail
              refine Calls.mono (HL _).out ?_
              rintro _ w1 ⟨rfl, rfl⟩
              go_wp2_with fail
              refine Calls.mono (HD _).out ?_
              rintro _ w1 ⟨rfl, rfl⟩
              clear HL HD
              go_wp2
              go_ret
              exact ⟨rfl, rfl⟩
            · rw [h2] at HD HT
              clear HN
              go_wp2_with fail
              refine Calls.mono (HL _).out ?_
              rintro _ w1 ⟨rfl, rfl⟩
              go_wp2_with fail
              refine Calls.mono (HD _).out ?_
              rintro _ w1 ⟨rfl, rfl⟩
              clear HL HD
              go_wp2
              go_round
              case rel => exact ⟨k + 1, by omega, HK1.out, by go_num, HT.out⟩
              case measure => have := HK1.out; simp [intOf]; omega
          · rw [h1] at HL HT
            clear HN HD
            go_wp2_with fail
            refine Calls.mono (HL _).out ?_
            rintro _ w1 ⟨rfl, rfl⟩
            clear HL
            go_wp2
            go_round
            case rel => exact ⟨k + 1, by omega, HK1.out, by go_num, by have := HT.out; rw [Bool.true_or] at this; exact this⟩
            case measure => have := HK1.out; simp [intOf]; omega
        · have t2 : ¬ ((k : Int) < ((bs (a :: r)).size : Int)) := by omega
          obtain rfl : q = true := by
            have := HA.out
            rw [List.take_of_length_le (by have := HS.out; omega)] at this
            rw [← H.out]; exact this
          clear HA H
          go_wp2
          go_ret
          exact ⟨rfl, rfl⟩
end Go.Proofs.YtnblbakjfpfipaaGreatDoor
