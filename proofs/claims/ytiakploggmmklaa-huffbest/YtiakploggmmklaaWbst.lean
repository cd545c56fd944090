/- The walk of HuffBest: for any list of how often symbols come (within the form's reach) and any limit, Lengths refuses what it must, and else makes right lengths within the limit, of the symbols that come and of no other, at the least cost; no condition. -/
import Derived.Test.YtiakploggmmklaaLive
import Derived.Test.YtiakploggmmklaaRcs
import Derived.Test.YtiakploggmmklaaRrt
import Derived.Test.YtiakploggmmklaaRwi
import Derived.Test.YtiakploggmmklaaBst
import Derived.Test.YtiakploggmmklaaLne
import Derived.Test.YtiakploggmmklaaLnz
import Derived.Test.YtiakploggmmklaaLst
namespace Go.Proofs.Ytiakploggmmklaa.huffBest
open Go.ChangeShapes Go.WideShapes Go.ChangeAt Go.RowKit

/-- What Lengths must refuse. -/
def BadF (fs : List Int) (limit : Int) : Prop :=
  320 < fs.length ∨ limit < 1 ∨ 15 < limit ∨ (∃ i, i < fs.length ∧ ¬ (0 ≤ fs[i]?.getD 0 ∧ fs[i]?.getD 0 ≤ 1073741824)) ∨ 2 ^ limit.toNat < (ordL fs fs.length).length
/-- What Lengths answers. -/
def Ans (fs : List Int) (limit : Int) (e : Ending) (w' : World) : Prop :=
  (BadF fs limit ∧ NoLen e) ∨ (¬ BadF fs limit ∧ ∃ GL ls R, e = .returned (.tuple #[.slice (some ⟨GL, 0, none⟩) fs.length fs.length, .int .i64 0]) ∧ Row w' GL 3 (intsV ls) ∧ Best fs ls limit.toNat R ∧ LeastIs fs limit.toNat R)
theorem lens_any (a : Option Addr) (cap : Nat) (limit : Int) (fs : List Int) (w : World) (hF : IntsIn (· < w.heap.size) w (.slice a fs.length cap) fs) (hzi : AreInts fs) :
    Calls Try.prog 4 #[.slice a fs.length cap, .int .i64 limit] w fun e w' => Ans fs limit e w' ∧ Below w.heap.size w w' := by
  have hS : ∀ k, k < w.heap.size → k < w.heap.size := fun _ h => h
  by_cases hb1 : 320 < fs.length ∨ limit < 1 ∨ 15 < limit
  · refine (lengths_bad1 a cap limit fs.length w hb1).mono ?_
    rintro e w' ⟨h1, h2⟩
    refine ⟨.inl ⟨?_, h1⟩, h2⟩
    rcases hb1 with h | h | h
    · exact .inl h
    · exact .inr (.inl h)
    · exact .inr (.inr (.inl h))
  obtain ⟨lm, rfl⟩ : ∃ lm : Nat, limit = (lm : Int) := ⟨limit.toNat, by omega⟩
  by_cases hb2 : ∃ i, i < fs.length ∧ ¬ (0 ≤ fs[i]?.getD 0 ∧ fs[i]?.getD 0 ≤ 1073741824)
  · refine (lengths_bad2 (· < w.heap.size) a cap lm fs w hS hF (by omega) (by omega) (by omega) hzi hb2).mono ?_
    rintro e w' ⟨h1, h2⟩
    exact ⟨.inl ⟨.inr (.inr (.inr (.inl hb2))), h1⟩, h2⟩
  have hfs : ∀ z ∈ fs, 0 ≤ z ∧ z ≤ 1073741824 := fun z hz => by
    obtain ⟨i, hi, rfl⟩ := List.mem_iff_getElem.1 hz
    apply Classical.byContradiction
    intro h9
    exact hb2 ⟨i, hi, by rw [List.getElem?_eq_getElem hi, Option.getD_some]; exact h9⟩
  by_cases hb3 : 2 ^ lm < (ordL fs fs.length).length
  · refine (lengths_long (· < w.heap.size) a cap lm fs w hS hF (by omega) (by omega) (by omega) hfs hb3).mono ?_
    rintro e w' ⟨h1, h2⟩
    exact ⟨.inl ⟨.inr (.inr (.inr (.inr (by rw [Int.toNat_natCast]; exact hb3)))), h1⟩, h2⟩
  have hgood : ¬ BadF fs (lm : Int) := by
    rintro (h | h | h | h | h)
    · omega
    · omega
    · omega
    · exact hb2 h
    · rw [Int.toNat_natCast] at h; exact hb3 h
  obtain ⟨n, hn⟩ : ∃ n, (ordL fs fs.length).length = n := ⟨_, rfl⟩
  rcases Nat.lt_or_ge n 1 with h0 | h0
  · have hz : ∀ z ∈ fs, z = 0 := fun z hz => by
      obtain ⟨i, hi, rfl⟩ := List.mem_iff_getElem.1 hz
      have h8 := hfs _ hz
      by_cases h9 : 0 < fs[i]
      · have := ordL_has fs fs.length i hi (by rw [List.getElem?_eq_getElem hi, Option.getD_some]; exact h9)
        rw [List.eq_nil_of_length_eq_zero (show (ordL fs fs.length).length = 0 by omega)] at this
        cases this
      · omega
    refine (lengths_zero (· < w.heap.size) a cap lm fs w hS hF (by omega) (by omega) (by omega) hz).mono ?_
    rintro e w' ⟨GL, he, hr, hB⟩
    refine ⟨.inr ⟨hgood, GL, _, 0, he, hr, ?_, ?_⟩, hB⟩
    · rw [Int.toNat_natCast]
      exact best_zero fs lm hz (by omega) (by omega)
    · exact ⟨fun _ => rfl, fun h => by omega, fun h => by omega⟩
  rcases Nat.lt_or_ge n 2 with h1 | h1
  · obtain ⟨x, hx⟩ := List.length_eq_one_iff.1 (show (ordL fs fs.length).length = 1 by omega)
    have hx0 := ordL_mem fs fs.length x (by rw [hx]; simp)
    obtain ⟨z, rfl⟩ : ∃ z : Nat, x = (z : Int) := ⟨x.toNat, by omega⟩
    refine (lengths_one (· < w.heap.size) a cap lm fs w hS hF (by omega) (by omega) (by omega) hfs z hx).mono ?_
    rintro e w' ⟨GL, he, hr, hB⟩
    refine ⟨.inr ⟨hgood, GL, _, fs[z]?.getD 0, he, hr, ?_, ?_⟩, hB⟩
    · rw [Int.toNat_natCast]
      exact best_one fs lm z hfs (by omega) hx (by omega) (by omega)
    · refine ⟨fun h => by omega, fun _ => ?_, fun h => by omega⟩
      rw [hx]
      simp [gt, keyF]
  · refine (lengths_two (· < w.heap.size) a cap lm fs w hS hF (by omega) (by omega) (by omega) hfs (by omega) (by omega)).mono ?_
    rintro e w' ⟨GL, os, he, hp, hs, hr, hB⟩
    have hol := hp.length_eq
    refine ⟨.inr ⟨hgood, GL, _, wsum ((rowN (singlesL fs os) (lm - 1)).take (2 * os.length - 2)), he, hr, ?_, ?_⟩, hB⟩
    · rw [Int.toNat_natCast]
      exact best_two fs os lm hfs (by omega) hp hs (by omega) (by omega) (by omega) (by omega)
    · rw [Int.toNat_natCast]
      exact ⟨fun h => by omega, fun h => by omega, fun _ => ⟨os, hp, hs, rfl⟩⟩

/-- What the law's own loop finds bad. -/
def badN (b0 : Bool) (fs : List Int) : Nat → Bool
  | 0 => b0
  | k + 1 => badN b0 fs k || decide (fs[k]?.getD 0 < 0) || decide (1073741824 < fs[k]?.getD 0)
theorem badN_true (b0 : Bool) (fs : List Int) : ∀ k, badN b0 fs k = true → b0 = true ∨ ∃ i, i < k ∧ ¬ (0 ≤ fs[i]?.getD 0 ∧ fs[i]?.getD 0 ≤ 1073741824)
  | 0, h => .inl h
  | k + 1, h => by
    rw [badN, Bool.or_eq_true, Bool.or_eq_true, decide_eq_true_iff, decide_eq_true_iff] at h
    rcases h with (h | h) | h
    · rcases badN_true b0 fs k h with h | ⟨i, h1, h2⟩
      · exact .inl h
      · exact .inr ⟨i, by omega, h2⟩
    · exact .inr ⟨k, by omega, by omega⟩
    · exact .inr ⟨k, by omega, by omega⟩
theorem badN_false (b0 : Bool) (fs : List Int) : ∀ k, badN b0 fs k = false → b0 = false ∧ ∀ i, i < k → 0 ≤ fs[i]?.getD 0 ∧ fs[i]?.getD 0 ≤ 1073741824
  | 0, h => ⟨h, fun i hi => by omega⟩
  | k + 1, h => by
    rw [badN, Bool.or_eq_false_iff, Bool.or_eq_false_iff, decide_eq_false_iff_not, decide_eq_false_iff_not] at h
    obtain ⟨h1, h2⟩ := badN_false b0 fs k h.1.1
    refine ⟨h1, fun i hi => ?_⟩
    by_cases e : i = k
    · subst e; omega
    · exact h2 i (by omega)

set_option maxRecDepth 100000 in
set_option maxHeartbeats 8000000 in
theorem walk (a : Option Addr) (cap : Nat) (limit : Int) (fs : List Int) (w : World) (hF : IntsIn (· < w.heap.size) w (.slice a fs.length cap) fs) (hzi : AreInts fs) (hl : fs.length ≤ 140737488355328) (hli : -9223372036854775808 ≤ limit ∧ limit ≤ 9223372036854775807) :
    Calls Try.prog 3 #[.slice a fs.length cap, .int .i64 limit] w fun e w' => e = .returned (.bool true) ∧ Below w.heap.size w w' := by
  have H1 : Hid _ := lens_any a cap limit fs w hF hzi
  go_enter Try.func3, Try.ntmps3
  go_wp2_with fail
  refine Calls.mono H1.out ?_
  rintro e w1 ⟨hA, hB1⟩
  have hs1 := hB1.size
  obtain ⟨l, er, rfl, HA⟩ : ∃ l er, e = .returned (.tuple #[l, .int .i64 er]) ∧ Hid (Ans fs limit (.returned (.tuple #[l, .int .i64 er])) w1) := by
    rcases hA with ⟨h1, h2⟩ | ⟨h1, GL, ls, R, rfl, h3⟩
    · exact ⟨_, _, h2, .inl ⟨h1, rfl⟩⟩
    · exact ⟨_, _, rfl, .inr ⟨h1, GL, ls, R, rfl, h3⟩⟩
  clear hA H1
  go_wp2_with fail
  refine (alive_any w1).mono ?_
  rintro e w2 ⟨rfl, hB2⟩
  have hs2 := hB2.size
  have hB12 : Below w.heap.size w w2 := hB1.trans (hB2.mono hs1)
  have HB12 : Hid _ := hB12
  have HF2 : Hid (IntsIn (· < w.heap.size) w2 (.slice a fs.length cap) fs) := hF.below hB12
  have HB2 : Hid _ := hB2
  clear hB1 hB2 hB12 hF
  obtain ⟨b0, HB0⟩ : ∃ b0, Hid (b0 = (decide (320 < fs.length) || decide (limit < 1) || decide (15 < limit))) := ⟨_, rfl⟩
  obtain ⟨N, hN⟩ : ∃ N, fs.length = N := ⟨_, rfl⟩
  have HN : Hid _ := hN
  rw [hN] at hl HB0 HF2
  rw [hN]
  clear hN
  have HLI : Hid (BadF fs limit ↔ b0 = true ∨ (∃ i, i < N ∧ ¬ (0 ≤ fs[i]?.getD 0 ∧ fs[i]?.getD 0 ≤ 1073741824)) ∨ 2 ^ limit.toNat < (ordL fs N).length) := by
    show _ ↔ _
    have h0 := HB0.out
    have hN := HN.out
    subst hN
    unfold BadF
    constructor
    · rintro (h | h | h | h | h)
      · exact .inl (by rw [h0]; simp [h])
      · exact .inl (by rw [h0]; simp [h])
      · exact .inl (by rw [h0]; simp [h])
      · exact .inr (.inl h)
      · exact .inr (.inr h)
    · rintro (h | h | h)
      · rw [h0, Bool.or_eq_true, Bool.or_eq_true, decide_eq_true_iff, decide_eq_true_iff, decide_eq_true_iff] at h
        rcases h with (h | h) | h
        · exact .inl h
        · exact .inr (.inl h)
        · exact .inr (.inr (.inl h))
      · exact .inr (.inr (.inr (.inl h)))
      · exact .inr (.inr (.inr (.inr h)))
  have HLL : Hid (b0 = false → N ≤ 320 ∧ 1 ≤ limit ∧ limit ≤ 15) := by
    intro h
    rw [HB0.out, Bool.or_eq_false_iff, Bool.or_eq_false_iff, decide_eq_false_iff_not, decide_eq_false_iff_not, decide_eq_false_iff_not] at h
    omega
  rcases (show (320 < N ∧ b0 = true) ∨ (¬ 320 < N ∧ limit < 1 ∧ b0 = true) ∨ (¬ 320 < N ∧ ¬ limit < 1 ∧ 15 < limit ∧ b0 = true) ∨ (¬ 320 < N ∧ ¬ limit < 1 ∧ ¬ 15 < limit ∧ b0 = false) by
    rw [HB0.out]
    by_cases c1 : 320 < N
    · exact .inl ⟨c1, by simp [c1]⟩
    · by_cases c2 : limit < 1
      · exact .inr (.inl ⟨c1, c2, by simp [c2]⟩)
      · by_cases c3 : 15 < limit
        · exact .inr (.inr (.inl ⟨c1, c2, c3, by simp [c3]⟩))
        · exact .inr (.inr (.inr ⟨c1, c2, c3, by simp [c1, c2, c3]⟩))) with ⟨c1, hb0⟩ | ⟨c1, c2, hb0⟩ | ⟨c1, c2, c3, hb0⟩ | ⟨c1, c2, c3, hb0⟩
  all_goals
    have HX0 : Hid _ := hb0
    clear hb0 HB0
    go_wp2_with fail
    go_loopw [7, 8, 9] (fun v7 v8 v9 wr => ∃ (k th : Nat) (b : Bool), k ≤ N ∧ th ≤ k ∧ v9 = .int .i64 (k : Int) ∧ v7 = .int .i64 (th : Int) ∧ v8 = .bool b ∧ Hid (badN b0 fs k = b) ∧ Hid ((ordL fs k).length = th) ∧ wr = w2) (fun _ _ v9 _ => N - (intOf v9).toNat)
    case atStart => exact ⟨0, 0, _, by omega, by omega, rfl, rfl, rfl, (by first | exact HX0 | (show b0 = _; rw [HX0.out]; simp; omega)), rfl, rfl⟩
    case round =>
      obtain ⟨k, th, b, hk, hth, rfl, rfl, rfl, HBK, HTK, rfl⟩ := hrel
      by_cases hlt : k < N
      · obtain ⟨bf, of, rfl, hbf, ef⟩ := HF2.out.at k (by rw [HN.out]; exact hlt)
        have hfb := hzi k
        obtain ⟨f, HFK⟩ : ∃ f, Hid (fs[k]?.getD 0 = f) := ⟨_, rfl⟩
        rw [HFK.out] at hfb ef
        cases b with
        | true =>
          by_cases hp0 : 0 < f
          · have HB9 : Hid (badN b0 fs (k + 1) = true) := by show _ = _; rw [badN, HBK.out, HFK.out]; simp; try omega
            have HC9 : Hid ((ordL fs (k + 1)).length = th + 1) := by show _ = _; rw [ordL, HFK.out, if_pos hp0]; simp [HTK.out]
            clear HBK HTK HFK
            go_wp2
            go_roundw
            case rel => exact ⟨k + 1, th + 1, true, by omega, by omega, by simp, by first | rfl | simp, rfl, HB9, HC9, by first | trivial | rfl⟩
            case measure => simp [intOf]; omega
          · have HB9 : Hid (badN b0 fs (k + 1) = true) := by show _ = _; rw [badN, HBK.out, HFK.out]; simp; try omega
            have HC9 : Hid ((ordL fs (k + 1)).length = th) := by show _ = _; rw [ordL, HFK.out, if_neg hp0]; simp [HTK.out]
            clear HBK HTK HFK
            go_wp2
            go_roundw
            case rel => exact ⟨k + 1, th, true, by omega, by omega, by simp, by first | rfl | simp, rfl, HB9, HC9, by first | trivial | rfl⟩
            case measure => simp [intOf]; omega
        | false =>
          by_cases hn0 : f < 0
          · have hp0 : ¬ 0 < f := by omega
            have HB9 : Hid (badN b0 fs (k + 1) = true) := by show _ = _; rw [badN, HBK.out, HFK.out]; simp; try omega
            have HC9 : Hid ((ordL fs (k + 1)).length = th) := by show _ = _; rw [ordL, HFK.out, if_neg hp0]; simp [HTK.out]
            clear HBK HTK HFK
            go_wp2
            go_roundw
            case rel => exact ⟨k + 1, th, true, by omega, by omega, by simp, by first | rfl | simp, rfl, HB9, HC9, by first | trivial | rfl⟩
            case measure => simp [intOf]; omega
          by_cases hn1 : 1073741824 < f
          · have hp0 : 0 < f := by omega
            have HB9 : Hid (badN b0 fs (k + 1) = true) := by show _ = _; rw [badN, HBK.out, HFK.out]; simp; try omega
            have HC9 : Hid ((ordL fs (k + 1)).length = th + 1) := by show _ = _; rw [ordL, HFK.out, if_pos hp0]; simp [HTK.out]
            clear HBK HTK HFK
            go_wp2
            go_roundw
            case rel => exact ⟨k + 1, th + 1, true, by omega, by omega, by simp, by first | rfl | simp, rfl, HB9, HC9, by first | trivial | rfl⟩
            case measure => simp [intOf]; omega
          by_cases hp0 : 0 < f
          · have HB9 : Hid (badN b0 fs (k + 1) = false) := by show _ = _; rw [badN, HBK.out, HFK.out]; simp; try omega
            have HC9 : Hid ((ordL fs (k + 1)).length = th + 1) := by show _ = _; rw [ordL, HFK.out, if_pos hp0]; simp [HTK.out]
            clear HBK HTK HFK
            go_wp2
            go_roundw
            case rel => exact ⟨k + 1, th + 1, false, by omega, by omega, by simp, by first | rfl | simp, rfl, HB9, HC9, by first | trivial | rfl⟩
            case measure => simp [intOf]; omega
          · have HB9 : Hid (badN b0 fs (k + 1) = false) := by show _ = _; rw [badN, HBK.out, HFK.out]; simp; try omega
            have HC9 : Hid ((ordL fs (k + 1)).length = th) := by show _ = _; rw [ordL, HFK.out, if_neg hp0]; simp [HTK.out]
            clear HBK HTK HFK
            go_wp2
            go_roundw
            case rel => exact ⟨k + 1, th, false, by omega, by omega, by simp, by first | rfl | simp, rfl, HB9, HC9, by first | trivial | rfl⟩
            case measure => simp [intOf]; omega
      · obtain rfl : k = N := by omega
        cases b with
        | true =>
          have hbad : BadF fs limit := HLI.out.2 ((badN_true b0 fs k HBK.out).imp id .inl)
          obtain ⟨rfl, rfl⟩ : l = .slice none 0 0 ∧ er = 1 := by
            rcases HA.out with ⟨_, h⟩ | ⟨h, _⟩
            · unfold NoLen at h
              simp at h
              exact h
            · exact absurd hbad h
          clear HA HLI HLL HBK HTK HF2 HB2 hbad
          go_wp2
          go_ret
          exact ⟨rfl, HB12.out⟩
        | false =>
          obtain ⟨hbf, hin⟩ := badN_false b0 fs k HBK.out
          first
            | (exfalso; rw [HX0.out] at hbf; cases hbf; done)
            | (
              obtain ⟨g1, g2, g3⟩ := HLL.out hbf
              obtain ⟨lm, rfl⟩ : ∃ lm : Nat, limit = (lm : Int) := ⟨limit.toNat, by omega⟩
              have h2l : 2 ^ lm ≤ 2 ^ 15 := Nat.pow_le_pow_right (by omega) (by omega)
              have hp1 : ((2 ^ lm : Nat) : Int) = (2 : Int) ^ lm := by simp
              have hnn : 0 ≤ (2 : Int) ^ lm := by rw [← hp1]; exact Int.natCast_nonneg _
              have hw : wrap64 ((2 : Int) ^ lm) = (2 : Int) ^ lm := wrap64_id _ (by omega)
              by_cases hmany : 2 ^ lm < th
              · have hbad : BadF fs (lm : Int) := HLI.out.2 (.inr (.inr (by rw [Int.toNat_natCast, HTK.out]; exact hmany)))
                obtain ⟨rfl, rfl⟩ : l = .slice none 0 0 ∧ er = 1 := by
                  rcases HA.out with ⟨_, h⟩ | ⟨h, _⟩
                  · unfold NoLen at h
                    simp at h
                    exact h
                  · exact absurd hbad h
                have t4 : (2 : Int) ^ lm < (th : Int) := by omega
                clear HA HLI HLL HBK HTK HF2 HB2 hbad hin hp1 h2l
                go_wp2
                go_ret
                exact ⟨rfl, HB12.out⟩
              · have hgood : ¬ BadF fs (lm : Int) := fun h => by
                  rcases HLI.out.1 h with h | ⟨i, h1, h2⟩ | h
                  · rw [hbf] at h; cases h
                  · exact h2 (hin i h1)
                  · rw [Int.toNat_natCast, HTK.out] at h; exact hmany h
                obtain ⟨GL, ls, R, he, hRow, hBest, hLeast⟩ : ∃ GL ls R, Ending.returned (.tuple #[l, .int .i64 er]) = .returned (.tuple #[.slice (some ⟨GL, 0, none⟩) fs.length fs.length, .int .i64 0]) ∧ Row w1 GL 3 (intsV ls) ∧ Best fs ls (lm : Int).toNat R ∧ LeastIs fs (lm : Int).toNat R := by
                  rcases HA.out with ⟨h, _⟩ | ⟨_, h⟩
                  · exact absurd h hgood
                  · exact h
                rw [Int.toNat_natCast] at hBest hLeast
                simp only [Ending.returned.injEq, Value.tuple.injEq, Array.mk.injEq, List.cons.injEq, and_true, Value.int.injEq, true_and] at he
                obtain ⟨rfl, rfl⟩ := he
                have hfs : ∀ z ∈ fs, 0 ≤ z ∧ z ≤ 1073741824 := fun z hz => by
                  obtain ⟨i, hi, rfl⟩ := List.mem_iff_getElem.1 hz
                  have := hin i (by rw [← HN.out]; exact hi)
                  rwa [List.getElem?_eq_getElem hi, Option.getD_some] at this
                have t4 : ¬ (2 : Int) ^ lm < (th : Int) := by omega
                have HMN : Hid ((ordL fs k).length ≤ 2 ^ lm) := by show _ ≤ _; rw [HTK.out]; omega
                have hs12 := HB12.out.size
                have hGL := hRow.lt
                have hR2 : Row wr GL 3 (intsV ls) := hRow.below HB2.out hGL
                have HLS : Hid (IntsIn (fun x => x < wr.heap.size) wr (.slice (some ⟨GL, 0, none⟩) ls.length k) ls) := OrdIn.ints (S := fun x => x < wr.heap.size) ⟨intsV ls, hR2, by simp [intsV], fun i h => intsV_at ls i h⟩ hR2.lt k
                have hlsl : ls.length = k := by rw [hBest.len, HN.out]
                have HLK : Hid _ := hlsl
                rw [hlsl] at HLS
                have HBest : Hid _ := hBest
                have HLeast : Hid _ := hLeast
                have HFW : Hid (IntsIn (fun x => x < wr.heap.size) wr (.slice a k cap) fs) := HF2.out.mono (fun x hx => by have := HB12.out.size; omega)
                have HRT : Hid (Calls Try.prog 6 #[.slice (some ⟨GL, 0, none⟩) k k] wr fun e w' => e = .returned (.int .i64 0) ∧ w' = wr) := by
                  have h9 := refRight_any (fun x => x < wr.heap.size) (some ⟨GL, 0, none⟩) k ls wr (by rw [hlsl]; exact HLS.out)
                  rw [hlsl, hBest.right] at h9
                  exact h9
                rw [HN.out]
                clear HA HLI HLL HBK HTK HF2 HB2 hp1 h2l hRow hR2 hBest hLeast hgood hin hmany hlsl
                go_wp2_with fail
                refine Calls.mono HRT.out ?_
                rintro e w' ⟨rfl, rfl⟩
                obtain ⟨wz, hwz⟩ : ∃ wz, wz = w' := ⟨_, rfl⟩
                subst hwz
                clear HRT
                go_wp2_with fail
                go_loopw [10] (fun v10 wr => ∃ i : Nat, i ≤ k ∧ v10 = .int .i64 (i : Int) ∧ Hid (Below wz.heap.size wz wr)) (fun v10 _ => k - (intOf v10).toNat)
                case atStart => exact ⟨0, by omega, rfl, Below.refl _ _⟩
                case round =>
                  obtain ⟨i, hi, rfl, HBZ⟩ := hrel
                  by_cases hlt2 : i < k
                  · obtain ⟨bl, ol, hbl, hblS, cl⟩ := HLS.out.at i (by rw [HLK.out]; exact hlt2)
                    obtain ⟨bf, of, rfl, hbfS, cf⟩ := HFW.out.at i (by rw [HN.out]; exact hlt2)
                    simp only [Option.some.injEq, Addr.mk.injEq, and_true] at hbl
                    obtain ⟨rfl, rfl⟩ := hbl
                    have hth := HBest.out.there i (by rw [HN.out]; exact hlt2)
                    have htp := HBest.out.top i (by rw [HN.out]; exact hlt2)
                    have cl' := (HBZ.out.cell (p := ⟨GL, 0 + i, none⟩) hblS).trans cl
                    have cf' := (HBZ.out.cell (p := ⟨bf, of + i, none⟩) hbfS).trans cf
                    rw [Nat.zero_add] at cl'
                    clear cl cf
                    generalize ls[i]?.getD 0 = lv at hth htp cl'
                    generalize fs[i]?.getD 0 = f at hth cf'
                    have tl : ¬ (lm : Int) < lv := by omega
                    by_cases hf0 : f = 0
                    · have hl0 := hth.2 hf0
                      subst hf0
                      subst hl0
                      clear hth htp
                      go_wp2_with fail
                      go_quiet (fail)
                      have HBW : Hid (Below wz.heap.size wz (wr.drewN nq)) := below_drewN' HBZ.out nq
                      generalize wr.drewN nq = wx at HBW ⊢
                      clear cl' cf' HBZ
                      go_wp2
                      go_roundw
                      case rel => exact ⟨i + 1, by omega, by simp, HBW⟩
                      case measure => simp [intOf]; omega
                    · have hl0 : ¬ lv = 0 := fun h => hf0 (hth.1 h)
                      have tf : (f == 0) = false := by simpa using hf0
                      have tv : (lv == 0) = false := by simpa using hl0
                      clear hth htp
                      go_wp2_with fail
                      go_quiet (fail)
                      have HBW : Hid (Below wz.heap.size wz (wr.drewN nq)) := below_drewN' HBZ.out nq
                      generalize wr.drewN nq = wx at HBW ⊢
                      clear cl' cf' HBZ
                      go_wp2
                      go_roundw
                      case rel => exact ⟨i + 1, by omega, by simp, HBW⟩
                      case measure => simp [intOf]; omega
                  · obtain rfl : i = k := by omega
                    have HCO : Hid _ := refCost_any (fun x => x < wz.heap.size) a (some ⟨GL, 0, none⟩) cap i fs ls wr (by rw [HN.out]; exact HFW.out.kept (Kept.of_below HBZ.out (fun _ h => h))) (by rw [HLK.out]; exact HLS.out.kept (Kept.of_below HBZ.out (fun _ h => h))) (by rw [HN.out]; omega) (by rw [HLK.out]; omega) R HBest.out.cost.symm
                    rw [HN.out, HLK.out] at HCO
                    go_wp2_with fail
                    refine Calls.mono HCO.out ?_
                    rintro e w3 ⟨rfl, nq, hw3⟩
                    have hB3 : Below wz.heap.size wz w3 := by rw [hw3]; exact below_drewN' HBZ.out nq
                    have hs3 := hB3.size
                    have HLE : Hid _ := least_any (fun x => x < wz.heap.size) a cap lm fs w3 (fun x hx => by omega) (by rw [HN.out]; exact HFW.out.kept (Kept.of_below hB3 (fun _ h => h))) (by omega) (by omega) (by rw [HN.out]; omega) hfs (by rw [HN.out]; exact HMN.out) R HLeast.out
                    rw [HN.out] at HLE
                    have HB3 : Hid _ := hB3
                    have tR : (R == R) = true := by simp
                    clear hw3 hB3 HCO HFW HLS HBest HLeast
                    go_wp2_with fail
                    refine Calls.mono HLE.out ?_
                    rintro e w4 ⟨rfl, hB4⟩
                    have HEND : Hid (Below w.heap.size w w4) := HB12.out.trans ((HB3.out.trans (hB4.mono hs3)).mono hs12)
                    clear hB4 HB3 HLE
                    go_wp2
                    go_ret
                    exact ⟨rfl, HEND.out⟩)
end Go.Proofs.Ytiakploggmmklaa.huffBest
