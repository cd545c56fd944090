/- The document's Shift. -/
import Derived.Test.YtnblbakjfpfipaaGreatDoorRsn
import Derived.Test.YtnblbakjfpfipaaGreatDoorWsf
namespace Go.Proofs.YtnblbakjfpfipaaGreatDoor
open Go.RowKit

set_option maxHeartbeats 800000 in
theorem moved_any (n b m : Int) (hm : m ≤ 512) (h1 : 1 ≤ n) (h2 : n ≤ m) (hb1 : -9223372036854775808 ≤ b) (hb2 : b ≤ 9223372036854775807) (w : World) :
    Calls Tryz.prog 48 #[.int .i64 n, .int .i64 b, .int .i64 m] w fun e w' => e = .returned (.tuple #[.int .i64 (if -m ≤ b ∧ b ≤ m then n + b else 0), .bool (farB n b m)]) ∧ w' = w := by
  by_cases ha : b > m
  · have e : farB n b m = false := by simp [farB]; omega
    rw [e, if_neg (by omega)]
    go_enter Tryz.func48, Tryz.ntmps48
    go_wp2
    go_ret2
    exact ⟨rfl, rfl⟩
  by_cases hc : b < -m
  · have e : farB n b m = false := by simp [farB]; omega
    rw [e, if_neg (by omega)]
    have e2 : wrap64 (-m) = -m := wrap64_id _ (by omega)
    go_enter Tryz.func48, Tryz.ntmps48
    go_wp2
    go_ret2
    exact ⟨rfl, rfl⟩
  rw [if_pos (by omega)]
  have e2 : wrap64 (-m) = -m := wrap64_id _ (by omega)
  have e3 : wrap64 (n + b) = n + b := wrap64_id _ (by omega)
  by_cases h3 : 1 ≤ n + b
  · by_cases h4 : n + b ≤ m
    · have e : farB n b m = true := by simp [farB]; omega
      rw [e]
      go_enter Tryz.func48, Tryz.ntmps48
      go_wp2
      go_ret2
      exact ⟨rfl, rfl⟩
    · have e : farB n b m = false := by simp [farB]; omega
      rw [e]
      go_enter Tryz.func48, Tryz.ntmps48
      go_wp2
      go_ret2
      exact ⟨rfl, rfl⟩
  · have e : farB n b m = false := by simp [farB]; omega
    rw [e]
    go_enter Tryz.func48, Tryz.ntmps48
    go_wp2
    go_ret2
    exact ⟨rfl, rfl⟩
set_option maxRecDepth 100000 in
set_option maxHeartbeats 1000000 in
theorem refShift_bad (x : Rf) (dc dr : Int) (w : World) (h : rightB x = false) :
    Calls Tryz.prog 26 #[x.v, .int .i64 dc, .int .i64 dr] w fun e w' => e = .returned (.tuple #[Rf.zero.v, .bool false]) ∧ Below w.heap.size w w' := by
  have HR : ∀ W, Hid _ := fun W => refRight_any x W
  rw [h] at HR
  unfold Rf.v Rf.zero at *
  go_enter Tryz.func26, Tryz.ntmps26
  go_wp2_with fail
  refine Calls.mono (HR _).out ?_
  rintro _ w1 ⟨rfl, h1⟩
  obtain ⟨hA, hZ, hB⟩ := two_rows w w1 _ _ _ _ h1
  obtain ⟨a0, a1, a2, a3, a4⟩ := hA.five
  obtain ⟨d0, d1, d2, d3, d4⟩ := hZ.five
  have z1 := hA.frozen; have z2 := hZ.frozen
  clear h1 HR
  go_wp2
  refine bodyPost_ret (ret_two rfl (g := w.heap.size + 1) rfl rfl (load23 (Row.set5 hZ _ _ _ _ _) rfl)) rfl ⟨rfl, ?_⟩
  exact below_set5 hB (by omega) _ _ _ _ _
set_option maxRecDepth 100000 in
set_option maxHeartbeats 1000000 in
theorem rsh_tt (s : ByteArray) (c r dc dr : Int) (h : rightB ⟨s, c, r, true, true⟩ = true) (w : World) :
    Calls Tryz.prog 26 #[.agg #[.string s, .int .i64 c, .int .i64 r, .bool true, .bool true], .int .i64 dc, .int .i64 dr] w fun e w' => e = .returned (.tuple #[.agg #[.string s, .int .i64 c, .int .i64 r, .bool true, .bool true], .bool true]) ∧ Below w.heap.size w w' := by
  have HR : ∀ W, Hid _ := fun W => refRight_any ⟨s, c, r, true, true⟩ W
  rw [h] at HR
  unfold Rf.v at HR
  simp only at HR
  clear h
  go_enter Tryz.func26, Tryz.ntmps26
  go_wp2_with fail
  refine Calls.mono (HR _).out ?_
  rintro _ w1 ⟨rfl, h1⟩
  obtain ⟨hA, hZ, hB⟩ := two_rows w w1 _ _ _ _ h1
  obtain ⟨a0, a1, a2, a3, a4⟩ := hA.five
  obtain ⟨d0, d1, d2, d3, d4⟩ := hZ.five
  have z1 := hA.frozen; have z2 := hZ.frozen
  clear h1 HR
  go_wp2
  refine bodyPost_ret (ret_two rfl (g := w.heap.size + 1) rfl rfl (load23 (Row.set5 hZ _ _ _ _ _) rfl)) rfl ⟨rfl, ?_⟩
  exact below_set5 hB (by omega) _ _ _ _ _
set_option maxRecDepth 100000 in
set_option maxHeartbeats 1000000 in
theorem rsh_tft (s : ByteArray) (c r dc dr r' : Int) (h : rightB ⟨s, c, r, true, false⟩ = true) (hr : ∀ w, Hid (Calls Tryz.prog 48 #[.int .i64 r, .int .i64 dr, .int .i64 512] w fun e w' => e = .returned (.tuple #[.int .i64 r', .bool true]) ∧ w' = w)) (w : World) :
    Calls Tryz.prog 26 #[.agg #[.string s, .int .i64 c, .int .i64 r, .bool true, .bool false], .int .i64 dc, .int .i64 dr] w fun e w' => e = .returned (.tuple #[.agg #[.string s, .int .i64 c, .int .i64 r', .bool true, .bool false], .bool true]) ∧ Below w.heap.size w w' := by
  have HR : ∀ W, Hid _ := fun W => refRight_any ⟨s, c, r, true, false⟩ W
  rw [h] at HR
  unfold Rf.v at HR
  simp only at HR
  clear h
  go_enter Tryz.func26, Tryz.ntmps26
  go_wp2_with fail
  refine Calls.mono (HR _).out ?_
  rintro _ w1 ⟨rfl, h1⟩
  obtain ⟨hA, hZ, hB⟩ := two_rows w w1 _ _ _ _ h1
  obtain ⟨a0, a1, a2, a3, a4⟩ := hA.five
  obtain ⟨d0, d1, d2, d3, d4⟩ := hZ.five
  have z1 := hA.frozen; have z2 := hZ.frozen
  clear h1 HR
  go_wp2_with fail
  refine Calls.mono (hr _).out ?_
  rintro _ w2 ⟨rfl, rfl⟩
  clear hr
  go_wp2
  refine bodyPost_ret (ret_two rfl (g := w.heap.size + 1) rfl rfl (load23 (Row.set5 (hZ.off _ _ (by omega)) _ _ _ _ _) rfl)) rfl ⟨rfl, ?_⟩
  exact below_set5 (below_set hB _ _ (by omega)) (by omega) _ _ _ _ _
set_option maxRecDepth 100000 in
set_option maxHeartbeats 1000000 in
theorem rsh_tff (s : ByteArray) (c r dc dr r' : Int) (h : rightB ⟨s, c, r, true, false⟩ = true) (hr : ∀ w, Hid (Calls Tryz.prog 48 #[.int .i64 r, .int .i64 dr, .int .i64 512] w fun e w' => e = .returned (.tuple #[.int .i64 r', .bool false]) ∧ w' = w)) (w : World) :
    Calls Tryz.prog 26 #[.agg #[.string s, .int .i64 c, .int .i64 r, .bool true, .bool false], .int .i64 dc, .int .i64 dr] w fun e w' => e = .returned (.tuple #[.agg #[.string .empty, .int .i64 0, .int .i64 0, .bool false, .bool false], .bool false]) ∧ Below w.heap.size w w' := by
  have HR : ∀ W, Hid _ := fun W => refRight_any ⟨s, c, r, true, false⟩ W
  rw [h] at HR
  unfold Rf.v at HR
  simp only at HR
  clear h
  go_enter Tryz.func26, Tryz.ntmps26
  go_wp2_with fail
  refine Calls.mono (HR _).out ?_
  rintro _ w1 ⟨rfl, h1⟩
  obtain ⟨hA, hZ, hB⟩ := two_rows w w1 _ _ _ _ h1
  obtain ⟨a0, a1, a2, a3, a4⟩ := hA.five
  obtain ⟨d0, d1, d2, d3, d4⟩ := hZ.five
  have z1 := hA.frozen; have z2 := hZ.frozen
  clear h1 HR
  go_wp2_with fail
  refine Calls.mono (hr _).out ?_
  rintro _ w2 ⟨rfl, rfl⟩
  clear hr
  go_wp2
  refine bodyPost_ret (ret_two rfl (g := w.heap.size + 1) rfl rfl (load23 (Row.set5 (hZ.off _ _ (by omega)) _ _ _ _ _) rfl)) rfl ⟨rfl, ?_⟩
  exact below_set5 (below_set hB _ _ (by omega)) (by omega) _ _ _ _ _
set_option maxRecDepth 100000 in
set_option maxHeartbeats 1000000 in
theorem rsh_ftt (s : ByteArray) (c r dc dr c' : Int) (h : rightB ⟨s, c, r, false, true⟩ = true) (hc : ∀ w, Hid (Calls Tryz.prog 48 #[.int .i64 c, .int .i64 dc, .int .i64 64] w fun e w' => e = .returned (.tuple #[.int .i64 c', .bool true]) ∧ w' = w)) (w : World) :
    Calls Tryz.prog 26 #[.agg #[.string s, .int .i64 c, .int .i64 r, .bool false, .bool true], .int .i64 dc, .int .i64 dr] w fun e w' => e = .returned (.tuple #[.agg #[.string s, .int .i64 c', .int .i64 r, .bool false, .bool true], .bool true]) ∧ Below w.heap.size w w' := by
  have HR : ∀ W, Hid _ := fun W => refRight_any ⟨s, c, r, false, true⟩ W
  rw [h] at HR
  unfold Rf.v at HR
  simp only at HR
  clear h
  go_enter Tryz.func26, Tryz.ntmps26
  go_wp2_with fail
  refine Calls.mono (HR _).out ?_
  rintro _ w1 ⟨rfl, h1⟩
  obtain ⟨hA, hZ, hB⟩ := two_rows w w1 _ _ _ _ h1
  obtain ⟨a0, a1, a2, a3, a4⟩ := hA.five
  obtain ⟨d0, d1, d2, d3, d4⟩ := hZ.five
  have z1 := hA.frozen; have z2 := hZ.frozen
  clear h1 HR
  go_wp2_with fail
  refine Calls.mono (hc _).out ?_
  rintro _ w2 ⟨rfl, rfl⟩
  clear hc
  go_wp2
  refine bodyPost_ret (ret_two rfl (g := w.heap.size + 1) rfl rfl (load23 (Row.set5 (hZ.off _ _ (by omega)) _ _ _ _ _) rfl)) rfl ⟨rfl, ?_⟩
  exact below_set5 (below_set hB _ _ (by omega)) (by omega) _ _ _ _ _
set_option maxRecDepth 100000 in
set_option maxHeartbeats 1000000 in
theorem rsh_ftf (s : ByteArray) (c r dc dr c' : Int) (h : rightB ⟨s, c, r, false, true⟩ = true) (hc : ∀ w, Hid (Calls Tryz.prog 48 #[.int .i64 c, .int .i64 dc, .int .i64 64] w fun e w' => e = .returned (.tuple #[.int .i64 c', .bool false]) ∧ w' = w)) (w : World) :
    Calls Tryz.prog 26 #[.agg #[.string s, .int .i64 c, .int .i64 r, .bool false, .bool true], .int .i64 dc, .int .i64 dr] w fun e w' => e = .returned (.tuple #[.agg #[.string .empty, .int .i64 0, .int .i64 0, .bool false, .bool false], .bool false]) ∧ Below w.heap.size w w' := by
  have HR : ∀ W, Hid _ := fun W => refRight_any ⟨s, c, r, false, true⟩ W
  rw [h] at HR
  unfold Rf.v at HR
  simp only at HR
  clear h
  go_enter Tryz.func26, Tryz.ntmps26
  go_wp2_with fail
  refine Calls.mono (HR _).out ?_
  rintro _ w1 ⟨rfl, h1⟩
  obtain ⟨hA, hZ, hB⟩ := two_rows w w1 _ _ _ _ h1
  obtain ⟨a0, a1, a2, a3, a4⟩ := hA.five
  obtain ⟨d0, d1, d2, d3, d4⟩ := hZ.five
  have z1 := hA.frozen; have z2 := hZ.frozen
  clear h1 HR
  go_wp2_with fail
  refine Calls.mono (hc _).out ?_
  rintro _ w2 ⟨rfl, rfl⟩
  clear hc
  go_wp2
  refine bodyPost_ret (ret_two rfl (g := w.heap.size + 1) rfl rfl (load23 (Row.set5 (hZ.off _ _ (by omega)) _ _ _ _ _) rfl)) rfl ⟨rfl, ?_⟩
  exact below_set5 (below_set hB _ _ (by omega)) (by omega) _ _ _ _ _
set_option maxRecDepth 100000 in
set_option maxHeartbeats 1000000 in
theorem rsh_fftt (s : ByteArray) (c r dc dr c' r' : Int) (h : rightB ⟨s, c, r, false, false⟩ = true) (hc : ∀ w, Hid (Calls Tryz.prog 48 #[.int .i64 c, .int .i64 dc, .int .i64 64] w fun e w' => e = .returned (.tuple #[.int .i64 c', .bool true]) ∧ w' = w)) (hr : ∀ w, Hid (Calls Tryz.prog 48 #[.int .i64 r, .int .i64 dr, .int .i64 512] w fun e w' => e = .returned (.tuple #[.int .i64 r', .bool true]) ∧ w' = w)) (w : World) :
    Calls Tryz.prog 26 #[.agg #[.string s, .int .i64 c, .int .i64 r, .bool false, .bool false], .int .i64 dc, .int .i64 dr] w fun e w' => e = .returned (.tuple #[.agg #[.string s, .int .i64 c', .int .i64 r', .bool false, .bool false], .bool true]) ∧ Below w.heap.size w w' := by
  have HR : ∀ W, Hid _ := fun W => refRight_any ⟨s, c, r, false, false⟩ W
  rw [h] at HR
  unfold Rf.v at HR
  simp only at HR
  clear h
  go_enter Tryz.func26, Tryz.ntmps26
  go_wp2_with fail
  refine Calls.mono (HR _).out ?_
  rintro _ w1 ⟨rfl, h1⟩
  obtain ⟨hA, hZ, hB⟩ := two_rows w w1 _ _ _ _ h1
  obtain ⟨a0, a1, a2, a3, a4⟩ := hA.five
  obtain ⟨d0, d1, d2, d3, d4⟩ := hZ.five
  have z1 := hA.frozen; have z2 := hZ.frozen
  clear h1 HR
  go_wp2_with fail
  refine Calls.mono (hc _).out ?_
  rintro _ w2 ⟨rfl, rfl⟩
  clear hc
  go_wp2_with fail
  refine Calls.mono (hr _).out ?_
  rintro _ w2 ⟨rfl, rfl⟩
  clear hr
  go_wp2
  refine bodyPost_ret (ret_two rfl (g := w.heap.size + 1) rfl rfl (load23 (Row.set5 ((hZ.off _ _ (by omega)).off _ _ (by omega)) _ _ _ _ _) rfl)) rfl ⟨rfl, ?_⟩
  exact below_set5 (below_set (below_set hB _ _ (by omega)) _ _ (by omega)) (by omega) _ _ _ _ _
set_option maxRecDepth 100000 in
set_option maxHeartbeats 1000000 in
theorem rsh_fftf (s : ByteArray) (c r dc dr c' r' : Int) (h : rightB ⟨s, c, r, false, false⟩ = true) (hc : ∀ w, Hid (Calls Tryz.prog 48 #[.int .i64 c, .int .i64 dc, .int .i64 64] w fun e w' => e = .returned (.tuple #[.int .i64 c', .bool true]) ∧ w' = w)) (hr : ∀ w, Hid (Calls Tryz.prog 48 #[.int .i64 r, .int .i64 dr, .int .i64 512] w fun e w' => e = .returned (.tuple #[.int .i64 r', .bool false]) ∧ w' = w)) (w : World) :
    Calls Tryz.prog 26 #[.agg #[.string s, .int .i64 c, .int .i64 r, .bool false, .bool false], .int .i64 dc, .int .i64 dr] w fun e w' => e = .returned (.tuple #[.agg #[.string .empty, .int .i64 0, .int .i64 0, .bool false, .bool false], .bool false]) ∧ Below w.heap.size w w' := by
  have HR : ∀ W, Hid _ := fun W => refRight_any ⟨s, c, r, false, false⟩ W
  rw [h] at HR
  unfold Rf.v at HR
  simp only at HR
  clear h
  go_enter Tryz.func26, Tryz.ntmps26
  go_wp2_with fail
  refine Calls.mono (HR _).out ?_
  rintro _ w1 ⟨rfl, h1⟩
  obtain ⟨hA, hZ, hB⟩ := two_rows w w1 _ _ _ _ h1
  obtain ⟨a0, a1, a2, a3, a4⟩ := hA.five
  obtain ⟨d0, d1, d2, d3, d4⟩ := hZ.five
  have z1 := hA.frozen; have z2 := hZ.frozen
  clear h1 HR
  go_wp2_with fail
  refine Calls.mono (hc _).out ?_
  rintro _ w2 ⟨rfl, rfl⟩
  clear hc
  go_wp2_with fail
  refine Calls.mono (hr _).out ?_
  rintro _ w2 ⟨rfl, rfl⟩
  clear hr
  go_wp2
  refine bodyPost_ret (ret_two rfl (g := w.heap.size + 1) rfl rfl (load23 (Row.set5 ((hZ.off _ _ (by omega)).off _ _ (by omega)) _ _ _ _ _) rfl)) rfl ⟨rfl, ?_⟩
  exact below_set5 (below_set (below_set hB _ _ (by omega)) _ _ (by omega)) (by omega) _ _ _ _ _
set_option maxRecDepth 100000 in
set_option maxHeartbeats 1000000 in
theorem rsh_ffft (s : ByteArray) (c r dc dr c' r' : Int) (h : rightB ⟨s, c, r, false, false⟩ = true) (hc : ∀ w, Hid (Calls Tryz.prog 48 #[.int .i64 c, .int .i64 dc, .int .i64 64] w fun e w' => e = .returned (.tuple #[.int .i64 c', .bool false]) ∧ w' = w)) (hr : ∀ w, Hid (Calls Tryz.prog 48 #[.int .i64 r, .int .i64 dr, .int .i64 512] w fun e w' => e = .returned (.tuple #[.int .i64 r', .bool true]) ∧ w' = w)) (w : World) :
    Calls Tryz.prog 26 #[.agg #[.string s, .int .i64 c, .int .i64 r, .bool false, .bool false], .int .i64 dc, .int .i64 dr] w fun e w' => e = .returned (.tuple #[.agg #[.string .empty, .int .i64 0, .int .i64 0, .bool false, .bool false], .bool false]) ∧ Below w.heap.size w w' := by
  have HR : ∀ W, Hid _ := fun W => refRight_any ⟨s, c, r, false, false⟩ W
  rw [h] at HR
  unfold Rf.v at HR
  simp only at HR
  clear h
  go_enter Tryz.func26, Tryz.ntmps26
  go_wp2_with fail
  refine Calls.mono (HR _).out ?_
  rintro _ w1 ⟨rfl, h1⟩
  obtain ⟨hA, hZ, hB⟩ := two_rows w w1 _ _ _ _ h1
  obtain ⟨a0, a1, a2, a3, a4⟩ := hA.five
  obtain ⟨d0, d1, d2, d3, d4⟩ := hZ.five
  have z1 := hA.frozen; have z2 := hZ.frozen
  clear h1 HR
  go_wp2_with fail
  refine Calls.mono (hc _).out ?_
  rintro _ w2 ⟨rfl, rfl⟩
  clear hc
  go_wp2_with fail
  refine Calls.mono (hr _).out ?_
  rintro _ w2 ⟨rfl, rfl⟩
  clear hr
  go_wp2
  refine bodyPost_ret (ret_two rfl (g := w.heap.size + 1) rfl rfl (load23 (Row.set5 ((hZ.off _ _ (by omega)).off _ _ (by omega)) _ _ _ _ _) rfl)) rfl ⟨rfl, ?_⟩
  exact below_set5 (below_set (below_set hB _ _ (by omega)) _ _ (by omega)) (by omega) _ _ _ _ _
set_option maxRecDepth 100000 in
set_option maxHeartbeats 1000000 in
theorem rsh_ffff (s : ByteArray) (c r dc dr c' r' : Int) (h : rightB ⟨s, c, r, false, false⟩ = true) (hc : ∀ w, Hid (Calls Tryz.prog 48 #[.int .i64 c, .int .i64 dc, .int .i64 64] w fun e w' => e = .returned (.tuple #[.int .i64 c', .bool false]) ∧ w' = w)) (hr : ∀ w, Hid (Calls Tryz.prog 48 #[.int .i64 r, .int .i64 dr, .int .i64 512] w fun e w' => e = .returned (.tuple #[.int .i64 r', .bool false]) ∧ w' = w)) (w : World) :
    Calls Tryz.prog 26 #[.agg #[.string s, .int .i64 c, .int .i64 r, .bool false, .bool false], .int .i64 dc, .int .i64 dr] w fun e w' => e = .returned (.tuple #[.agg #[.string .empty, .int .i64 0, .int .i64 0, .bool false, .bool false], .bool false]) ∧ Below w.heap.size w w' := by
  have HR : ∀ W, Hid _ := fun W => refRight_any ⟨s, c, r, false, false⟩ W
  rw [h] at HR
  unfold Rf.v at HR
  simp only at HR
  clear h
  go_enter Tryz.func26, Tryz.ntmps26
  go_wp2_with fail
  refine Calls.mono (HR _).out ?_
  rintro _ w1 ⟨rfl, h1⟩
  obtain ⟨hA, hZ, hB⟩ := two_rows w w1 _ _ _ _ h1
  obtain ⟨a0, a1, a2, a3, a4⟩ := hA.five
  obtain ⟨d0, d1, d2, d3, d4⟩ := hZ.five
  have z1 := hA.frozen; have z2 := hZ.frozen
  clear h1 HR
  go_wp2_with fail
  refine Calls.mono (hc _).out ?_
  rintro _ w2 ⟨rfl, rfl⟩
  clear hc
  go_wp2_with fail
  refine Calls.mono (hr _).out ?_
  rintro _ w2 ⟨rfl, rfl⟩
  clear hr
  go_wp2
  refine bodyPost_ret (ret_two rfl (g := w.heap.size + 1) rfl rfl (load23 (Row.set5 ((hZ.off _ _ (by omega)).off _ _ (by omega)) _ _ _ _ _) rfl)) rfl ⟨rfl, ?_⟩
  exact below_set5 (below_set (below_set hB _ _ (by omega)) _ _ (by omega)) (by omega) _ _ _ _ _
theorem refShift_any (x : Rf) (dc dr : Int) (hc1 : -9223372036854775808 ≤ dc) (hc2 : dc ≤ 9223372036854775807) (hr1 : -9223372036854775808 ≤ dr) (hr2 : dr ≤ 9223372036854775807) (w : World) :
    Calls Tryz.prog 26 #[x.v, .int .i64 dc, .int .i64 dr] w fun e w' => e = .returned (.tuple #[((shiftR x dc dr).getD Rf.zero).v, .bool (shiftR x dc dr).isSome]) ∧ Below w.heap.size w w' := by
  cases h : rightB x
  · have e : shiftR x dc dr = none := by unfold shiftR; rw [h]; rfl
    rw [e]
    exact refShift_bad x dc dr w h
  · obtain ⟨s, c, r, ac, ar⟩ := x
    have hb : 1 ≤ c ∧ c ≤ 64 ∧ 1 ≤ r ∧ r ≤ 512 := rightB_bounds h
    have f1 : ∀ w, Hid _ := fun w => moved_any c dc 64 (by omega) (by omega) (by omega) hc1 hc2 w
    have f2 : ∀ w, Hid _ := fun w => moved_any r dr 512 (by omega) (by omega) (by omega) hr1 hr2 w
    have n1 : farB c dc 64 = true → (if -64 ≤ dc ∧ dc ≤ 64 then c + dc else 0) = c + dc := fun e => if_pos (by simp [farB] at e; omega)
    have n2 : farB r dr 512 = true → (if -512 ≤ dr ∧ dr ≤ 512 then r + dr else 0) = r + dr := fun e => if_pos (by simp [farB] at e; omega)
    have e0 : farB c 0 64 = true := by simp [farB]; omega
    have e1 : farB r 0 512 = true := by simp [farB]; omega
    have es : shiftR ⟨s, c, r, ac, ar⟩ dc dr = if farB c (if ac then 0 else dc) 64 && farB r (if ar then 0 else dr) 512 then some ⟨s, c + (if ac then 0 else dc), r + (if ar then 0 else dr), ac, ar⟩ else none := by unfold shiftR; rw [h]; rfl
    rw [es]
    generalize (if -64 ≤ dc ∧ dc ≤ 64 then c + dc else 0) = c' at f1 n1
    generalize (if -512 ≤ dr ∧ dr ≤ 512 then r + dr else 0) = r' at f2 n2
    cases ac <;> cases ar
    · simp only [Bool.false_eq_true, if_false]
      cases g1 : farB c dc 64 <;> cases g2 : farB r dr 512 <;> rw [g1] at f1 <;> rw [g2] at f2
      · exact rsh_ffff s c r dc dr c' r' h f1 f2 w
      · exact rsh_ffft s c r dc dr c' r' h f1 f2 w
      · exact rsh_fftf s c r dc dr c' r' h f1 f2 w
      · have := rsh_fftt s c r dc dr c' r' h f1 f2 w
        rw [n1 g1, n2 g2] at this
        exact this
    · simp only [Bool.false_eq_true, if_false, if_true, e1]
      cases g1 : farB c dc 64 <;> rw [g1] at f1
      · exact rsh_ftf s c r dc dr c' h f1 w
      · have := rsh_ftt s c r dc dr c' h f1 w
        rw [n1 g1] at this
        simpa [Rf.v] using this
    · simp only [Bool.false_eq_true, if_false, if_true, e0]
      cases g2 : farB r dr 512 <;> rw [g2] at f2
      · exact rsh_tff s c r dc dr r' h f2 w
      · have := rsh_tft s c r dc dr r' h f2 w
        rw [n2 g2] at this
        simpa [Rf.v] using this
    · simp only [if_true, e0, e1]
      have := rsh_tt s c r dc dr h w
      simpa [Rf.v] using this
end Go.Proofs.YtnblbakjfpfipaaGreatDoor
