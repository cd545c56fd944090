import Derived.Test.YtgihginfegckcaaGreatDoorLlxM
/- lex's document: where a number ends. -/
namespace Go.Proofs.YtgihginfegckcaaGreatDoor
open Go.RowKit


set_option maxRecDepth 100000 in
set_option maxHeartbeats 1000000 in
theorem num_nnxx (l : List UInt8) (i j1 : Nat) (x0 z0  : UInt8) (w : World)
    (h60 : ∀ W, Hid (Calls Tryz.prog 60 #[.string (bs l), .int .i64 (i : Int)] W fun e w' => e = .returned (.int .i64 (j1 : Int)) ∧ w' = W))
    (ha0 : ∀ x : Int, x = (j1 : Int) → ∀ W, Hid (Calls Tryz.prog 40 #[.string (bs l), .int .i64 x] W fun e w' => e = .returned (.int .u8 (x0.toNat : Int)) ∧ w' = W))
    (ta : ((x0.toNat : Int) == 46) = false)
    (hz0 : ∀ x : Int, x = (j1 : Int) → ∀ W, Hid (Calls Tryz.prog 40 #[.string (bs l), .int .i64 x] W fun e w' => e = .returned (.int .u8 (z0.toNat : Int)) ∧ w' = W))
    (tE : ((z0.toNat : Int) == 69) = false)
    (te : ((z0.toNat : Int) == 101) = false) :
    Calls Tryz.prog 36 #[.string (bs l), .int .i64 (i : Int)] w fun e w' => e = .returned (.int .i64 (j1 : Int)) ∧ w' = w := by
  go_enter Tryz.func36, Tryz.ntmps36
  go_wp2_with fail
  refine Calls.mono (h60 _).out ?_
  rintro _ w1 ⟨rfl, rfl⟩
  go_wp2_with fail
  refine Calls.mono (ha0 _ (by omega) _).out ?_
  rintro _ w1 ⟨rfl, rfl⟩
  go_wp2_with fail
  refine Calls.mono (hz0 _ (by omega) _).out ?_
  rintro _ w1 ⟨rfl, rfl⟩
  go_wp2_with fail
  refine Calls.mono (hz0 _ (by omega) _).out ?_
  rintro _ w1 ⟨rfl, rfl⟩
  go_wp2
  go_ret
  exact ⟨rfl, rfl⟩
set_option maxRecDepth 100000 in
set_option maxHeartbeats 1000000 in
theorem num_nEnn (l : List UInt8) (i j1 : Nat) (x0 z0 s0 d0 : UInt8) (b_j1 : j1 ≤ 140737488351232) (w : World)
    (h60 : ∀ W, Hid (Calls Tryz.prog 60 #[.string (bs l), .int .i64 (i : Int)] W fun e w' => e = .returned (.int .i64 (j1 : Int)) ∧ w' = W))
    (ha0 : ∀ x : Int, x = (j1 : Int) → ∀ W, Hid (Calls Tryz.prog 40 #[.string (bs l), .int .i64 x] W fun e w' => e = .returned (.int .u8 (x0.toNat : Int)) ∧ w' = W))
    (ta : ((x0.toNat : Int) == 46) = false)
    (hz0 : ∀ x : Int, x = (j1 : Int) → ∀ W, Hid (Calls Tryz.prog 40 #[.string (bs l), .int .i64 x] W fun e w' => e = .returned (.int .u8 (z0.toNat : Int)) ∧ w' = W))
    (tE : ((z0.toNat : Int) == 69) = true)
    (hs0 : ∀ x : Int, x = (j1 : Int) + 1 → ∀ W, Hid (Calls Tryz.prog 40 #[.string (bs l), .int .i64 x] W fun e w' => e = .returned (.int .u8 (s0.toNat : Int)) ∧ w' = W))
    (tp : ((s0.toNat : Int) == 43) = false)
    (tm : ((s0.toNat : Int) == 45) = false)
    (hk0 : ∀ x : Int, x = (j1 : Int) + 1 → ∀ W, Hid (Calls Tryz.prog 40 #[.string (bs l), .int .i64 x] W fun e w' => e = .returned (.int .u8 (d0.toNat : Int)) ∧ w' = W))
    (hd2 : ∀ W, Hid (Calls Tryz.prog 35 #[.int .u8 (d0.toNat : Int)] W fun e w' => e = .returned (.bool false) ∧ w' = W)) :
    Calls Tryz.prog 36 #[.string (bs l), .int .i64 (i : Int)] w fun e w' => e = .returned (.int .i64 (j1 : Int)) ∧ w' = w := by
  go_enter Tryz.func36, Tryz.ntmps36
  go_wp2_with fail
  refine Calls.mono (h60 _).out ?_
  rintro _ w1 ⟨rfl, rfl⟩
  go_wp2_with fail
  refine Calls.mono (ha0 _ (by omega) _).out ?_
  rintro _ w1 ⟨rfl, rfl⟩
  go_wp2_with fail
  refine Calls.mono (hz0 _ (by omega) _).out ?_
  rintro _ w1 ⟨rfl, rfl⟩
  go_wp2_with fail
  refine Calls.mono (hs0 _ (by omega) _).out ?_
  rintro _ w1 ⟨rfl, rfl⟩
  go_wp2_with fail
  refine Calls.mono (hs0 _ (by omega) _).out ?_
  rintro _ w1 ⟨rfl, rfl⟩
  go_wp2_with fail
  refine Calls.mono (hk0 _ (by omega) _).out ?_
  rintro _ w1 ⟨rfl, rfl⟩
  go_wp2_with fail
  refine Calls.mono (hd2 _).out ?_
  rintro _ w1 ⟨rfl, rfl⟩
  go_wp2
  go_ret
  exact ⟨rfl, rfl⟩
set_option maxRecDepth 100000 in
set_option maxHeartbeats 1000000 in
theorem num_nEny (l : List UInt8) (i j1 j3 : Nat) (x0 z0 s0 d0 : UInt8) (b_j1 : j1 ≤ 140737488351232) (w : World)
    (h60 : ∀ W, Hid (Calls Tryz.prog 60 #[.string (bs l), .int .i64 (i : Int)] W fun e w' => e = .returned (.int .i64 (j1 : Int)) ∧ w' = W))
    (ha0 : ∀ x : Int, x = (j1 : Int) → ∀ W, Hid (Calls Tryz.prog 40 #[.string (bs l), .int .i64 x] W fun e w' => e = .returned (.int .u8 (x0.toNat : Int)) ∧ w' = W))
    (ta : ((x0.toNat : Int) == 46) = false)
    (hz0 : ∀ x : Int, x = (j1 : Int) → ∀ W, Hid (Calls Tryz.prog 40 #[.string (bs l), .int .i64 x] W fun e w' => e = .returned (.int .u8 (z0.toNat : Int)) ∧ w' = W))
    (tE : ((z0.toNat : Int) == 69) = true)
    (hs0 : ∀ x : Int, x = (j1 : Int) + 1 → ∀ W, Hid (Calls Tryz.prog 40 #[.string (bs l), .int .i64 x] W fun e w' => e = .returned (.int .u8 (s0.toNat : Int)) ∧ w' = W))
    (tp : ((s0.toNat : Int) == 43) = false)
    (tm : ((s0.toNat : Int) == 45) = false)
    (hk0 : ∀ x : Int, x = (j1 : Int) + 1 → ∀ W, Hid (Calls Tryz.prog 40 #[.string (bs l), .int .i64 x] W fun e w' => e = .returned (.int .u8 (d0.toNat : Int)) ∧ w' = W))
    (hd2 : ∀ W, Hid (Calls Tryz.prog 35 #[.int .u8 (d0.toNat : Int)] W fun e w' => e = .returned (.bool true) ∧ w' = W))
    (h62 : ∀ x : Int, x = (j1 : Int) + 1 → ∀ W, Hid (Calls Tryz.prog 60 #[.string (bs l), .int .i64 x] W fun e w' => e = .returned (.int .i64 (j3 : Int)) ∧ w' = W)) :
    Calls Tryz.prog 36 #[.string (bs l), .int .i64 (i : Int)] w fun e w' => e = .returned (.int .i64 (j3 : Int)) ∧ w' = w := by
  go_enter Tryz.func36, Tryz.ntmps36
  go_wp2_with fail
  refine Calls.mono (h60 _).out ?_
  rintro _ w1 ⟨rfl, rfl⟩
  go_wp2_with fail
  refine Calls.mono (ha0 _ (by omega) _).out ?_
  rintro _ w1 ⟨rfl, rfl⟩
  go_wp2_with fail
  refine Calls.mono (hz0 _ (by omega) _).out ?_
  rintro _ w1 ⟨rfl, rfl⟩
  go_wp2_with fail
  refine Calls.mono (hs0 _ (by omega) _).out ?_
  rintro _ w1 ⟨rfl, rfl⟩
  go_wp2_with fail
  refine Calls.mono (hs0 _ (by omega) _).out ?_
  rintro _ w1 ⟨rfl, rfl⟩
  go_wp2_with fail
  refine Calls.mono (hk0 _ (by omega) _).out ?_
  rintro _ w1 ⟨rfl, rfl⟩
  go_wp2_with fail
  refine Calls.mono (hd2 _).out ?_
  rintro _ w1 ⟨rfl, rfl⟩
  go_wp2_with fail
  refine Calls.mono (h62 _ (by omega) _).out ?_
  rintro _ w1 ⟨rfl, rfl⟩
  go_wp2
  go_ret
  exact ⟨rfl, rfl⟩
set_option maxRecDepth 100000 in
set_option maxHeartbeats 1000000 in
theorem num_nEpn (l : List UInt8) (i j1 : Nat) (x0 z0 s0 d0 : UInt8) (b_j1 : j1 ≤ 140737488351232) (w : World)
    (h60 : ∀ W, Hid (Calls Tryz.prog 60 #[.string (bs l), .int .i64 (i : Int)] W fun e w' => e = .returned (.int .i64 (j1 : Int)) ∧ w' = W))
    (ha0 : ∀ x : Int, x = (j1 : Int) → ∀ W, Hid (Calls Tryz.prog 40 #[.string (bs l), .int .i64 x] W fun e w' => e = .returned (.int .u8 (x0.toNat : Int)) ∧ w' = W))
    (ta : ((x0.toNat : Int) == 46) = false)
    (hz0 : ∀ x : Int, x = (j1 : Int) → ∀ W, Hid (Calls Tryz.prog 40 #[.string (bs l), .int .i64 x] W fun e w' => e = .returned (.int .u8 (z0.toNat : Int)) ∧ w' = W))
    (tE : ((z0.toNat : Int) == 69) = true)
    (hs0 : ∀ x : Int, x = (j1 : Int) + 1 → ∀ W, Hid (Calls Tryz.prog 40 #[.string (bs l), .int .i64 x] W fun e w' => e = .returned (.int .u8 (s0.toNat : Int)) ∧ w' = W))
    (tp : ((s0.toNat : Int) == 43) = true)
    (hk0 : ∀ x : Int, x = (j1 : Int) + 2 → ∀ W, Hid (Calls Tryz.prog 40 #[.string (bs l), .int .i64 x] W fun e w' => e = .returned (.int .u8 (d0.toNat : Int)) ∧ w' = W))
    (hd2 : ∀ W, Hid (Calls Tryz.prog 35 #[.int .u8 (d0.toNat : Int)] W fun e w' => e = .returned (.bool false) ∧ w' = W)) :
    Calls Tryz.prog 36 #[.string (bs l), .int .i64 (i : Int)] w fun e w' => e = .returned (.int .i64 (j1 : Int)) ∧ w' = w := by
  go_enter Tryz.func36, Tryz.ntmps36
  go_wp2_with fail
  refine Calls.mono (h60 _).out ?_
  rintro _ w1 ⟨rfl, rfl⟩
  go_wp2_with fail
  refine Calls.mono (ha0 _ (by omega) _).out ?_
  rintro _ w1 ⟨rfl, rfl⟩
  go_wp2_with fail
  refine Calls.mono (hz0 _ (by omega) _).out ?_
  rintro _ w1 ⟨rfl, rfl⟩
  go_wp2_with fail
  refine Calls.mono (hs0 _ (by omega) _).out ?_
  rintro _ w1 ⟨rfl, rfl⟩
  go_wp2_with fail
  refine Calls.mono (hk0 _ (by omega) _).out ?_
  rintro _ w1 ⟨rfl, rfl⟩
  go_wp2_with fail
  refine Calls.mono (hd2 _).out ?_
  rintro _ w1 ⟨rfl, rfl⟩
  go_wp2
  go_ret
  exact ⟨rfl, rfl⟩
set_option maxRecDepth 100000 in
set_option maxHeartbeats 1000000 in
theorem num_nEpy (l : List UInt8) (i j1 j3 : Nat) (x0 z0 s0 d0 : UInt8) (b_j1 : j1 ≤ 140737488351232) (w : World)
    (h60 : ∀ W, Hid (Calls Tryz.prog 60 #[.string (bs l), .int .i64 (i : Int)] W fun e w' => e = .returned (.int .i64 (j1 : Int)) ∧ w' = W))
    (ha0 : ∀ x : Int, x = (j1 : Int) → ∀ W, Hid (Calls Tryz.prog 40 #[.string (bs l), .int .i64 x] W fun e w' => e = .returned (.int .u8 (x0.toNat : Int)) ∧ w' = W))
    (ta : ((x0.toNat : Int) == 46) = false)
    (hz0 : ∀ x : Int, x = (j1 : Int) → ∀ W, Hid (Calls Tryz.prog 40 #[.string (bs l), .int .i64 x] W fun e w' => e = .returned (.int .u8 (z0.toNat : Int)) ∧ w' = W))
    (tE : ((z0.toNat : Int) == 69) = true)
    (hs0 : ∀ x : Int, x = (j1 : Int) + 1 → ∀ W, Hid (Calls Tryz.prog 40 #[.string (bs l), .int .i64 x] W fun e w' => e = .returned (.int .u8 (s0.toNat : Int)) ∧ w' = W))
    (tp : ((s0.toNat : Int) == 43) = true)
    (hk0 : ∀ x : Int, x = (j1 : Int) + 2 → ∀ W, Hid (Calls Tryz.prog 40 #[.string (bs l), .int .i64 x] W fun e w' => e = .returned (.int .u8 (d0.toNat : Int)) ∧ w' = W))
    (hd2 : ∀ W, Hid (Calls Tryz.prog 35 #[.int .u8 (d0.toNat : Int)] W fun e w' => e = .returned (.bool true) ∧ w' = W))
    (h62 : ∀ x : Int, x = (j1 : Int) + 2 → ∀ W, Hid (Calls Tryz.prog 60 #[.string (bs l), .int .i64 x] W fun e w' => e = .returned (.int .i64 (j3 : Int)) ∧ w' = W)) :
    Calls Tryz.prog 36 #[.string (bs l), .int .i64 (i : Int)] w fun e w' => e = .returned (.int .i64 (j3 : Int)) ∧ w' = w := by
  go_enter Tryz.func36, Tryz.ntmps36
  go_wp2_with fail
  refine Calls.mono (h60 _).out ?_
  rintro _ w1 ⟨rfl, rfl⟩
  go_wp2_with fail
  refine Calls.mono (ha0 _ (by omega) _).out ?_
  rintro _ w1 ⟨rfl, rfl⟩
  go_wp2_with fail
  refine Calls.mono (hz0 _ (by omega) _).out ?_
  rintro _ w1 ⟨rfl, rfl⟩
  go_wp2_with fail
  refine Calls.mono (hs0 _ (by omega) _).out ?_
  rintro _ w1 ⟨rfl, rfl⟩
  go_wp2_with fail
  refine Calls.mono (hk0 _ (by omega) _).out ?_
  rintro _ w1 ⟨rfl, rfl⟩
  go_wp2_with fail
  refine Calls.mono (hd2 _).out ?_
  rintro _ w1 ⟨rfl, rfl⟩
  go_wp2_with fail
  refine Calls.mono (h62 _ (by omega) _).out ?_
  rintro _ w1 ⟨rfl, rfl⟩
  go_wp2
  go_ret
  exact ⟨rfl, rfl⟩
set_option maxRecDepth 100000 in
set_option maxHeartbeats 1000000 in
theorem num_nEmn (l : List UInt8) (i j1 : Nat) (x0 z0 s0 d0 : UInt8) (b_j1 : j1 ≤ 140737488351232) (w : World)
    (h60 : ∀ W, Hid (Calls Tryz.prog 60 #[.string (bs l), .int .i64 (i : Int)] W fun e w' => e = .returned (.int .i64 (j1 : Int)) ∧ w' = W))
    (ha0 : ∀ x : Int, x = (j1 : Int) → ∀ W, Hid (Calls Tryz.prog 40 #[.string (bs l), .int .i64 x] W fun e w' => e = .returned (.int .u8 (x0.toNat : Int)) ∧ w' = W))
    (ta : ((x0.toNat : Int) == 46) = false)
    (hz0 : ∀ x : Int, x = (j1 : Int) → ∀ W, Hid (Calls Tryz.prog 40 #[.string (bs l), .int .i64 x] W fun e w' => e = .returned (.int .u8 (z0.toNat : Int)) ∧ w' = W))
    (tE : ((z0.toNat : Int) == 69) = true)
    (hs0 : ∀ x : Int, x = (j1 : Int) + 1 → ∀ W, Hid (Calls Tryz.prog 40 #[.string (bs l), .int .i64 x] W fun e w' => e = .returned (.int .u8 (s0.toNat : Int)) ∧ w' = W))
    (tp : ((s0.toNat : Int) == 43) = false)
    (tm : ((s0.toNat : Int) == 45) = true)
    (hk0 : ∀ x : Int, x = (j1 : Int) + 2 → ∀ W, Hid (Calls Tryz.prog 40 #[.string (bs l), .int .i64 x] W fun e w' => e = .returned (.int .u8 (d0.toNat : Int)) ∧ w' = W))
    (hd2 : ∀ W, Hid (Calls Tryz.prog 35 #[.int .u8 (d0.toNat : Int)] W fun e w' => e = .returned (.bool false) ∧ w' = W)) :
    Calls Tryz.prog 36 #[.string (bs l), .int .i64 (i : Int)] w fun e w' => e = .returned (.int .i64 (j1 : Int)) ∧ w' = w := by
  go_enter Tryz.func36, Tryz.ntmps36
  go_wp2_with fail
  refine Calls.mono (h60 _).out ?_
  rintro _ w1 ⟨rfl, rfl⟩
  go_wp2_with fail
  refine Calls.mono (ha0 _ (by omega) _).out ?_
  rintro _ w1 ⟨rfl, rfl⟩
  go_wp2_with fail
  refine Calls.mono (hz0 _ (by omega) _).out ?_
  rintro _ w1 ⟨rfl, rfl⟩
  go_wp2_with fail
  refine Calls.mono (hs0 _ (by omega) _).out ?_
  rintro _ w1 ⟨rfl, rfl⟩
  go_wp2_with fail
  refine Calls.mono (hs0 _ (by omega) _).out ?_
  rintro _ w1 ⟨rfl, rfl⟩
  go_wp2_with fail
  refine Calls.mono (hk0 _ (by omega) _).out ?_
  rintro _ w1 ⟨rfl, rfl⟩
  go_wp2_with fail
  refine Calls.mono (hd2 _).out ?_
  rintro _ w1 ⟨rfl, rfl⟩
  go_wp2
  go_ret
  exact ⟨rfl, rfl⟩
set_option maxRecDepth 100000 in
set_option maxHeartbeats 1000000 in
theorem num_nEmy (l : List UInt8) (i j1 j3 : Nat) (x0 z0 s0 d0 : UInt8) (b_j1 : j1 ≤ 140737488351232) (w : World)
    (h60 : ∀ W, Hid (Calls Tryz.prog 60 #[.string (bs l), .int .i64 (i : Int)] W fun e w' => e = .returned (.int .i64 (j1 : Int)) ∧ w' = W))
    (ha0 : ∀ x : Int, x = (j1 : Int) → ∀ W, Hid (Calls Tryz.prog 40 #[.string (bs l), .int .i64 x] W fun e w' => e = .returned (.int .u8 (x0.toNat : Int)) ∧ w' = W))
    (ta : ((x0.toNat : Int) == 46) = false)
    (hz0 : ∀ x : Int, x = (j1 : Int) → ∀ W, Hid (Calls Tryz.prog 40 #[.string (bs l), .int .i64 x] W fun e w' => e = .returned (.int .u8 (z0.toNat : Int)) ∧ w' = W))
    (tE : ((z0.toNat : Int) == 69) = true)
    (hs0 : ∀ x : Int, x = (j1 : Int) + 1 → ∀ W, Hid (Calls Tryz.prog 40 #[.string (bs l), .int .i64 x] W fun e w' => e = .returned (.int .u8 (s0.toNat : Int)) ∧ w' = W))
    (tp : ((s0.toNat : Int) == 43) = false)
    (tm : ((s0.toNat : Int) == 45) = true)
    (hk0 : ∀ x : Int, x = (j1 : Int) + 2 → ∀ W, Hid (Calls Tryz.prog 40 #[.string (bs l), .int .i64 x] W fun e w' => e = .returned (.int .u8 (d0.toNat : Int)) ∧ w' = W))
    (hd2 : ∀ W, Hid (Calls Tryz.prog 35 #[.int .u8 (d0.toNat : Int)] W fun e w' => e = .returned (.bool true) ∧ w' = W))
    (h62 : ∀ x : Int, x = (j1 : Int) + 2 → ∀ W, Hid (Calls Tryz.prog 60 #[.string (bs l), .int .i64 x] W fun e w' => e = .returned (.int .i64 (j3 : Int)) ∧ w' = W)) :
    Calls Tryz.prog 36 #[.string (bs l), .int .i64 (i : Int)] w fun e w' => e = .returned (.int .i64 (j3 : Int)) ∧ w' = w := by
  go_enter Tryz.func36, Tryz.ntmps36
  go_wp2_with fail
  refine Calls.mono (h60 _).out ?_
  rintro _ w1 ⟨rfl, rfl⟩
  go_wp2_with fail
  refine Calls.mono (ha0 _ (by omega) _).out ?_
  rintro _ w1 ⟨rfl, rfl⟩
  go_wp2_with fail
  refine Calls.mono (hz0 _ (by omega) _).out ?_
  rintro _ w1 ⟨rfl, rfl⟩
  go_wp2_with fail
  refine Calls.mono (hs0 _ (by omega) _).out ?_
  rintro _ w1 ⟨rfl, rfl⟩
  go_wp2_with fail
  refine Calls.mono (hs0 _ (by omega) _).out ?_
  rintro _ w1 ⟨rfl, rfl⟩
  go_wp2_with fail
  refine Calls.mono (hk0 _ (by omega) _).out ?_
  rintro _ w1 ⟨rfl, rfl⟩
  go_wp2_with fail
  refine Calls.mono (hd2 _).out ?_
  rintro _ w1 ⟨rfl, rfl⟩
  go_wp2_with fail
  refine Calls.mono (h62 _ (by omega) _).out ?_
  rintro _ w1 ⟨rfl, rfl⟩
  go_wp2
  go_ret
  exact ⟨rfl, rfl⟩
set_option maxRecDepth 100000 in
set_option maxHeartbeats 1000000 in
theorem num_nenn (l : List UInt8) (i j1 : Nat) (x0 z0 s0 d0 : UInt8) (b_j1 : j1 ≤ 140737488351232) (w : World)
    (h60 : ∀ W, Hid (Calls Tryz.prog 60 #[.string (bs l), .int .i64 (i : Int)] W fun e w' => e = .returned (.int .i64 (j1 : Int)) ∧ w' = W))
    (ha0 : ∀ x : Int, x = (j1 : Int) → ∀ W, Hid (Calls Tryz.prog 40 #[.string (bs l), .int .i64 x] W fun e w' => e = .returned (.int .u8 (x0.toNat : Int)) ∧ w' = W))
    (ta : ((x0.toNat : Int) == 46) = false)
    (hz0 : ∀ x : Int, x = (j1 : Int) → ∀ W, Hid (Calls Tryz.prog 40 #[.string (bs l), .int .i64 x] W fun e w' => e = .returned (.int .u8 (z0.toNat : Int)) ∧ w' = W))
    (tE : ((z0.toNat : Int) == 69) = false)
    (te : ((z0.toNat : Int) == 101) = true)
    (hs0 : ∀ x : Int, x = (j1 : Int) + 1 → ∀ W, Hid (Calls Tryz.prog 40 #[.string (bs l), .int .i64 x] W fun e w' => e = .returned (.int .u8 (s0.toNat : Int)) ∧ w' = W))
    (tp : ((s0.toNat : Int) == 43) = false)
    (tm : ((s0.toNat : Int) == 45) = false)
    (hk0 : ∀ x : Int, x = (j1 : Int) + 1 → ∀ W, Hid (Calls Tryz.prog 40 #[.string (bs l), .int .i64 x] W fun e w' => e = .returned (.int .u8 (d0.toNat : Int)) ∧ w' = W))
    (hd2 : ∀ W, Hid (Calls Tryz.prog 35 #[.int .u8 (d0.toNat : Int)] W fun e w' => e = .returned (.bool false) ∧ w' = W)) :
    Calls Tryz.prog 36 #[.string (bs l), .int .i64 (i : Int)] w fun e w' => e = .returned (.int .i64 (j1 : Int)) ∧ w' = w := by
  go_enter Tryz.func36, Tryz.ntmps36
  go_wp2_with fail
  refine Calls.mono (h60 _).out ?_
  rintro _ w1 ⟨rfl, rfl⟩
  go_wp2_with fail
  refine Calls.mono (ha0 _ (by omega) _).out ?_
  rintro _ w1 ⟨rfl, rfl⟩
  go_wp2_with fail
  refine Calls.mono (hz0 _ (by omega) _).out ?_
  rintro _ w1 ⟨rfl, rfl⟩
  go_wp2_with fail
  refine Calls.mono (hz0 _ (by omega) _).out ?_
  rintro _ w1 ⟨rfl, rfl⟩
  go_wp2_with fail
  refine Calls.mono (hs0 _ (by omega) _).out ?_
  rintro _ w1 ⟨rfl, rfl⟩
  go_wp2_with fail
  refine Calls.mono (hs0 _ (by omega) _).out ?_
  rintro _ w1 ⟨rfl, rfl⟩
  go_wp2_with fail
  refine Calls.mono (hk0 _ (by omega) _).out ?_
  rintro _ w1 ⟨rfl, rfl⟩
  go_wp2_with fail
  refine Calls.mono (hd2 _).out ?_
  rintro _ w1 ⟨rfl, rfl⟩
  go_wp2
  go_ret
  exact ⟨rfl, rfl⟩
set_option maxRecDepth 100000 in
set_option maxHeartbeats 1000000 in
theorem num_neny (l : List UInt8) (i j1 j3 : Nat) (x0 z0 s0 d0 : UInt8) (b_j1 : j1 ≤ 140737488351232) (w : World)
    (h60 : ∀ W, Hid (Calls Tryz.prog 60 #[.string (bs l), .int .i64 (i : Int)] W fun e w' => e = .returned (.int .i64 (j1 : Int)) ∧ w' = W))
    (ha0 : ∀ x : Int, x = (j1 : Int) → ∀ W, Hid (Calls Tryz.prog 40 #[.string (bs l), .int .i64 x] W fun e w' => e = .returned (.int .u8 (x0.toNat : Int)) ∧ w' = W))
    (ta : ((x0.toNat : Int) == 46) = false)
    (hz0 : ∀ x : Int, x = (j1 : Int) → ∀ W, Hid (Calls Tryz.prog 40 #[.string (bs l), .int .i64 x] W fun e w' => e = .returned (.int .u8 (z0.toNat : Int)) ∧ w' = W))
    (tE : ((z0.toNat : Int) == 69) = false)
    (te : ((z0.toNat : Int) == 101) = true)
    (hs0 : ∀ x : Int, x = (j1 : Int) + 1 → ∀ W, Hid (Calls Tryz.prog 40 #[.string (bs l), .int .i64 x] W fun e w' => e = .returned (.int .u8 (s0.toNat : Int)) ∧ w' = W))
    (tp : ((s0.toNat : Int) == 43) = false)
    (tm : ((s0.toNat : Int) == 45) = false)
    (hk0 : ∀ x : Int, x = (j1 : Int) + 1 → ∀ W, Hid (Calls Tryz.prog 40 #[.string (bs l), .int .i64 x] W fun e w' => e = .returned (.int .u8 (d0.toNat : Int)) ∧ w' = W))
    (hd2 : ∀ W, Hid (Calls Tryz.prog 35 #[.int .u8 (d0.toNat : Int)] W fun e w' => e = .returned (.bool true) ∧ w' = W))
    (h62 : ∀ x : Int, x = (j1 : Int) + 1 → ∀ W, Hid (Calls Tryz.prog 60 #[.string (bs l), .int .i64 x] W fun e w' => e = .returned (.int .i64 (j3 : Int)) ∧ w' = W)) :
    Calls Tryz.prog 36 #[.string (bs l), .int .i64 (i : Int)] w fun e w' => e = .returned (.int .i64 (j3 : Int)) ∧ w' = w := by
  go_enter Tryz.func36, Tryz.ntmps36
  go_wp2_with fail
  refine Calls.mono (h60 _).out ?_
  rintro _ w1 ⟨rfl, rfl⟩
  go_wp2_with fail
  refine Calls.mono (ha0 _ (by omega) _).out ?_
  rintro _ w1 ⟨rfl, rfl⟩
  go_wp2_with fail
  refine Calls.mono (hz0 _ (by omega) _).out ?_
  rintro _ w1 ⟨rfl, rfl⟩
  go_wp2_with fail
  refine Calls.mono (hz0 _ (by omega) _).out ?_
  rintro _ w1 ⟨rfl, rfl⟩
  go_wp2_with fail
  refine Calls.mono (hs0 _ (by omega) _).out ?_
  rintro _ w1 ⟨rfl, rfl⟩
  go_wp2_with fail
  refine Calls.mono (hs0 _ (by omega) _).out ?_
  rintro _ w1 ⟨rfl, rfl⟩
  go_wp2_with fail
  refine Calls.mono (hk0 _ (by omega) _).out ?_
  rintro _ w1 ⟨rfl, rfl⟩
  go_wp2_with fail
  refine Calls.mono (hd2 _).out ?_
  rintro _ w1 ⟨rfl, rfl⟩
  go_wp2_with fail
  refine Calls.mono (h62 _ (by omega) _).out ?_
  rintro _ w1 ⟨rfl, rfl⟩
  go_wp2
  go_ret
  exact ⟨rfl, rfl⟩
set_option maxRecDepth 100000 in
set_option maxHeartbeats 1000000 in
theorem num_nepn (l : List UInt8) (i j1 : Nat) (x0 z0 s0 d0 : UInt8) (b_j1 : j1 ≤ 140737488351232) (w : World)
    (h60 : ∀ W, Hid (Calls Tryz.prog 60 #[.string (bs l), .int .i64 (i : Int)] W fun e w' => e = .returned (.int .i64 (j1 : Int)) ∧ w' = W))
    (ha0 : ∀ x : Int, x = (j1 : Int) → ∀ W, Hid (Calls Tryz.prog 40 #[.string (bs l), .int .i64 x] W fun e w' => e = .returned (.int .u8 (x0.toNat : Int)) ∧ w' = W))
    (ta : ((x0.toNat : Int) == 46) = false)
    (hz0 : ∀ x : Int, x = (j1 : Int) → ∀ W, Hid (Calls Tryz.prog 40 #[.string (bs l), .int .i64 x] W fun e w' => e = .returned (.int .u8 (z0.toNat : Int)) ∧ w' = W))
    (tE : ((z0.toNat : Int) == 69) = false)
    (te : ((z0.toNat : Int) == 101) = true)
    (hs0 : ∀ x : Int, x = (j1 : Int) + 1 → ∀ W, Hid (Calls Tryz.prog 40 #[.string (bs l), .int .i64 x] W fun e w' => e = .returned (.int .u8 (s0.toNat : Int)) ∧ w' = W))
    (tp : ((s0.toNat : Int) == 43) = true)
    (hk0 : ∀ x : Int, x = (j1 : Int) + 2 → ∀ W, Hid (Calls Tryz.prog 40 #[.string (bs l), .int .i64 x] W fun e w' => e = .returned (.int .u8 (d0.toNat : Int)) ∧ w' = W))
    (hd2 : ∀ W, Hid (Calls Tryz.prog 35 #[.int .u8 (d0.toNat : Int)] W fun e w' => e = .returned (.bool false) ∧ w' = W)) :
    Calls Tryz.prog 36 #[.string (bs l), .int .i64 (i : Int)] w fun e w' => e = .returned (.int .i64 (j1 : Int)) ∧ w' = w := by
  go_enter Tryz.func36, Tryz.ntmps36
  go_wp2_with fail
  refine Calls.mono (h60 _).out ?_
  rintro _ w1 ⟨rfl, rfl⟩
  go_wp2_with fail
  refine Calls.mono (ha0 _ (by omega) _).out ?_
  rintro _ w1 ⟨rfl, rfl⟩
  go_wp2_with fail
  refine Calls.mono (hz0 _ (by omega) _).out ?_
  rintro _ w1 ⟨rfl, rfl⟩
  go_wp2_with fail
  refine Calls.mono (hz0 _ (by omega) _).out ?_
  rintro _ w1 ⟨rfl, rfl⟩
  go_wp2_with fail
  refine Calls.mono (hs0 _ (by omega) _).out ?_
  rintro _ w1 ⟨rfl, rfl⟩
  go_wp2_with fail
  refine Calls.mono (hk0 _ (by omega) _).out ?_
  rintro _ w1 ⟨rfl, rfl⟩
  go_wp2_with fail
  refine Calls.mono (hd2 _).out ?_
  rintro _ w1 ⟨rfl, rfl⟩
  go_wp2
  go_ret
  exact ⟨rfl, rfl⟩
set_option maxRecDepth 100000 in
set_option maxHeartbeats 1000000 in
theorem num_nepy (l : List UInt8) (i j1 j3 : Nat) (x0 z0 s0 d0 : UInt8) (b_j1 : j1 ≤ 140737488351232) (w : World)
    (h60 : ∀ W, Hid (Calls Tryz.prog 60 #[.string (bs l), .int .i64 (i : Int)] W fun e w' => e = .returned (.int .i64 (j1 : Int)) ∧ w' = W))
    (ha0 : ∀ x : Int, x = (j1 : Int) → ∀ W, Hid (Calls Tryz.prog 40 #[.string (bs l), .int .i64 x] W fun e w' => e = .returned (.int .u8 (x0.toNat : Int)) ∧ w' = W))
    (ta : ((x0.toNat : Int) == 46) = false)
    (hz0 : ∀ x : Int, x = (j1 : Int) → ∀ W, Hid (Calls Tryz.prog 40 #[.string (bs l), .int .i64 x] W fun e w' => e = .returned (.int .u8 (z0.toNat : Int)) ∧ w' = W))
    (tE : ((z0.toNat : Int) == 69) = false)
    (te : ((z0.toNat : Int) == 101) = true)
    (hs0 : ∀ x : Int, x = (j1 : Int) + 1 → ∀ W, Hid (Calls Tryz.prog 40 #[.string (bs l), .int .i64 x] W fun e w' => e = .returned (.int .u8 (s0.toNat : Int)) ∧ w' = W))
    (tp : ((s0.toNat : Int) == 43) = true)
    (hk0 : ∀ x : Int, x = (j1 : Int) + 2 → ∀ W, Hid (Calls Tryz.prog 40 #[.string (bs l), .int .i64 x] W fun e w' => e = .returned (.int .u8 (d0.toNat : Int)) ∧ w' = W))
    (hd2 : ∀ W, Hid (Calls Tryz.prog 35 #[.int .u8 (d0.toNat : Int)] W fun e w' => e = .returned (.bool true) ∧ w' = W))
    (h62 : ∀ x : Int, x = (j1 : Int) + 2 → ∀ W, Hid (Calls Tryz.prog 60 #[.string (bs l), .int .i64 x] W fun e w' => e = .returned (.int .i64 (j3 : Int)) ∧ w' = W)) :
    Calls Tryz.prog 36 #[.string (bs l), .int .i64 (i : Int)] w fun e w' => e = .returned (.int .i64 (j3 : Int)) ∧ w' = w := by
  go_enter Tryz.func36, Tryz.ntmps36
  go_wp2_with fail
  refine Calls.mono (h60 _).out ?_
  rintro _ w1 ⟨rfl, rfl⟩
  go_wp2_with fail
  refine Calls.mono (ha0 _ (by omega) _).out ?_
  rintro _ w1 ⟨rfl, rfl⟩
  go_wp2_with fail
  refine Calls.mono (hz0 _ (by omega) _).out ?_
  rintro _ w1 ⟨rfl, rfl⟩
  go_wp2_with fail
  refine Calls.mono (hz0 _ (by omega) _).out ?_
  rintro _ w1 ⟨rfl, rfl⟩
  go_wp2_with fail
  refine Calls.mono (hs0 _ (by omega) _).out ?_
  rintro _ w1 ⟨rfl, rfl⟩
  go_wp2_with fail
  refine Calls.mono (hk0 _ (by omega) _).out ?_
  rintro _ w1 ⟨rfl, rfl⟩
  go_wp2_with fail
  refine Calls.mono (hd2 _).out ?_
  rintro _ w1 ⟨rfl, rfl⟩
  go_wp2_with fail
  refine Calls.mono (h62 _ (by omega) _).out ?_
  rintro _ w1 ⟨rfl, rfl⟩
  go_wp2
  go_ret
  exact ⟨rfl, rfl⟩
set_option maxRecDepth 100000 in
set_option maxHeartbeats 1000000 in
theorem num_nemn (l : List UInt8) (i j1 : Nat) (x0 z0 s0 d0 : UInt8) (b_j1 : j1 ≤ 140737488351232) (w : World)
    (h60 : ∀ W, Hid (Calls Tryz.prog 60 #[.string (bs l), .int .i64 (i : Int)] W fun e w' => e = .returned (.int .i64 (j1 : Int)) ∧ w' = W))
    (ha0 : ∀ x : Int, x = (j1 : Int) → ∀ W, Hid (Calls Tryz.prog 40 #[.string (bs l), .int .i64 x] W fun e w' => e = .returned (.int .u8 (x0.toNat : Int)) ∧ w' = W))
    (ta : ((x0.toNat : Int) == 46) = false)
    (hz0 : ∀ x : Int, x = (j1 : Int) → ∀ W, Hid (Calls Tryz.prog 40 #[.string (bs l), .int .i64 x] W fun e w' => e = .returned (.int .u8 (z0.toNat : Int)) ∧ w' = W))
    (tE : ((z0.toNat : Int) == 69) = false)
    (te : ((z0.toNat : Int) == 101) = true)
    (hs0 : ∀ x : Int, x = (j1 : Int) + 1 → ∀ W, Hid (Calls Tryz.prog 40 #[.string (bs l), .int .i64 x] W fun e w' => e = .returned (.int .u8 (s0.toNat : Int)) ∧ w' = W))
    (tp : ((s0.toNat : Int) == 43) = false)
    (tm : ((s0.toNat : Int) == 45) = true)
    (hk0 : ∀ x : Int, x = (j1 : Int) + 2 → ∀ W, Hid (Calls Tryz.prog 40 #[.string (bs l), .int .i64 x] W fun e w' => e = .returned (.int .u8 (d0.toNat : Int)) ∧ w' = W))
    (hd2 : ∀ W, Hid (Calls Tryz.prog 35 #[.int .u8 (d0.toNat : Int)] W fun e w' => e = .returned (.bool false) ∧ w' = W)) :
    Calls Tryz.prog 36 #[.string (bs l), .int .i64 (i : Int)] w fun e w' => e = .returned (.int .i64 (j1 : Int)) ∧ w' = w := by
  go_enter Tryz.func36, Tryz.ntmps36
  go_wp2_with fail
  refine Calls.mono (h60 _).out ?_
  rintro _ w1 ⟨rfl, rfl⟩
  go_wp2_with fail
  refine Calls.mono (ha0 _ (by omega) _).out ?_
  rintro _ w1 ⟨rfl, rfl⟩
  go_wp2_with fail
  refine Calls.mono (hz0 _ (by omega) _).out ?_
  rintro _ w1 ⟨rfl, rfl⟩
  go_wp2_with fail
  refine Calls.mono (hz0 _ (by omega) _).out ?_
  rintro _ w1 ⟨rfl, rfl⟩
  go_wp2_with fail
  refine Calls.mono (hs0 _ (by omega) _).out ?_
  rintro _ w1 ⟨rfl, rfl⟩
  go_wp2_with fail
  refine Calls.mono (hs0 _ (by omega) _).out ?_
  rintro _ w1 ⟨rfl, rfl⟩
  go_wp2_with fail
  refine Calls.mono (hk0 _ (by omega) _).out ?_
  rintro _ w1 ⟨rfl, rfl⟩
  go_wp2_with fail
  refine Calls.mono (hd2 _).out ?_
  rintro _ w1 ⟨rfl, rfl⟩
  go_wp2
  go_ret
  exact ⟨rfl, rfl⟩
set_option maxRecDepth 100000 in
set_option maxHeartbeats 1000000 in
theorem num_nemy (l : List UInt8) (i j1 j3 : Nat) (x0 z0 s0 d0 : UInt8) (b_j1 : j1 ≤ 140737488351232) (w : World)
    (h60 : ∀ W, Hid (Calls Tryz.prog 60 #[.string (bs l), .int .i64 (i : Int)] W fun e w' => e = .returned (.int .i64 (j1 : Int)) ∧ w' = W))
    (ha0 : ∀ x : Int, x = (j1 : Int) → ∀ W, Hid (Calls Tryz.prog 40 #[.string (bs l), .int .i64 x] W fun e w' => e = .returned (.int .u8 (x0.toNat : Int)) ∧ w' = W))
    (ta : ((x0.toNat : Int) == 46) = false)
    (hz0 : ∀ x : Int, x = (j1 : Int) → ∀ W, Hid (Calls Tryz.prog 40 #[.string (bs l), .int .i64 x] W fun e w' => e = .returned (.int .u8 (z0.toNat : Int)) ∧ w' = W))
    (tE : ((z0.toNat : Int) == 69) = false)
    (te : ((z0.toNat : Int) == 101) = true)
    (hs0 : ∀ x : Int, x = (j1 : Int) + 1 → ∀ W, Hid (Calls Tryz.prog 40 #[.string (bs l), .int .i64 x] W fun e w' => e = .returned (.int .u8 (s0.toNat : Int)) ∧ w' = W))
    (tp : ((s0.toNat : Int) == 43) = false)
    (tm : ((s0.toNat : Int) == 45) = true)
    (hk0 : ∀ x : Int, x = (j1 : Int) + 2 → ∀ W, Hid (Calls Tryz.prog 40 #[.string (bs l), .int .i64 x] W fun e w' => e = .returned (.int .u8 (d0.toNat : Int)) ∧ w' = W))
    (hd2 : ∀ W, Hid (Calls Tryz.prog 35 #[.int .u8 (d0.toNat : Int)] W fun e w' => e = .returned (.bool true) ∧ w' = W))
    (h62 : ∀ x : Int, x = (j1 : Int) + 2 → ∀ W, Hid (Calls Tryz.prog 60 #[.string (bs l), .int .i64 x] W fun e w' => e = .returned (.int .i64 (j3 : Int)) ∧ w' = W)) :
    Calls Tryz.prog 36 #[.string (bs l), .int .i64 (i : Int)] w fun e w' => e = .returned (.int .i64 (j3 : Int)) ∧ w' = w := by
  go_enter Tryz.func36, Tryz.ntmps36
  go_wp2_with fail
  refine Calls.mono (h60 _).out ?_
  rintro _ w1 ⟨rfl, rfl⟩
  go_wp2_with fail
  refine Calls.mono (ha0 _ (by omega) _).out ?_
  rintro _ w1 ⟨rfl, rfl⟩
  go_wp2_with fail
  refine Calls.mono (hz0 _ (by omega) _).out ?_
  rintro _ w1 ⟨rfl, rfl⟩
  go_wp2_with fail
  refine Calls.mono (hz0 _ (by omega) _).out ?_
  rintro _ w1 ⟨rfl, rfl⟩
  go_wp2_with fail
  refine Calls.mono (hs0 _ (by omega) _).out ?_
  rintro _ w1 ⟨rfl, rfl⟩
  go_wp2_with fail
  refine Calls.mono (hs0 _ (by omega) _).out ?_
  rintro _ w1 ⟨rfl, rfl⟩
  go_wp2_with fail
  refine Calls.mono (hk0 _ (by omega) _).out ?_
  rintro _ w1 ⟨rfl, rfl⟩
  go_wp2_with fail
  refine Calls.mono (hd2 _).out ?_
  rintro _ w1 ⟨rfl, rfl⟩
  go_wp2_with fail
  refine Calls.mono (h62 _ (by omega) _).out ?_
  rintro _ w1 ⟨rfl, rfl⟩
  go_wp2
  go_ret
  exact ⟨rfl, rfl⟩
set_option maxRecDepth 100000 in
set_option maxHeartbeats 1000000 in
theorem num_mnxx (l : List UInt8) (i j1 : Nat) (x0 z0 x1 : UInt8) (b_j1 : j1 ≤ 140737488351232) (w : World)
    (h60 : ∀ W, Hid (Calls Tryz.prog 60 #[.string (bs l), .int .i64 (i : Int)] W fun e w' => e = .returned (.int .i64 (j1 : Int)) ∧ w' = W))
    (ha0 : ∀ x : Int, x = (j1 : Int) → ∀ W, Hid (Calls Tryz.prog 40 #[.string (bs l), .int .i64 x] W fun e w' => e = .returned (.int .u8 (x0.toNat : Int)) ∧ w' = W))
    (ta : ((x0.toNat : Int) == 46) = true)
    (ha1 : ∀ x : Int, x = (j1 : Int) + 1 → ∀ W, Hid (Calls Tryz.prog 40 #[.string (bs l), .int .i64 x] W fun e w' => e = .returned (.int .u8 (x1.toNat : Int)) ∧ w' = W))
    (hd1 : ∀ W, Hid (Calls Tryz.prog 35 #[.int .u8 (x1.toNat : Int)] W fun e w' => e = .returned (.bool false) ∧ w' = W))
    (hz0 : ∀ x : Int, x = (j1 : Int) → ∀ W, Hid (Calls Tryz.prog 40 #[.string (bs l), .int .i64 x] W fun e w' => e = .returned (.int .u8 (z0.toNat : Int)) ∧ w' = W))
    (tE : ((z0.toNat : Int) == 69) = false)
    (te : ((z0.toNat : Int) == 101) = false) :
    Calls Tryz.prog 36 #[.string (bs l), .int .i64 (i : Int)] w fun e w' => e = .returned (.int .i64 (j1 : Int)) ∧ w' = w := by
  go_enter Tryz.func36, Tryz.ntmps36
  go_wp2_with fail
  refine Calls.mono (h60 _).out ?_
  rintro _ w1 ⟨rfl, rfl⟩
  go_wp2_with fail
  refine Calls.mono (ha0 _ (by omega) _).out ?_
  rintro _ w1 ⟨rfl, rfl⟩
  go_wp2_with fail
  refine Calls.mono (ha1 _ (by omega) _).out ?_
  rintro _ w1 ⟨rfl, rfl⟩
  go_wp2_with fail
  refine Calls.mono (hd1 _).out ?_
  rintro _ w1 ⟨rfl, rfl⟩
  go_wp2_with fail
  refine Calls.mono (hz0 _ (by omega) _).out ?_
  rintro _ w1 ⟨rfl, rfl⟩
  go_wp2_with fail
  refine Calls.mono (hz0 _ (by omega) _).out ?_
  rintro _ w1 ⟨rfl, rfl⟩
  go_wp2
  go_ret
  exact ⟨rfl, rfl⟩
set_option maxRecDepth 100000 in
set_option maxHeartbeats 1000000 in
theorem num_mEnn (l : List UInt8) (i j1 : Nat) (x0 z0 x1 s0 d0 : UInt8) (b_j1 : j1 ≤ 140737488351232) (w : World)
    (h60 : ∀ W, Hid (Calls Tryz.prog 60 #[.string (bs l), .int .i64 (i : Int)] W fun e w' => e = .returned (.int .i64 (j1 : Int)) ∧ w' = W))
    (ha0 : ∀ x : Int, x = (j1 : Int) → ∀ W, Hid (Calls Tryz.prog 40 #[.string (bs l), .int .i64 x] W fun e w' => e = .returned (.int .u8 (x0.toNat : Int)) ∧ w' = W))
    (ta : ((x0.toNat : Int) == 46) = true)
    (ha1 : ∀ x : Int, x = (j1 : Int) + 1 → ∀ W, Hid (Calls Tryz.prog 40 #[.string (bs l), .int .i64 x] W fun e w' => e = .returned (.int .u8 (x1.toNat : Int)) ∧ w' = W))
    (hd1 : ∀ W, Hid (Calls Tryz.prog 35 #[.int .u8 (x1.toNat : Int)] W fun e w' => e = .returned (.bool false) ∧ w' = W))
    (hz0 : ∀ x : Int, x = (j1 : Int) → ∀ W, Hid (Calls Tryz.prog 40 #[.string (bs l), .int .i64 x] W fun e w' => e = .returned (.int .u8 (z0.toNat : Int)) ∧ w' = W))
    (tE : ((z0.toNat : Int) == 69) = true)
    (hs0 : ∀ x : Int, x = (j1 : Int) + 1 → ∀ W, Hid (Calls Tryz.prog 40 #[.string (bs l), .int .i64 x] W fun e w' => e = .returned (.int .u8 (s0.toNat : Int)) ∧ w' = W))
    (tp : ((s0.toNat : Int) == 43) = false)
    (tm : ((s0.toNat : Int) == 45) = false)
    (hk0 : ∀ x : Int, x = (j1 : Int) + 1 → ∀ W, Hid (Calls Tryz.prog 40 #[.string (bs l), .int .i64 x] W fun e w' => e = .returned (.int .u8 (d0.toNat : Int)) ∧ w' = W))
    (hd2 : ∀ W, Hid (Calls Tryz.prog 35 #[.int .u8 (d0.toNat : Int)] W fun e w' => e = .returned (.bool false) ∧ w' = W)) :
    Calls Tryz.prog 36 #[.string (bs l), .int .i64 (i : Int)] w fun e w' => e = .returned (.int .i64 (j1 : Int)) ∧ w' = w := by
  go_enter Tryz.func36, Tryz.ntmps36
  go_wp2_with fail
  refine Calls.mono (h60 _).out ?_
  rintro _ w1 ⟨rfl, rfl⟩
  go_wp2_with fail
  refine Calls.mono (ha0 _ (by omega) _).out ?_
  rintro _ w1 ⟨rfl, rfl⟩
  go_wp2_with fail
  refine Calls.mono (ha1 _ (by omega) _).out ?_
  rintro _ w1 ⟨rfl, rfl⟩
  go_wp2_with fail
  refine Calls.mono (hd1 _).out ?_
  rintro _ w1 ⟨rfl, rfl⟩
  go_wp2_with fail
  refine Calls.mono (hz0 _ (by omega) _).out ?_
  rintro _ w1 ⟨rfl, rfl⟩
  go_wp2_with fail
  refine Calls.mono (hs0 _ (by omega) _).out ?_
  rintro _ w1 ⟨rfl, rfl⟩
  go_wp2_with fail
  refine Calls.mono (hs0 _ (by omega) _).out ?_
  rintro _ w1 ⟨rfl, rfl⟩
  go_wp2_with fail
  refine Calls.mono (hk0 _ (by omega) _).out ?_
  rintro _ w1 ⟨rfl, rfl⟩
  go_wp2_with fail
  refine Calls.mono (hd2 _).out ?_
  rintro _ w1 ⟨rfl, rfl⟩
  go_wp2
  go_ret
  exact ⟨rfl, rfl⟩
set_option maxRecDepth 100000 in
set_option maxHeartbeats 1000000 in
theorem num_mEny (l : List UInt8) (i j1 j3 : Nat) (x0 z0 x1 s0 d0 : UInt8) (b_j1 : j1 ≤ 140737488351232) (w : World)
    (h60 : ∀ W, Hid (Calls Tryz.prog 60 #[.string (bs l), .int .i64 (i : Int)] W fun e w' => e = .returned (.int .i64 (j1 : Int)) ∧ w' = W))
    (ha0 : ∀ x : Int, x = (j1 : Int) → ∀ W, Hid (Calls Tryz.prog 40 #[.string (bs l), .int .i64 x] W fun e w' => e = .returned (.int .u8 (x0.toNat : Int)) ∧ w' = W))
    (ta : ((x0.toNat : Int) == 46) = true)
    (ha1 : ∀ x : Int, x = (j1 : Int) + 1 → ∀ W, Hid (Calls Tryz.prog 40 #[.string (bs l), .int .i64 x] W fun e w' => e = .returned (.int .u8 (x1.toNat : Int)) ∧ w' = W))
    (hd1 : ∀ W, Hid (Calls Tryz.prog 35 #[.int .u8 (x1.toNat : Int)] W fun e w' => e = .returned (.bool false) ∧ w' = W))
    (hz0 : ∀ x : Int, x = (j1 : Int) → ∀ W, Hid (Calls Tryz.prog 40 #[.string (bs l), .int .i64 x] W fun e w' => e = .returned (.int .u8 (z0.toNat : Int)) ∧ w' = W))
    (tE : ((z0.toNat : Int) == 69) = true)
    (hs0 : ∀ x : Int, x = (j1 : Int) + 1 → ∀ W, Hid (Calls Tryz.prog 40 #[.string (bs l), .int .i64 x] W fun e w' => e = .returned (.int .u8 (s0.toNat : Int)) ∧ w' = W))
    (tp : ((s0.toNat : Int) == 43) = false)
    (tm : ((s0.toNat : Int) == 45) = false)
    (hk0 : ∀ x : Int, x = (j1 : Int) + 1 → ∀ W, Hid (Calls Tryz.prog 40 #[.string (bs l), .int .i64 x] W fun e w' => e = .returned (.int .u8 (d0.toNat : Int)) ∧ w' = W))
    (hd2 : ∀ W, Hid (Calls Tryz.prog 35 #[.int .u8 (d0.toNat : Int)] W fun e w' => e = .returned (.bool true) ∧ w' = W))
    (h62 : ∀ x : Int, x = (j1 : Int) + 1 → ∀ W, Hid (Calls Tryz.prog 60 #[.string (bs l), .int .i64 x] W fun e w' => e = .returned (.int .i64 (j3 : Int)) ∧ w' = W)) :
    Calls Tryz.prog 36 #[.string (bs l), .int .i64 (i : Int)] w fun e w' => e = .returned (.int .i64 (j3 : Int)) ∧ w' = w := by
  go_enter Tryz.func36, Tryz.ntmps36
  go_wp2_with fail
  refine Calls.mono (h60 _).out ?_
  rintro _ w1 ⟨rfl, rfl⟩
  go_wp2_with fail
  refine Calls.mono (ha0 _ (by omega) _).out ?_
  rintro _ w1 ⟨rfl, rfl⟩
  go_wp2_with fail
  refine Calls.mono (ha1 _ (by omega) _).out ?_
  rintro _ w1 ⟨rfl, rfl⟩
  go_wp2_with fail
  refine Calls.mono (hd1 _).out ?_
  rintro _ w1 ⟨rfl, rfl⟩
  go_wp2_with fail
  refine Calls.mono (hz0 _ (by omega) _).out ?_
  rintro _ w1 ⟨rfl, rfl⟩
  go_wp2_with fail
  refine Calls.mono (hs0 _ (by omega) _).out ?_
  rintro _ w1 ⟨rfl, rfl⟩
  go_wp2_with fail
  refine Calls.mono (hs0 _ (by omega) _).out ?_
  rintro _ w1 ⟨rfl, rfl⟩
  go_wp2_with fail
  refine Calls.mono (hk0 _ (by omega) _).out ?_
  rintro _ w1 ⟨rfl, rfl⟩
  go_wp2_with fail
  refine Calls.mono (hd2 _).out ?_
  rintro _ w1 ⟨rfl, rfl⟩
  go_wp2_with fail
  refine Calls.mono (h62 _ (by omega) _).out ?_
  rintro _ w1 ⟨rfl, rfl⟩
  go_wp2
  go_ret
  exact ⟨rfl, rfl⟩
set_option maxRecDepth 100000 in
set_option maxHeartbeats 1000000 in
theorem num_mEpn (l : List UInt8) (i j1 : Nat) (x0 z0 x1 s0 d0 : UInt8) (b_j1 : j1 ≤ 140737488351232) (w : World)
    (h60 : ∀ W, Hid (Calls Tryz.prog 60 #[.string (bs l), .int .i64 (i : Int)] W fun e w' => e = .returned (.int .i64 (j1 : Int)) ∧ w' = W))
    (ha0 : ∀ x : Int, x = (j1 : Int) → ∀ W, Hid (Calls Tryz.prog 40 #[.string (bs l), .int .i64 x] W fun e w' => e = .returned (.int .u8 (x0.toNat : Int)) ∧ w' = W))
    (ta : ((x0.toNat : Int) == 46) = true)
    (ha1 : ∀ x : Int, x = (j1 : Int) + 1 → ∀ W, Hid (Calls Tryz.prog 40 #[.string (bs l), .int .i64 x] W fun e w' => e = .returned (.int .u8 (x1.toNat : Int)) ∧ w' = W))
    (hd1 : ∀ W, Hid (Calls Tryz.prog 35 #[.int .u8 (x1.toNat : Int)] W fun e w' => e = .returned (.bool false) ∧ w' = W))
    (hz0 : ∀ x : Int, x = (j1 : Int) → ∀ W, Hid (Calls Tryz.prog 40 #[.string (bs l), .int .i64 x] W fun e w' => e = .returned (.int .u8 (z0.toNat : Int)) ∧ w' = W))
    (tE : ((z0.toNat : Int) == 69) = true)
    (hs0 : ∀ x : Int, x = (j1 : Int) + 1 → ∀ W, Hid (Calls Tryz.prog 40 #[.string (bs l), .int .i64 x] W fun e w' => e = .returned (.int .u8 (s0.toNat : Int)) ∧ w' = W))
    (tp : ((s0.toNat : Int) == 43) = true)
    (hk0 : ∀ x : Int, x = (j1 : Int) + 2 → ∀ W, Hid (Calls Tryz.prog 40 #[.string (bs l), .int .i64 x] W fun e w' => e = .returned (.int .u8 (d0.toNat : Int)) ∧ w' = W))
    (hd2 : ∀ W, Hid (Calls Tryz.prog 35 #[.int .u8 (d0.toNat : Int)] W fun e w' => e = .returned (.bool false) ∧ w' = W)) :
    Calls Tryz.prog 36 #[.string (bs l), .int .i64 (i : Int)] w fun e w' => e = .returned (.int .i64 (j1 : Int)) ∧ w' = w := by
  go_enter Tryz.func36, Tryz.ntmps36
  go_wp2_with fail
  refine Calls.mono (h60 _).out ?_
  rintro _ w1 ⟨rfl, rfl⟩
  go_wp2_with fail
  refine Calls.mono (ha0 _ (by omega) _).out ?_
  rintro _ w1 ⟨rfl, rfl⟩
  go_wp2_with fail
  refine Calls.mono (ha1 _ (by omega) _).out ?_
  rintro _ w1 ⟨rfl, rfl⟩
  go_wp2_with fail
  refine Calls.mono (hd1 _).out ?_
  rintro _ w1 ⟨rfl, rfl⟩
  go_wp2_with fail
  refine Calls.mono (hz0 _ (by omega) _).out ?_
  rintro _ w1 ⟨rfl, rfl⟩
  go_wp2_with fail
  refine Calls.mono (hs0 _ (by omega) _).out ?_
  rintro _ w1 ⟨rfl, rfl⟩
  go_wp2_with fail
  refine Calls.mono (hk0 _ (by omega) _).out ?_
  rintro _ w1 ⟨rfl, rfl⟩
  go_wp2_with fail
  refine Calls.mono (hd2 _).out ?_
  rintro _ w1 ⟨rfl, rfl⟩
  go_wp2
  go_ret
  exact ⟨rfl, rfl⟩
set_option maxRecDepth 100000 in
set_option maxHeartbeats 1000000 in
theorem num_mEpy (l : List UInt8) (i j1 j3 : Nat) (x0 z0 x1 s0 d0 : UInt8) (b_j1 : j1 ≤ 140737488351232) (w : World)
    (h60 : ∀ W, Hid (Calls Tryz.prog 60 #[.string (bs l), .int .i64 (i : Int)] W fun e w' => e = .returned (.int .i64 (j1 : Int)) ∧ w' = W))
    (ha0 : ∀ x : Int, x = (j1 : Int) → ∀ W, Hid (Calls Tryz.prog 40 #[.string (bs l), .int .i64 x] W fun e w' => e = .returned (.int .u8 (x0.toNat : Int)) ∧ w' = W))
    (ta : ((x0.toNat : Int) == 46) = true)
    (ha1 : ∀ x : Int, x = (j1 : Int) + 1 → ∀ W, Hid (Calls Tryz.prog 40 #[.string (bs l), .int .i64 x] W fun e w' => e = .returned (.int .u8 (x1.toNat : Int)) ∧ w' = W))
    (hd1 : ∀ W, Hid (Calls Tryz.prog 35 #[.int .u8 (x1.toNat : Int)] W fun e w' => e = .returned (.bool false) ∧ w' = W))
    (hz0 : ∀ x : Int, x = (j1 : Int) → ∀ W, Hid (Calls Tryz.prog 40 #[.string (bs l), .int .i64 x] W fun e w' => e = .returned (.int .u8 (z0.toNat : Int)) ∧ w' = W))
    (tE : ((z0.toNat : Int) == 69) = true)
    (hs0 : ∀ x : Int, x = (j1 : Int) + 1 → ∀ W, Hid (Calls Tryz.prog 40 #[.string (bs l), .int .i64 x] W fun e w' => e = .returned (.int .u8 (s0.toNat : Int)) ∧ w' = W))
    (tp : ((s0.toNat : Int) == 43) = true)
    (hk0 : ∀ x : Int, x = (j1 : Int) + 2 → ∀ W, Hid (Calls Tryz.prog 40 #[.string (bs l), .int .i64 x] W fun e w' => e = .returned (.int .u8 (d0.toNat : Int)) ∧ w' = W))
    (hd2 : ∀ W, Hid (Calls Tryz.prog 35 #[.int .u8 (d0.toNat : Int)] W fun e w' => e = .returned (.bool true) ∧ w' = W))
    (h62 : ∀ x : Int, x = (j1 : Int) + 2 → ∀ W, Hid (Calls Tryz.prog 60 #[.string (bs l), .int .i64 x] W fun e w' => e = .returned (.int .i64 (j3 : Int)) ∧ w' = W)) :
    Calls Tryz.prog 36 #[.string (bs l), .int .i64 (i : Int)] w fun e w' => e = .returned (.int .i64 (j3 : Int)) ∧ w' = w := by
  go_enter Tryz.func36, Tryz.ntmps36
  go_wp2_with fail
  refine Calls.mono (h60 _).out ?_
  rintro _ w1 ⟨rfl, rfl⟩
  go_wp2_with fail
  refine Calls.mono (ha0 _ (by omega) _).out ?_
  rintro _ w1 ⟨rfl, rfl⟩
  go_wp2_with fail
  refine Calls.mono (ha1 _ (by omega) _).out ?_
  rintro _ w1 ⟨rfl, rfl⟩
  go_wp2_with fail
  refine Calls.mono (hd1 _).out ?_
  rintro _ w1 ⟨rfl, rfl⟩
  go_wp2_with fail
  refine Calls.mono (hz0 _ (by omega) _).out ?_
  rintro _ w1 ⟨rfl, rfl⟩
  go_wp2_with fail
  refine Calls.mono (hs0 _ (by omega) _).out ?_
  rintro _ w1 ⟨rfl, rfl⟩
  go_wp2_with fail
  refine Calls.mono (hk0 _ (by omega) _).out ?_
  rintro _ w1 ⟨rfl, rfl⟩
  go_wp2_with fail
  refine Calls.mono (hd2 _).out ?_
  rintro _ w1 ⟨rfl, rfl⟩
  go_wp2_with fail
  refine Calls.mono (h62 _ (by omega) _).out ?_
  rintro _ w1 ⟨rfl, rfl⟩
  go_wp2
  go_ret
  exact ⟨rfl, rfl⟩
set_option maxRecDepth 100000 in
set_option maxHeartbeats 1000000 in
theorem num_mEmn (l : List UInt8) (i j1 : Nat) (x0 z0 x1 s0 d0 : UInt8) (b_j1 : j1 ≤ 140737488351232) (w : World)
    (h60 : ∀ W, Hid (Calls Tryz.prog 60 #[.string (bs l), .int .i64 (i : Int)] W fun e w' => e = .returned (.int .i64 (j1 : Int)) ∧ w' = W))
    (ha0 : ∀ x : Int, x = (j1 : Int) → ∀ W, Hid (Calls Tryz.prog 40 #[.string (bs l), .int .i64 x] W fun e w' => e = .returned (.int .u8 (x0.toNat : Int)) ∧ w' = W))
    (ta : ((x0.toNat : Int) == 46) = true)
    (ha1 : ∀ x : Int, x = (j1 : Int) + 1 → ∀ W, Hid (Calls Tryz.prog 40 #[.string (bs l), .int .i64 x] W fun e w' => e = .returned (.int .u8 (x1.toNat : Int)) ∧ w' = W))
    (hd1 : ∀ W, Hid (Calls Tryz.prog 35 #[.int .u8 (x1.toNat : Int)] W fun e w' => e = .returned (.bool false) ∧ w' = W))
    (hz0 : ∀ x : Int, x = (j1 : Int) → ∀ W, Hid (Calls Tryz.prog 40 #[.string (bs l), .int .i64 x] W fun e w' => e = .returned (.int .u8 (z0.toNat : Int)) ∧ w' = W))
    (tE : ((z0.toNat : Int) == 69) = true)
    (hs0 : ∀ x : Int, x = (j1 : Int) + 1 → ∀ W, Hid (Calls Tryz.prog 40 #[.string (bs l), .int .i64 x] W fun e w' => e = .returned (.int .u8 (s0.toNat : Int)) ∧ w' = W))
    (tp : ((s0.toNat : Int) == 43) = false)
    (tm : ((s0.toNat : Int) == 45) = true)
    (hk0 : ∀ x : Int, x = (j1 : Int) + 2 → ∀ W, Hid (Calls Tryz.prog 40 #[.string (bs l), .int .i64 x] W fun e w' => e = .returned (.int .u8 (d0.toNat : Int)) ∧ w' = W))
    (hd2 : ∀ W, Hid (Calls Tryz.prog 35 #[.int .u8 (d0.toNat : Int)] W fun e w' => e = .returned (.bool false) ∧ w' = W)) :
    Calls Tryz.prog 36 #[.string (bs l), .int .i64 (i : Int)] w fun e w' => e = .returned (.int .i64 (j1 : Int)) ∧ w' = w := by
  go_enter Tryz.func36, Tryz.ntmps36
  go_wp2_with fail
  refine Calls.mono (h60 _).out ?_
  rintro _ w1 ⟨rfl, rfl⟩
  go_wp2_with fail
  refine Calls.mono (ha0 _ (by omega) _).out ?_
  rintro _ w1 ⟨rfl, rfl⟩
  go_wp2_with fail
  refine Calls.mono (ha1 _ (by omega) _).out ?_
  rintro _ w1 ⟨rfl, rfl⟩
  go_wp2_with fail
  refine Calls.mono (hd1 _).out ?_
  rintro _ w1 ⟨rfl, rfl⟩
  go_wp2_with fail
  refine Calls.mono (hz0 _ (by omega) _).out ?_
  rintro _ w1 ⟨rfl, rfl⟩
  go_wp2_with fail
  refine Calls.mono (hs0 _ (by omega) _).out ?_
  rintro _ w1 ⟨rfl, rfl⟩
  go_wp2_with fail
  refine Calls.mono (hs0 _ (by omega) _).out ?_
  rintro _ w1 ⟨rfl, rfl⟩
  go_wp2_with fail
  refine Calls.mono (hk0 _ (by omega) _).out ?_
  rintro _ w1 ⟨rfl, rfl⟩
  go_wp2_with fail
  refine Calls.mono (hd2 _).out ?_
  rintro _ w1 ⟨rfl, rfl⟩
  go_wp2
  go_ret
  exact ⟨rfl, rfl⟩
set_option maxRecDepth 100000 in
set_option maxHeartbeats 1000000 in
theorem num_mEmy (l : List UInt8) (i j1 j3 : Nat) (x0 z0 x1 s0 d0 : UInt8) (b_j1 : j1 ≤ 140737488351232) (w : World)
    (h60 : ∀ W, Hid (Calls Tryz.prog 60 #[.string (bs l), .int .i64 (i : Int)] W fun e w' => e = .returned (.int .i64 (j1 : Int)) ∧ w' = W))
    (ha0 : ∀ x : Int, x = (j1 : Int) → ∀ W, Hid (Calls Tryz.prog 40 #[.string (bs l), .int .i64 x] W fun e w' => e = .returned (.int .u8 (x0.toNat : Int)) ∧ w' = W))
    (ta : ((x0.toNat : Int) == 46) = true)
    (ha1 : ∀ x : Int, x = (j1 : Int) + 1 → ∀ W, Hid (Calls Tryz.prog 40 #[.string (bs l), .int .i64 x] W fun e w' => e = .returned (.int .u8 (x1.toNat : Int)) ∧ w' = W))
    (hd1 : ∀ W, Hid (Calls Tryz.prog 35 #[.int .u8 (x1.toNat : Int)] W fun e w' => e = .returned (.bool false) ∧ w' = W))
    (hz0 : ∀ x : Int, x = (j1 : Int) → ∀ W, Hid (Calls Tryz.prog 40 #[.string (bs l), .int .i64 x] W fun e w' => e = .returned (.int .u8 (z0.toNat : Int)) ∧ w' = W))
    (tE : ((z0.toNat : Int) == 69) = true)
    (hs0 : ∀ x : Int, x = (j1 : Int) + 1 → ∀ W, Hid (Calls Tryz.prog 40 #[.string (bs l), .int .i64 x] W fun e w' => e = .returned (.int .u8 (s0.toNat : Int)) ∧ w' = W))
    (tp : ((s0.toNat : Int) == 43) = false)
    (tm : ((s0.toNat : Int) == 45) = true)
    (hk0 : ∀ x : Int, x = (j1 : Int) + 2 → ∀ W, Hid (Calls Tryz.prog 40 #[.string (bs l), .int .i64 x] W fun e w' => e = .returned (.int .u8 (d0.toNat : Int)) ∧ w' = W))
    (hd2 : ∀ W, Hid (Calls Tryz.prog 35 #[.int .u8 (d0.toNat : Int)] W fun e w' => e = .returned (.bool true) ∧ w' = W))
    (h62 : ∀ x : Int, x = (j1 : Int) + 2 → ∀ W, Hid (Calls Tryz.prog 60 #[.string (bs l), .int .i64 x] W fun e w' => e = .returned (.int .i64 (j3 : Int)) ∧ w' = W)) :
    Calls Tryz.prog 36 #[.string (bs l), .int .i64 (i : Int)] w fun e w' => e = .returned (.int .i64 (j3 : Int)) ∧ w' = w := by
  go_enter Tryz.func36, Tryz.ntmps36
  go_wp2_with fail
  refine Calls.mono (h60 _).out ?_
  rintro _ w1 ⟨rfl, rfl⟩
  go_wp2_with fail
  refine Calls.mono (ha0 _ (by omega) _).out ?_
  rintro _ w1 ⟨rfl, rfl⟩
  go_wp2_with fail
  refine Calls.mono (ha1 _ (by omega) _).out ?_
  rintro _ w1 ⟨rfl, rfl⟩
  go_wp2_with fail
  refine Calls.mono (hd1 _).out ?_
  rintro _ w1 ⟨rfl, rfl⟩
  go_wp2_with fail
  refine Calls.mono (hz0 _ (by omega) _).out ?_
  rintro _ w1 ⟨rfl, rfl⟩
  go_wp2_with fail
  refine Calls.mono (hs0 _ (by omega) _).out ?_
  rintro _ w1 ⟨rfl, rfl⟩
  go_wp2_with fail
  refine Calls.mono (hs0 _ (by omega) _).out ?_
  rintro _ w1 ⟨rfl, rfl⟩
  go_wp2_with fail
  refine Calls.mono (hk0 _ (by omega) _).out ?_
  rintro _ w1 ⟨rfl, rfl⟩
  go_wp2_with fail
  refine Calls.mono (hd2 _).out ?_
  rintro _ w1 ⟨rfl, rfl⟩
  go_wp2_with fail
  refine Calls.mono (h62 _ (by omega) _).out ?_
  rintro _ w1 ⟨rfl, rfl⟩
  go_wp2
  go_ret
  exact ⟨rfl, rfl⟩
set_option maxRecDepth 100000 in
set_option maxHeartbeats 1000000 in
theorem num_menn (l : List UInt8) (i j1 : Nat) (x0 z0 x1 s0 d0 : UInt8) (b_j1 : j1 ≤ 140737488351232) (w : World)
    (h60 : ∀ W, Hid (Calls Tryz.prog 60 #[.string (bs l), .int .i64 (i : Int)] W fun e w' => e = .returned (.int .i64 (j1 : Int)) ∧ w' = W))
    (ha0 : ∀ x : Int, x = (j1 : Int) → ∀ W, Hid (Calls Tryz.prog 40 #[.string (bs l), .int .i64 x] W fun e w' => e = .returned (.int .u8 (x0.toNat : Int)) ∧ w' = W))
    (ta : ((x0.toNat : Int) == 46) = true)
    (ha1 : ∀ x : Int, x = (j1 : Int) + 1 → ∀ W, Hid (Calls Tryz.prog 40 #[.string (bs l), .int .i64 x] W fun e w' => e = .returned (.int .u8 (x1.toNat : Int)) ∧ w' = W))
    (hd1 : ∀ W, Hid (Calls Tryz.prog 35 #[.int .u8 (x1.toNat : Int)] W fun e w' => e = .returned (.bool false) ∧ w' = W))
    (hz0 : ∀ x : Int, x = (j1 : Int) → ∀ W, Hid (Calls Tryz.prog 40 #[.string (bs l), .int .i64 x] W fun e w' => e = .returned (.int .u8 (z0.toNat : Int)) ∧ w' = W))
    (tE : ((z0.toNat : Int) == 69) = false)
    (te : ((z0.toNat : Int) == 101) = true)
    (hs0 : ∀ x : Int, x = (j1 : Int) + 1 → ∀ W, Hid (Calls Tryz.prog 40 #[.string (bs l), .int .i64 x] W fun e w' => e = .returned (.int .u8 (s0.toNat : Int)) ∧ w' = W))
    (tp : ((s0.toNat : Int) == 43) = false)
    (tm : ((s0.toNat : Int) == 45) = false)
    (hk0 : ∀ x : Int, x = (j1 : Int) + 1 → ∀ W, Hid (Calls Tryz.prog 40 #[.string (bs l), .int .i64 x] W fun e w' => e = .returned (.int .u8 (d0.toNat : Int)) ∧ w' = W))
    (hd2 : ∀ W, Hid (Calls Tryz.prog 35 #[.int .u8 (d0.toNat : Int)] W fun e w' => e = .returned (.bool false) ∧ w' = W)) :
    Calls Tryz.prog 36 #[.string (bs l), .int .i64 (i : Int)] w fun e w' => e = .returned (.int .i64 (j1 : Int)) ∧ w' = w := by
  go_enter Tryz.func36, Tryz.ntmps36
  go_wp2_with fail
  refine Calls.mono (h60 _).out ?_
  rintro _ w1 ⟨rfl, rfl⟩
  go_wp2_with fail
  refine Calls.mono (ha0 _ (by omega) _).out ?_
  rintro _ w1 ⟨rfl, rfl⟩
  go_wp2_with fail
  refine Calls.mono (ha1 _ (by omega) _).out ?_
  rintro _ w1 ⟨rfl, rfl⟩
  go_wp2_with fail
  refine Calls.mono (hd1 _).out ?_
  rintro _ w1 ⟨rfl, rfl⟩
  go_wp2_with fail
  refine Calls.mono (hz0 _ (by omega) _).out ?_
  rintro _ w1 ⟨rfl, rfl⟩
  go_wp2_with fail
  refine Calls.mono (hz0 _ (by omega) _).out ?_
  rintro _ w1 ⟨rfl, rfl⟩
  go_wp2_with fail
  refine Calls.mono (hs0 _ (by omega) _).out ?_
  rintro _ w1 ⟨rfl, rfl⟩
  go_wp2_with fail
  refine Calls.mono (hs0 _ (by omega) _).out ?_
  rintro _ w1 ⟨rfl, rfl⟩
  go_wp2_with fail
  refine Calls.mono (hk0 _ (by omega) _).out ?_
  rintro _ w1 ⟨rfl, rfl⟩
  go_wp2_with fail
  refine Calls.mono (hd2 _).out ?_
  rintro _ w1 ⟨rfl, rfl⟩
  go_wp2
  go_ret
  exact ⟨rfl, rfl⟩
set_option maxRecDepth 100000 in
set_option maxHeartbeats 1000000 in
theorem num_meny (l : List UInt8) (i j1 j3 : Nat) (x0 z0 x1 s0 d0 : UInt8) (b_j1 : j1 ≤ 140737488351232) (w : World)
    (h60 : ∀ W, Hid (Calls Tryz.prog 60 #[.string (bs l), .int .i64 (i : Int)] W fun e w' => e = .returned (.int .i64 (j1 : Int)) ∧ w' = W))
    (ha0 : ∀ x : Int, x = (j1 : Int) → ∀ W, Hid (Calls Tryz.prog 40 #[.string (bs l), .int .i64 x] W fun e w' => e = .returned (.int .u8 (x0.toNat : Int)) ∧ w' = W))
    (ta : ((x0.toNat : Int) == 46) = true)
    (ha1 : ∀ x : Int, x = (j1 : Int) + 1 → ∀ W, Hid (Calls Tryz.prog 40 #[.string (bs l), .int .i64 x] W fun e w' => e = .returned (.int .u8 (x1.toNat : Int)) ∧ w' = W))
    (hd1 : ∀ W, Hid (Calls Tryz.prog 35 #[.int .u8 (x1.toNat : Int)] W fun e w' => e = .returned (.bool false) ∧ w' = W))
    (hz0 : ∀ x : Int, x = (j1 : Int) → ∀ W, Hid (Calls Tryz.prog 40 #[.string (bs l), .int .i64 x] W fun e w' => e = .returned (.int .u8 (z0.toNat : Int)) ∧ w' = W))
    (tE : ((z0.toNat : Int) == 69) = false)
    (te : ((z0.toNat : Int) == 101) = true)
    (hs0 : ∀ x : Int, x = (j1 : Int) + 1 → ∀ W, Hid (Calls Tryz.prog 40 #[.string (bs l), .int .i64 x] W fun e w' => e = .returned (.int .u8 (s0.toNat : Int)) ∧ w' = W))
    (tp : ((s0.toNat : Int) == 43) = false)
    (tm : ((s0.toNat : Int) == 45) = false)
    (hk0 : ∀ x : Int, x = (j1 : Int) + 1 → ∀ W, Hid (Calls Tryz.prog 40 #[.string (bs l), .int .i64 x] W fun e w' => e = .returned (.int .u8 (d0.toNat : Int)) ∧ w' = W))
    (hd2 : ∀ W, Hid (Calls Tryz.prog 35 #[.int .u8 (d0.toNat : Int)] W fun e w' => e = .returned (.bool true) ∧ w' = W))
    (h62 : ∀ x : Int, x = (j1 : Int) + 1 → ∀ W, Hid (Calls Tryz.prog 60 #[.string (bs l), .int .i64 x] W fun e w' => e = .returned (.int .i64 (j3 : Int)) ∧ w' = W)) :
    Calls Tryz.prog 36 #[.string (bs l), .int .i64 (i : Int)] w fun e w' => e = .returned (.int .i64 (j3 : Int)) ∧ w' = w := by
  go_enter Tryz.func36, Tryz.ntmps36
  go_wp2_with fail
  refine Calls.mono (h60 _).out ?_
  rintro _ w1 ⟨rfl, rfl⟩
  go_wp2_with fail
  refine Calls.mono (ha0 _ (by omega) _).out ?_
  rintro _ w1 ⟨rfl, rfl⟩
  go_wp2_with fail
  refine Calls.mono (ha1 _ (by omega) _).out ?_
  rintro _ w1 ⟨rfl, rfl⟩
  go_wp2_with fail
  refine Calls.mono (hd1 _).out ?_
  rintro _ w1 ⟨rfl, rfl⟩
  go_wp2_with fail
  refine Calls.mono (hz0 _ (by omega) _).out ?_
  rintro _ w1 ⟨rfl, rfl⟩
  go_wp2_with fail
  refine Calls.mono (hz0 _ (by omega) _).out ?_
  rintro _ w1 ⟨rfl, rfl⟩
  go_wp2_with fail
  refine Calls.mono (hs0 _ (by omega) _).out ?_
  rintro _ w1 ⟨rfl, rfl⟩
  go_wp2_with fail
  refine Calls.mono (hs0 _ (by omega) _).out ?_
  rintro _ w1 ⟨rfl, rfl⟩
  go_wp2_with fail
  refine Calls.mono (hk0 _ (by omega) _).out ?_
  rintro _ w1 ⟨rfl, rfl⟩
  go_wp2_with fail
  refine Calls.mono (hd2 _).out ?_
  rintro _ w1 ⟨rfl, rfl⟩
  go_wp2_with fail
  refine Calls.mono (h62 _ (by omega) _).out ?_
  rintro _ w1 ⟨rfl, rfl⟩
  go_wp2
  go_ret
  exact ⟨rfl, rfl⟩
set_option maxRecDepth 100000 in
set_option maxHeartbeats 1000000 in
theorem num_mepn (l : List UInt8) (i j1 : Nat) (x0 z0 x1 s0 d0 : UInt8) (b_j1 : j1 ≤ 140737488351232) (w : World)
    (h60 : ∀ W, Hid (Calls Tryz.prog 60 #[.string (bs l), .int .i64 (i : Int)] W fun e w' => e = .returned (.int .i64 (j1 : Int)) ∧ w' = W))
    (ha0 : ∀ x : Int, x = (j1 : Int) → ∀ W, Hid (Calls Tryz.prog 40 #[.string (bs l), .int .i64 x] W fun e w' => e = .returned (.int .u8 (x0.toNat : Int)) ∧ w' = W))
    (ta : ((x0.toNat : Int) == 46) = true)
    (ha1 : ∀ x : Int, x = (j1 : Int) + 1 → ∀ W, Hid (Calls Tryz.prog 40 #[.string (bs l), .int .i64 x] W fun e w' => e = .returned (.int .u8 (x1.toNat : Int)) ∧ w' = W))
    (hd1 : ∀ W, Hid (Calls Tryz.prog 35 #[.int .u8 (x1.toNat : Int)] W fun e w' => e = .returned (.bool false) ∧ w' = W))
    (hz0 : ∀ x : Int, x = (j1 : Int) → ∀ W, Hid (Calls Tryz.prog 40 #[.string (bs l), .int .i64 x] W fun e w' => e = .returned (.int .u8 (z0.toNat : Int)) ∧ w' = W))
    (tE : ((z0.toNat : Int) == 69) = false)
    (te : ((z0.toNat : Int) == 101) = true)
    (hs0 : ∀ x : Int, x = (j1 : Int) + 1 → ∀ W, Hid (Calls Tryz.prog 40 #[.string (bs l), .int .i64 x] W fun e w' => e = .returned (.int .u8 (s0.toNat : Int)) ∧ w' = W))
    (tp : ((s0.toNat : Int) == 43) = true)
    (hk0 : ∀ x : Int, x = (j1 : Int) + 2 → ∀ W, Hid (Calls Tryz.prog 40 #[.string (bs l), .int .i64 x] W fun e w' => e = .returned (.int .u8 (d0.toNat : Int)) ∧ w' = W))
    (hd2 : ∀ W, Hid (Calls Tryz.prog 35 #[.int .u8 (d0.toNat : Int)] W fun e w' => e = .returned (.bool false) ∧ w' = W)) :
    Calls Tryz.prog 36 #[.string (bs l), .int .i64 (i : Int)] w fun e w' => e = .returned (.int .i64 (j1 : Int)) ∧ w' = w := by
  go_enter Tryz.func36, Tryz.ntmps36
  go_wp2_with fail
  refine Calls.mono (h60 _).out ?_
  rintro _ w1 ⟨rfl, rfl⟩
  go_wp2_with fail
  refine Calls.mono (ha0 _ (by omega) _).out ?_
  rintro _ w1 ⟨rfl, rfl⟩
  go_wp2_with fail
  refine Calls.mono (ha1 _ (by omega) _).out ?_
  rintro _ w1 ⟨rfl, rfl⟩
  go_wp2_with fail
  refine Calls.mono (hd1 _).out ?_
  rintro _ w1 ⟨rfl, rfl⟩
  go_wp2_with fail
  refine Calls.mono (hz0 _ (by omega) _).out ?_
  rintro _ w1 ⟨rfl, rfl⟩
  go_wp2_with fail
  refine Calls.mono (hz0 _ (by omega) _).out ?_
  rintro _ w1 ⟨rfl, rfl⟩
  go_wp2_with fail
  refine Calls.mono (hs0 _ (by omega) _).out ?_
  rintro _ w1 ⟨rfl, rfl⟩
  go_wp2_with fail
  refine Calls.mono (hk0 _ (by omega) _).out ?_
  rintro _ w1 ⟨rfl, rfl⟩
  go_wp2_with fail
  refine Calls.mono (hd2 _).out ?_
  rintro _ w1 ⟨rfl, rfl⟩
  go_wp2
  go_ret
  exact ⟨rfl, rfl⟩
set_option maxRecDepth 100000 in
set_option maxHeartbeats 1000000 in
theorem num_mepy (l : List UInt8) (i j1 j3 : Nat) (x0 z0 x1 s0 d0 : UInt8) (b_j1 : j1 ≤ 140737488351232) (w : World)
    (h60 : ∀ W, Hid (Calls Tryz.prog 60 #[.string (bs l), .int .i64 (i : Int)] W fun e w' => e = .returned (.int .i64 (j1 : Int)) ∧ w' = W))
    (ha0 : ∀ x : Int, x = (j1 : Int) → ∀ W, Hid (Calls Tryz.prog 40 #[.string (bs l), .int .i64 x] W fun e w' => e = .returned (.int .u8 (x0.toNat : Int)) ∧ w' = W))
    (ta : ((x0.toNat : Int) == 46) = true)
    (ha1 : ∀ x : Int, x = (j1 : Int) + 1 → ∀ W, Hid (Calls Tryz.prog 40 #[.string (bs l), .int .i64 x] W fun e w' => e = .returned (.int .u8 (x1.toNat : Int)) ∧ w' = W))
    (hd1 : ∀ W, Hid (Calls Tryz.prog 35 #[.int .u8 (x1.toNat : Int)] W fun e w' => e = .returned (.bool false) ∧ w' = W))
    (hz0 : ∀ x : Int, x = (j1 : Int) → ∀ W, Hid (Calls Tryz.prog 40 #[.string (bs l), .int .i64 x] W fun e w' => e = .returned (.int .u8 (z0.toNat : Int)) ∧ w' = W))
    (tE : ((z0.toNat : Int) == 69) = false)
    (te : ((z0.toNat : Int) == 101) = true)
    (hs0 : ∀ x : Int, x = (j1 : Int) + 1 → ∀ W, Hid (Calls Tryz.prog 40 #[.string (bs l), .int .i64 x] W fun e w' => e = .returned (.int .u8 (s0.toNat : Int)) ∧ w' = W))
    (tp : ((s0.toNat : Int) == 43) = true)
    (hk0 : ∀ x : Int, x = (j1 : Int) + 2 → ∀ W, Hid (Calls Tryz.prog 40 #[.string (bs l), .int .i64 x] W fun e w' => e = .returned (.int .u8 (d0.toNat : Int)) ∧ w' = W))
    (hd2 : ∀ W, Hid (Calls Tryz.prog 35 #[.int .u8 (d0.toNat : Int)] W fun e w' => e = .returned (.bool true) ∧ w' = W))
    (h62 : ∀ x : Int, x = (j1 : Int) + 2 → ∀ W, Hid (Calls Tryz.prog 60 #[.string (bs l), .int .i64 x] W fun e w' => e = .returned (.int .i64 (j3 : Int)) ∧ w' = W)) :
    Calls Tryz.prog 36 #[.string (bs l), .int .i64 (i : Int)] w fun e w' => e = .returned (.int .i64 (j3 : Int)) ∧ w' = w := by
  go_enter Tryz.func36, Tryz.ntmps36
  go_wp2_with fail
  refine Calls.mono (h60 _).out ?_
  rintro _ w1 ⟨rfl, rfl⟩
  go_wp2_with fail
  refine Calls.mono (ha0 _ (by omega) _).out ?_
  rintro _ w1 ⟨rfl, rfl⟩
  go_wp2_with fail
  refine Calls.mono (ha1 _ (by omega) _).out ?_
  rintro _ w1 ⟨rfl, rfl⟩
  go_wp2_with fail
  refine Calls.mono (hd1 _).out ?_
  rintro _ w1 ⟨rfl, rfl⟩
  go_wp2_with fail
  refine Calls.mono (hz0 _ (by omega) _).out ?_
  rintro _ w1 ⟨rfl, rfl⟩
  go_wp2_with fail
  refine Calls.mono (hz0 _ (by omega) _).out ?_
  rintro _ w1 ⟨rfl, rfl⟩
  go_wp2_with fail
  refine Calls.mono (hs0 _ (by omega) _).out ?_
  rintro _ w1 ⟨rfl, rfl⟩
  go_wp2_with fail
  refine Calls.mono (hk0 _ (by omega) _).out ?_
  rintro _ w1 ⟨rfl, rfl⟩
  go_wp2_with fail
  refine Calls.mono (hd2 _).out ?_
  rintro _ w1 ⟨rfl, rfl⟩
  go_wp2_with fail
  refine Calls.mono (h62 _ (by omega) _).out ?_
  rintro _ w1 ⟨rfl, rfl⟩
  go_wp2
  go_ret
  exact ⟨rfl, rfl⟩
set_option maxRecDepth 100000 in
set_option maxHeartbeats 1000000 in
theorem num_memn (l : List UInt8) (i j1 : Nat) (x0 z0 x1 s0 d0 : UInt8) (b_j1 : j1 ≤ 140737488351232) (w : World)
    (h60 : ∀ W, Hid (Calls Tryz.prog 60 #[.string (bs l), .int .i64 (i : Int)] W fun e w' => e = .returned (.int .i64 (j1 : Int)) ∧ w' = W))
    (ha0 : ∀ x : Int, x = (j1 : Int) → ∀ W, Hid (Calls Tryz.prog 40 #[.string (bs l), .int .i64 x] W fun e w' => e = .returned (.int .u8 (x0.toNat : Int)) ∧ w' = W))
    (ta : ((x0.toNat : Int) == 46) = true)
    (ha1 : ∀ x : Int, x = (j1 : Int) + 1 → ∀ W, Hid (Calls Tryz.prog 40 #[.string (bs l), .int .i64 x] W fun e w' => e = .returned (.int .u8 (x1.toNat : Int)) ∧ w' = W))
    (hd1 : ∀ W, Hid (Calls Tryz.prog 35 #[.int .u8 (x1.toNat : Int)] W fun e w' => e = .returned (.bool false) ∧ w' = W))
    (hz0 : ∀ x : Int, x = (j1 : Int) → ∀ W, Hid (Calls Tryz.prog 40 #[.string (bs l), .int .i64 x] W fun e w' => e = .returned (.int .u8 (z0.toNat : Int)) ∧ w' = W))
    (tE : ((z0.toNat : Int) == 69) = false)
    (te : ((z0.toNat : Int) == 101) = true)
    (hs0 : ∀ x : Int, x = (j1 : Int) + 1 → ∀ W, Hid (Calls Tryz.prog 40 #[.string (bs l), .int .i64 x] W fun e w' => e = .returned (.int .u8 (s0.toNat : Int)) ∧ w' = W))
    (tp : ((s0.toNat : Int) == 43) = false)
    (tm : ((s0.toNat : Int) == 45) = true)
    (hk0 : ∀ x : Int, x = (j1 : Int) + 2 → ∀ W, Hid (Calls Tryz.prog 40 #[.string (bs l), .int .i64 x] W fun e w' => e = .returned (.int .u8 (d0.toNat : Int)) ∧ w' = W))
    (hd2 : ∀ W, Hid (Calls Tryz.prog 35 #[.int .u8 (d0.toNat : Int)] W fun e w' => e = .returned (.bool false) ∧ w' = W)) :
    Calls Tryz.prog 36 #[.string (bs l), .int .i64 (i : Int)] w fun e w' => e = .returned (.int .i64 (j1 : Int)) ∧ w' = w := by
  go_enter Tryz.func36, Tryz.ntmps36
  go_wp2_with fail
  refine Calls.mono (h60 _).out ?_
  rintro _ w1 ⟨rfl, rfl⟩
  go_wp2_with fail
  refine Calls.mono (ha0 _ (by omega) _).out ?_
  rintro _ w1 ⟨rfl, rfl⟩
  go_wp2_with fail
  refine Calls.mono (ha1 _ (by omega) _).out ?_
  rintro _ w1 ⟨rfl, rfl⟩
  go_wp2_with fail
  refine Calls.mono (hd1 _).out ?_
  rintro _ w1 ⟨rfl, rfl⟩
  go_wp2_with fail
  refine Calls.mono (hz0 _ (by omega) _).out ?_
  rintro _ w1 ⟨rfl, rfl⟩
  go_wp2_with fail
  refine Calls.mono (hz0 _ (by omega) _).out ?_
  rintro _ w1 ⟨rfl, rfl⟩
  go_wp2_with fail
  refine Calls.mono (hs0 _ (by omega) _).out ?_
  rintro _ w1 ⟨rfl, rfl⟩
  go_wp2_with fail
  refine Calls.mono (hs0 _ (by omega) _).out ?_
  rintro _ w1 ⟨rfl, rfl⟩
  go_wp2_with fail
  refine Calls.mono (hk0 _ (by omega) _).out ?_
  rintro _ w1 ⟨rfl, rfl⟩
  go_wp2_with fail
  refine Calls.mono (hd2 _).out ?_
  rintro _ w1 ⟨rfl, rfl⟩
  go_wp2
  go_ret
  exact ⟨rfl, rfl⟩
set_option maxRecDepth 100000 in
set_option maxHeartbeats 1000000 in
theorem num_memy (l : List UInt8) (i j1 j3 : Nat) (x0 z0 x1 s0 d0 : UInt8) (b_j1 : j1 ≤ 140737488351232) (w : World)
    (h60 : ∀ W, Hid (Calls Tryz.prog 60 #[.string (bs l), .int .i64 (i : Int)] W fun e w' => e = .returned (.int .i64 (j1 : Int)) ∧ w' = W))
    (ha0 : ∀ x : Int, x = (j1 : Int) → ∀ W, Hid (Calls Tryz.prog 40 #[.string (bs l), .int .i64 x] W fun e w' => e = .returned (.int .u8 (x0.toNat : Int)) ∧ w' = W))
    (ta : ((x0.toNat : Int) == 46) = true)
    (ha1 : ∀ x : Int, x = (j1 : Int) + 1 → ∀ W, Hid (Calls Tryz.prog 40 #[.string (bs l), .int .i64 x] W fun e w' => e = .returned (.int .u8 (x1.toNat : Int)) ∧ w' = W))
    (hd1 : ∀ W, Hid (Calls Tryz.prog 35 #[.int .u8 (x1.toNat : Int)] W fun e w' => e = .returned (.bool false) ∧ w' = W))
    (hz0 : ∀ x : Int, x = (j1 : Int) → ∀ W, Hid (Calls Tryz.prog 40 #[.string (bs l), .int .i64 x] W fun e w' => e = .returned (.int .u8 (z0.toNat : Int)) ∧ w' = W))
    (tE : ((z0.toNat : Int) == 69) = false)
    (te : ((z0.toNat : Int) == 101) = true)
    (hs0 : ∀ x : Int, x = (j1 : Int) + 1 → ∀ W, Hid (Calls Tryz.prog 40 #[.string (bs l), .int .i64 x] W fun e w' => e = .returned (.int .u8 (s0.toNat : Int)) ∧ w' = W))
    (tp : ((s0.toNat : Int) == 43) = false)
    (tm : ((s0.toNat : Int) == 45) = true)
    (hk0 : ∀ x : Int, x = (j1 : Int) + 2 → ∀ W, Hid (Calls Tryz.prog 40 #[.string (bs l), .int .i64 x] W fun e w' => e = .returned (.int .u8 (d0.toNat : Int)) ∧ w' = W))
    (hd2 : ∀ W, Hid (Calls Tryz.prog 35 #[.int .u8 (d0.toNat : Int)] W fun e w' => e = .returned (.bool true) ∧ w' = W))
    (h62 : ∀ x : Int, x = (j1 : Int) + 2 → ∀ W, Hid (Calls Tryz.prog 60 #[.string (bs l), .int .i64 x] W fun e w' => e = .returned (.int .i64 (j3 : Int)) ∧ w' = W)) :
    Calls Tryz.prog 36 #[.string (bs l), .int .i64 (i : Int)] w fun e w' => e = .returned (.int .i64 (j3 : Int)) ∧ w' = w := by
  go_enter Tryz.func36, Tryz.ntmps36
  go_wp2_with fail
  refine Calls.mono (h60 _).out ?_
  rintro _ w1 ⟨rfl, rfl⟩
  go_wp2_with fail
  refine Calls.mono (ha0 _ (by omega) _).out ?_
  rintro _ w1 ⟨rfl, rfl⟩
  go_wp2_with fail
  refine Calls.mono (ha1 _ (by omega) _).out ?_
  rintro _ w1 ⟨rfl, rfl⟩
  go_wp2_with fail
  refine Calls.mono (hd1 _).out ?_
  rintro _ w1 ⟨rfl, rfl⟩
  go_wp2_with fail
  refine Calls.mono (hz0 _ (by omega) _).out ?_
  rintro _ w1 ⟨rfl, rfl⟩
  go_wp2_with fail
  refine Calls.mono (hz0 _ (by omega) _).out ?_
  rintro _ w1 ⟨rfl, rfl⟩
  go_wp2_with fail
  refine Calls.mono (hs0 _ (by omega) _).out ?_
  rintro _ w1 ⟨rfl, rfl⟩
  go_wp2_with fail
  refine Calls.mono (hs0 _ (by omega) _).out ?_
  rintro _ w1 ⟨rfl, rfl⟩
  go_wp2_with fail
  refine Calls.mono (hk0 _ (by omega) _).out ?_
  rintro _ w1 ⟨rfl, rfl⟩
  go_wp2_with fail
  refine Calls.mono (hd2 _).out ?_
  rintro _ w1 ⟨rfl, rfl⟩
  go_wp2_with fail
  refine Calls.mono (h62 _ (by omega) _).out ?_
  rintro _ w1 ⟨rfl, rfl⟩
  go_wp2
  go_ret
  exact ⟨rfl, rfl⟩
set_option maxRecDepth 100000 in
set_option maxHeartbeats 1000000 in
theorem num_ynxx (l : List UInt8) (i j1 j2 : Nat) (x0 z0 x1 : UInt8) (b_j1 : j1 ≤ 140737488351232) (w : World)
    (h60 : ∀ W, Hid (Calls Tryz.prog 60 #[.string (bs l), .int .i64 (i : Int)] W fun e w' => e = .returned (.int .i64 (j1 : Int)) ∧ w' = W))
    (ha0 : ∀ x : Int, x = (j1 : Int) → ∀ W, Hid (Calls Tryz.prog 40 #[.string (bs l), .int .i64 x] W fun e w' => e = .returned (.int .u8 (x0.toNat : Int)) ∧ w' = W))
    (ta : ((x0.toNat : Int) == 46) = true)
    (ha1 : ∀ x : Int, x = (j1 : Int) + 1 → ∀ W, Hid (Calls Tryz.prog 40 #[.string (bs l), .int .i64 x] W fun e w' => e = .returned (.int .u8 (x1.toNat : Int)) ∧ w' = W))
    (hd1 : ∀ W, Hid (Calls Tryz.prog 35 #[.int .u8 (x1.toNat : Int)] W fun e w' => e = .returned (.bool true) ∧ w' = W))
    (h61 : ∀ x : Int, x = (j1 : Int) + 1 → ∀ W, Hid (Calls Tryz.prog 60 #[.string (bs l), .int .i64 x] W fun e w' => e = .returned (.int .i64 (j2 : Int)) ∧ w' = W))
    (hz0 : ∀ x : Int, x = (j2 : Int) → ∀ W, Hid (Calls Tryz.prog 40 #[.string (bs l), .int .i64 x] W fun e w' => e = .returned (.int .u8 (z0.toNat : Int)) ∧ w' = W))
    (tE : ((z0.toNat : Int) == 69) = false)
    (te : ((z0.toNat : Int) == 101) = false) :
    Calls Tryz.prog 36 #[.string (bs l), .int .i64 (i : Int)] w fun e w' => e = .returned (.int .i64 (j2 : Int)) ∧ w' = w := by
  go_enter Tryz.func36, Tryz.ntmps36
  go_wp2_with fail
  refine Calls.mono (h60 _).out ?_
  rintro _ w1 ⟨rfl, rfl⟩
  go_wp2_with fail
  refine Calls.mono (ha0 _ (by omega) _).out ?_
  rintro _ w1 ⟨rfl, rfl⟩
  go_wp2_with fail
  refine Calls.mono (ha1 _ (by omega) _).out ?_
  rintro _ w1 ⟨rfl, rfl⟩
  go_wp2_with fail
  refine Calls.mono (hd1 _).out ?_
  rintro _ w1 ⟨rfl, rfl⟩
  go_wp2_with fail
  refine Calls.mono (h61 _ (by omega) _).out ?_
  rintro _ w1 ⟨rfl, rfl⟩
  go_wp2_with fail
  refine Calls.mono (hz0 _ (by omega) _).out ?_
  rintro _ w1 ⟨rfl, rfl⟩
  go_wp2_with fail
  refine Calls.mono (hz0 _ (by omega) _).out ?_
  rintro _ w1 ⟨rfl, rfl⟩
  go_wp2
  go_ret
  exact ⟨rfl, rfl⟩
set_option maxRecDepth 100000 in
set_option maxHeartbeats 1000000 in
theorem num_yEnn (l : List UInt8) (i j1 j2 : Nat) (x0 z0 x1 s0 d0 : UInt8) (b_j1 : j1 ≤ 140737488351232) (b_j2 : j2 ≤ 140737488351232) (w : World)
    (h60 : ∀ W, Hid (Calls Tryz.prog 60 #[.string (bs l), .int .i64 (i : Int)] W fun e w' => e = .returned (.int .i64 (j1 : Int)) ∧ w' = W))
    (ha0 : ∀ x : Int, x = (j1 : Int) → ∀ W, Hid (Calls Tryz.prog 40 #[.string (bs l), .int .i64 x] W fun e w' => e = .returned (.int .u8 (x0.toNat : Int)) ∧ w' = W))
    (ta : ((x0.toNat : Int) == 46) = true)
    (ha1 : ∀ x : Int, x = (j1 : Int) + 1 → ∀ W, Hid (Calls Tryz.prog 40 #[.string (bs l), .int .i64 x] W fun e w' => e = .returned (.int .u8 (x1.toNat : Int)) ∧ w' = W))
    (hd1 : ∀ W, Hid (Calls Tryz.prog 35 #[.int .u8 (x1.toNat : Int)] W fun e w' => e = .returned (.bool true) ∧ w' = W))
    (h61 : ∀ x : Int, x = (j1 : Int) + 1 → ∀ W, Hid (Calls Tryz.prog 60 #[.string (bs l), .int .i64 x] W fun e w' => e = .returned (.int .i64 (j2 : Int)) ∧ w' = W))
    (hz0 : ∀ x : Int, x = (j2 : Int) → ∀ W, Hid (Calls Tryz.prog 40 #[.string (bs l), .int .i64 x] W fun e w' => e = .returned (.int .u8 (z0.toNat : Int)) ∧ w' = W))
    (tE : ((z0.toNat : Int) == 69) = true)
    (hs0 : ∀ x : Int, x = (j2 : Int) + 1 → ∀ W, Hid (Calls Tryz.prog 40 #[.string (bs l), .int .i64 x] W fun e w' => e = .returned (.int .u8 (s0.toNat : Int)) ∧ w' = W))
    (tp : ((s0.toNat : Int) == 43) = false)
    (tm : ((s0.toNat : Int) == 45) = false)
    (hk0 : ∀ x : Int, x = (j2 : Int) + 1 → ∀ W, Hid (Calls Tryz.prog 40 #[.string (bs l), .int .i64 x] W fun e w' => e = .returned (.int .u8 (d0.toNat : Int)) ∧ w' = W))
    (hd2 : ∀ W, Hid (Calls Tryz.prog 35 #[.int .u8 (d0.toNat : Int)] W fun e w' => e = .returned (.bool false) ∧ w' = W)) :
    Calls Tryz.prog 36 #[.string (bs l), .int .i64 (i : Int)] w fun e w' => e = .returned (.int .i64 (j2 : Int)) ∧ w' = w := by
  go_enter Tryz.func36, Tryz.ntmps36
  go_wp2_with fail
  refine Calls.mono (h60 _).out ?_
  rintro _ w1 ⟨rfl, rfl⟩
  go_wp2_with fail
  refine Calls.mono (ha0 _ (by omega) _).out ?_
  rintro _ w1 ⟨rfl, rfl⟩
  go_wp2_with fail
  refine Calls.mono (ha1 _ (by omega) _).out ?_
  rintro _ w1 ⟨rfl, rfl⟩
  go_wp2_with fail
  refine Calls.mono (hd1 _).out ?_
  rintro _ w1 ⟨rfl, rfl⟩
  go_wp2_with fail
  refine Calls.mono (h61 _ (by omega) _).out ?_
  rintro _ w1 ⟨rfl, rfl⟩
  go_wp2_with fail
  refine Calls.mono (hz0 _ (by omega) _).out ?_
  rintro _ w1 ⟨rfl, rfl⟩
  go_wp2_with fail
  refine Calls.mono (hs0 _ (by omega) _).out ?_
  rintro _ w1 ⟨rfl, rfl⟩
  go_wp2_with fail
  refine Calls.mono (hs0 _ (by omega) _).out ?_
  rintro _ w1 ⟨rfl, rfl⟩
  go_wp2_with fail
  refine Calls.mono (hk0 _ (by omega) _).out ?_
  rintro _ w1 ⟨rfl, rfl⟩
  go_wp2_with fail
  refine Calls.mono (hd2 _).out ?_
  rintro _ w1 ⟨rfl, rfl⟩
  go_wp2
  go_ret
  exact ⟨rfl, rfl⟩
set_option maxRecDepth 100000 in
set_option maxHeartbeats 1000000 in
theorem num_yEny (l : List UInt8) (i j1 j2 j3 : Nat) (x0 z0 x1 s0 d0 : UInt8) (b_j1 : j1 ≤ 140737488351232) (b_j2 : j2 ≤ 140737488351232) (w : World)
    (h60 : ∀ W, Hid (Calls Tryz.prog 60 #[.string (bs l), .int .i64 (i : Int)] W fun e w' => e = .returned (.int .i64 (j1 : Int)) ∧ w' = W))
    (ha0 : ∀ x : Int, x = (j1 : Int) → ∀ W, Hid (Calls Tryz.prog 40 #[.string (bs l), .int .i64 x] W fun e w' => e = .returned (.int .u8 (x0.toNat : Int)) ∧ w' = W))
    (ta : ((x0.toNat : Int) == 46) = true)
    (ha1 : ∀ x : Int, x = (j1 : Int) + 1 → ∀ W, Hid (Calls Tryz.prog 40 #[.string (bs l), .int .i64 x] W fun e w' => e = .returned (.int .u8 (x1.toNat : Int)) ∧ w' = W))
    (hd1 : ∀ W, Hid (Calls Tryz.prog 35 #[.int .u8 (x1.toNat : Int)] W fun e w' => e = .returned (.bool true) ∧ w' = W))
    (h61 : ∀ x : Int, x = (j1 : Int) + 1 → ∀ W, Hid (Calls Tryz.prog 60 #[.string (bs l), .int .i64 x] W fun e w' => e = .returned (.int .i64 (j2 : Int)) ∧ w' = W))
    (hz0 : ∀ x : Int, x = (j2 : Int) → ∀ W, Hid (Calls Tryz.prog 40 #[.string (bs l), .int .i64 x] W fun e w' => e = .returned (.int .u8 (z0.toNat : Int)) ∧ w' = W))
    (tE : ((z0.toNat : Int) == 69) = true)
    (hs0 : ∀ x : Int, x = (j2 : Int) + 1 → ∀ W, Hid (Calls Tryz.prog 40 #[.string (bs l), .int .i64 x] W fun e w' => e = .returned (.int .u8 (s0.toNat : Int)) ∧ w' = W))
    (tp : ((s0.toNat : Int) == 43) = false)
    (tm : ((s0.toNat : Int) == 45) = false)
    (hk0 : ∀ x : Int, x = (j2 : Int) + 1 → ∀ W, Hid (Calls Tryz.prog 40 #[.string (bs l), .int .i64 x] W fun e w' => e = .returned (.int .u8 (d0.toNat : Int)) ∧ w' = W))
    (hd2 : ∀ W, Hid (Calls Tryz.prog 35 #[.int .u8 (d0.toNat : Int)] W fun e w' => e = .returned (.bool true) ∧ w' = W))
    (h62 : ∀ x : Int, x = (j2 : Int) + 1 → ∀ W, Hid (Calls Tryz.prog 60 #[.string (bs l), .int .i64 x] W fun e w' => e = .returned (.int .i64 (j3 : Int)) ∧ w' = W)) :
    Calls Tryz.prog 36 #[.string (bs l), .int .i64 (i : Int)] w fun e w' => e = .returned (.int .i64 (j3 : Int)) ∧ w' = w := by
  go_enter Tryz.func36, Tryz.ntmps36
  go_wp2_with fail
  refine Calls.mono (h60 _).out ?_
  rintro _ w1 ⟨rfl, rfl⟩
  go_wp2_with fail
  refine Calls.mono (ha0 _ (by omega) _).out ?_
  rintro _ w1 ⟨rfl, rfl⟩
  go_wp2_with fail
  refine Calls.mono (ha1 _ (by omega) _).out ?_
  rintro _ w1 ⟨rfl, rfl⟩
  go_wp2_with fail
  refine Calls.mono (hd1 _).out ?_
  rintro _ w1 ⟨rfl, rfl⟩
  go_wp2_with fail
  refine Calls.mono (h61 _ (by omega) _).out ?_
  rintro _ w1 ⟨rfl, rfl⟩
  go_wp2_with fail
  refine Calls.mono (hz0 _ (by omega) _).out ?_
  rintro _ w1 ⟨rfl, rfl⟩
  go_wp2_with fail
  refine Calls.mono (hs0 _ (by omega) _).out ?_
  rintro _ w1 ⟨rfl, rfl⟩
  go_wp2_with fail
  refine Calls.mono (hs0 _ (by omega) _).out ?_
  rintro _ w1 ⟨rfl, rfl⟩
  go_wp2_with fail
  refine Calls.mono (hk0 _ (by omega) _).out ?_
  rintro _ w1 ⟨rfl, rfl⟩
  go_wp2_with fail
  refine Calls.mono (hd2 _).out ?_
  rintro _ w1 ⟨rfl, rfl⟩
  go_wp2_with fail
  refine Calls.mono (h62 _ (by omega) _).out ?_
  rintro _ w1 ⟨rfl, rfl⟩
  go_wp2
  go_ret
  exact ⟨rfl, rfl⟩
set_option maxRecDepth 100000 in
set_option maxHeartbeats 1000000 in
theorem num_yEpn (l : List UInt8) (i j1 j2 : Nat) (x0 z0 x1 s0 d0 : UInt8) (b_j1 : j1 ≤ 140737488351232) (b_j2 : j2 ≤ 140737488351232) (w : World)
    (h60 : ∀ W, Hid (Calls Tryz.prog 60 #[.string (bs l), .int .i64 (i : Int)] W fun e w' => e = .returned (.int .i64 (j1 : Int)) ∧ w' = W))
    (ha0 : ∀ x : Int, x = (j1 : Int) → ∀ W, Hid (Calls Tryz.prog 40 #[.string (bs l), .int .i64 x] W fun e w' => e = .returned (.int .u8 (x0.toNat : Int)) ∧ w' = W))
    (ta : ((x0.toNat : Int) == 46) = true)
    (ha1 : ∀ x : Int, x = (j1 : Int) + 1 → ∀ W, Hid (Calls Tryz.prog 40 #[.string (bs l), .int .i64 x] W fun e w' => e = .returned (.int .u8 (x1.toNat : Int)) ∧ w' = W))
    (hd1 : ∀ W, Hid (Calls Tryz.prog 35 #[.int .u8 (x1.toNat : Int)] W fun e w' => e = .returned (.bool true) ∧ w' = W))
    (h61 : ∀ x : Int, x = (j1 : Int) + 1 → ∀ W, Hid (Calls Tryz.prog 60 #[.string (bs l), .int .i64 x] W fun e w' => e = .returned (.int .i64 (j2 : Int)) ∧ w' = W))
    (hz0 : ∀ x : Int, x = (j2 : Int) → ∀ W, Hid (Calls Tryz.prog 40 #[.string (bs l), .int .i64 x] W fun e w' => e = .returned (.int .u8 (z0.toNat : Int)) ∧ w' = W))
    (tE : ((z0.toNat : Int) == 69) = true)
    (hs0 : ∀ x : Int, x = (j2 : Int) + 1 → ∀ W, Hid (Calls Tryz.prog 40 #[.string (bs l), .int .i64 x] W fun e w' => e = .returned (.int .u8 (s0.toNat : Int)) ∧ w' = W))
    (tp : ((s0.toNat : Int) == 43) = true)
    (hk0 : ∀ x : Int, x = (j2 : Int) + 2 → ∀ W, Hid (Calls Tryz.prog 40 #[.string (bs l), .int .i64 x] W fun e w' => e = .returned (.int .u8 (d0.toNat : Int)) ∧ w' = W))
    (hd2 : ∀ W, Hid (Calls Tryz.prog 35 #[.int .u8 (d0.toNat : Int)] W fun e w' => e = .returned (.bool false) ∧ w' = W)) :
    Calls Tryz.prog 36 #[.string (bs l), .int .i64 (i : Int)] w fun e w' => e = .returned (.int .i64 (j2 : Int)) ∧ w' = w := by
  go_enter Tryz.func36, Tryz.ntmps36
  go_wp2_with fail
  refine Calls.mono (h60 _).out ?_
  rintro _ w1 ⟨rfl, rfl⟩
  go_wp2_with fail
  refine Calls.mono (ha0 _ (by omega) _).out ?_
  rintro _ w1 ⟨rfl, rfl⟩
  go_wp2_with fail
  refine Calls.mono (ha1 _ (by omega) _).out ?_
  rintro _ w1 ⟨rfl, rfl⟩
  go_wp2_with fail
  refine Calls.mono (hd1 _).out ?_
  rintro _ w1 ⟨rfl, rfl⟩
  go_wp2_with fail
  refine Calls.mono (h61 _ (by omega) _).out ?_
  rintro _ w1 ⟨rfl, rfl⟩
  go_wp2_with fail
  refine Calls.mono (hz0 _ (by omega) _).out ?_
  rintro _ w1 ⟨rfl, rfl⟩
  go_wp2_with fail
  refine Calls.mono (hs0 _ (by omega) _).out ?_
  rintro _ w1 ⟨rfl, rfl⟩
  go_wp2_with fail
  refine Calls.mono (hk0 _ (by omega) _).out ?_
  rintro _ w1 ⟨rfl, rfl⟩
  go_wp2_with fail
  refine Calls.mono (hd2 _).out ?_
  rintro _ w1 ⟨rfl, rfl⟩
  go_wp2
  go_ret
  exact ⟨rfl, rfl⟩
set_option maxRecDepth 100000 in
set_option maxHeartbeats 1000000 in
theorem num_yEpy (l : List UInt8) (i j1 j2 j3 : Nat) (x0 z0 x1 s0 d0 : UInt8) (b_j1 : j1 ≤ 140737488351232) (b_j2 : j2 ≤ 140737488351232) (w : World)
    (h60 : ∀ W, Hid (Calls Tryz.prog 60 #[.string (bs l), .int .i64 (i : Int)] W fun e w' => e = .returned (.int .i64 (j1 : Int)) ∧ w' = W))
    (ha0 : ∀ x : Int, x = (j1 : Int) → ∀ W, Hid (Calls Tryz.prog 40 #[.string (bs l), .int .i64 x] W fun e w' => e = .returned (.int .u8 (x0.toNat : Int)) ∧ w' = W))
    (ta : ((x0.toNat : Int) == 46) = true)
    (ha1 : ∀ x : Int, x = (j1 : Int) + 1 → ∀ W, Hid (Calls Tryz.prog 40 #[.string (bs l), .int .i64 x] W fun e w' => e = .returned (.int .u8 (x1.toNat : Int)) ∧ w' = W))
    (hd1 : ∀ W, Hid (Calls Tryz.prog 35 #[.int .u8 (x1.toNat : Int)] W fun e w' => e = .returned (.bool true) ∧ w' = W))
    (h61 : ∀ x : Int, x = (j1 : Int) + 1 → ∀ W, Hid (Calls Tryz.prog 60 #[.string (bs l), .int .i64 x] W fun e w' => e = .returned (.int .i64 (j2 : Int)) ∧ w' = W))
    (hz0 : ∀ x : Int, x = (j2 : Int) → ∀ W, Hid (Calls Tryz.prog 40 #[.string (bs l), .int .i64 x] W fun e w' => e = .returned (.int .u8 (z0.toNat : Int)) ∧ w' = W))
    (tE : ((z0.toNat : Int) == 69) = true)
    (hs0 : ∀ x : Int, x = (j2 : Int) + 1 → ∀ W, Hid (Calls Tryz.prog 40 #[.string (bs l), .int .i64 x] W fun e w' => e = .returned (.int .u8 (s0.toNat : Int)) ∧ w' = W))
    (tp : ((s0.toNat : Int) == 43) = true)
    (hk0 : ∀ x : Int, x = (j2 : Int) + 2 → ∀ W, Hid (Calls Tryz.prog 40 #[.string (bs l), .int .i64 x] W fun e w' => e = .returned (.int .u8 (d0.toNat : Int)) ∧ w' = W))
    (hd2 : ∀ W, Hid (Calls Tryz.prog 35 #[.int .u8 (d0.toNat : Int)] W fun e w' => e = .returned (.bool true) ∧ w' = W))
    (h62 : ∀ x : Int, x = (j2 : Int) + 2 → ∀ W, Hid (Calls Tryz.prog 60 #[.string (bs l), .int .i64 x] W fun e w' => e = .returned (.int .i64 (j3 : Int)) ∧ w' = W)) :
    Calls Tryz.prog 36 #[.string (bs l), .int .i64 (i : Int)] w fun e w' => e = .returned (.int .i64 (j3 : Int)) ∧ w' = w := by
  go_enter Tryz.func36, Tryz.ntmps36
  go_wp2_with fail
  refine Calls.mono (h60 _).out ?_
  rintro _ w1 ⟨rfl, rfl⟩
  go_wp2_with fail
  refine Calls.mono (ha0 _ (by omega) _).out ?_
  rintro _ w1 ⟨rfl, rfl⟩
  go_wp2_with fail
  refine Calls.mono (ha1 _ (by omega) _).out ?_
  rintro _ w1 ⟨rfl, rfl⟩
  go_wp2_with fail
  refine Calls.mono (hd1 _).out ?_
  rintro _ w1 ⟨rfl, rfl⟩
  go_wp2_with fail
  refine Calls.mono (h61 _ (by omega) _).out ?_
  rintro _ w1 ⟨rfl, rfl⟩
  go_wp2_with fail
  refine Calls.mono (hz0 _ (by omega) _).out ?_
  rintro _ w1 ⟨rfl, rfl⟩
  go_wp2_with fail
  refine Calls.mono (hs0 _ (by omega) _).out ?_
  rintro _ w1 ⟨rfl, rfl⟩
  go_wp2_with fail
  refine Calls.mono (hk0 _ (by omega) _).out ?_
  rintro _ w1 ⟨rfl, rfl⟩
  go_wp2_with fail
  refine Calls.mono (hd2 _).out ?_
  rintro _ w1 ⟨rfl, rfl⟩
  go_wp2_with fail
  refine Calls.mono (h62 _ (by omega) _).out ?_
  rintro _ w1 ⟨rfl, rfl⟩
  go_wp2
  go_ret
  exact ⟨rfl, rfl⟩
set_option maxRecDepth 100000 in
set_option maxHeartbeats 1000000 in
theorem num_yEmn (l : List UInt8) (i j1 j2 : Nat) (x0 z0 x1 s0 d0 : UInt8) (b_j1 : j1 ≤ 140737488351232) (b_j2 : j2 ≤ 140737488351232) (w : World)
    (h60 : ∀ W, Hid (Calls Tryz.prog 60 #[.string (bs l), .int .i64 (i : Int)] W fun e w' => e = .returned (.int .i64 (j1 : Int)) ∧ w' = W))
    (ha0 : ∀ x : Int, x = (j1 : Int) → ∀ W, Hid (Calls Tryz.prog 40 #[.string (bs l), .int .i64 x] W fun e w' => e = .returned (.int .u8 (x0.toNat : Int)) ∧ w' = W))
    (ta : ((x0.toNat : Int) == 46) = true)
    (ha1 : ∀ x : Int, x = (j1 : Int) + 1 → ∀ W, Hid (Calls Tryz.prog 40 #[.string (bs l), .int .i64 x] W fun e w' => e = .returned (.int .u8 (x1.toNat : Int)) ∧ w' = W))
    (hd1 : ∀ W, Hid (Calls Tryz.prog 35 #[.int .u8 (x1.toNat : Int)] W fun e w' => e = .returned (.bool true) ∧ w' = W))
    (h61 : ∀ x : Int, x = (j1 : Int) + 1 → ∀ W, Hid (Calls Tryz.prog 60 #[.string (bs l), .int .i64 x] W fun e w' => e = .returned (.int .i64 (j2 : Int)) ∧ w' = W))
    (hz0 : ∀ x : Int, x = (j2 : Int) → ∀ W, Hid (Calls Tryz.prog 40 #[.string (bs l), .int .i64 x] W fun e w' => e = .returned (.int .u8 (z0.toNat : Int)) ∧ w' = W))
    (tE : ((z0.toNat : Int) == 69) = true)
    (hs0 : ∀ x : Int, x = (j2 : Int) + 1 → ∀ W, Hid (Calls Tryz.prog 40 #[.string (bs l), .int .i64 x] W fun e w' => e = .returned (.int .u8 (s0.toNat : Int)) ∧ w' = W))
    (tp : ((s0.toNat : Int) == 43) = false)
    (tm : ((s0.toNat : Int) == 45) = true)
    (hk0 : ∀ x : Int, x = (j2 : Int) + 2 → ∀ W, Hid (Calls Tryz.prog 40 #[.string (bs l), .int .i64 x] W fun e w' => e = .returned (.int .u8 (d0.toNat : Int)) ∧ w' = W))
    (hd2 : ∀ W, Hid (Calls Tryz.prog 35 #[.int .u8 (d0.toNat : Int)] W fun e w' => e = .returned (.bool false) ∧ w' = W)) :
    Calls Tryz.prog 36 #[.string (bs l), .int .i64 (i : Int)] w fun e w' => e = .returned (.int .i64 (j2 : Int)) ∧ w' = w := by
  go_enter Tryz.func36, Tryz.ntmps36
  go_wp2_with fail
  refine Calls.mono (h60 _).out ?_
  rintro _ w1 ⟨rfl, rfl⟩
  go_wp2_with fail
  refine Calls.mono (ha0 _ (by omega) _).out ?_
  rintro _ w1 ⟨rfl, rfl⟩
  go_wp2_with fail
  refine Calls.mono (ha1 _ (by omega) _).out ?_
  rintro _ w1 ⟨rfl, rfl⟩
  go_wp2_with fail
  refine Calls.mono (hd1 _).out ?_
  rintro _ w1 ⟨rfl, rfl⟩
  go_wp2_with fail
  refine Calls.mono (h61 _ (by omega) _).out ?_
  rintro _ w1 ⟨rfl, rfl⟩
  go_wp2_with fail
  refine Calls.mono (hz0 _ (by omega) _).out ?_
  rintro _ w1 ⟨rfl, rfl⟩
  go_wp2_with fail
  refine Calls.mono (hs0 _ (by omega) _).out ?_
  rintro _ w1 ⟨rfl, rfl⟩
  go_wp2_with fail
  refine Calls.mono (hs0 _ (by omega) _).out ?_
  rintro _ w1 ⟨rfl, rfl⟩
  go_wp2_with fail
  refine Calls.mono (hk0 _ (by omega) _).out ?_
  rintro _ w1 ⟨rfl, rfl⟩
  go_wp2_with fail
  refine Calls.mono (hd2 _).out ?_
  rintro _ w1 ⟨rfl, rfl⟩
  go_wp2
  go_ret
  exact ⟨rfl, rfl⟩
set_option maxRecDepth 100000 in
set_option maxHeartbeats 1000000 in
theorem num_yEmy (l : List UInt8) (i j1 j2 j3 : Nat) (x0 z0 x1 s0 d0 : UInt8) (b_j1 : j1 ≤ 140737488351232) (b_j2 : j2 ≤ 140737488351232) (w : World)
    (h60 : ∀ W, Hid (Calls Tryz.prog 60 #[.string (bs l), .int .i64 (i : Int)] W fun e w' => e = .returned (.int .i64 (j1 : Int)) ∧ w' = W))
    (ha0 : ∀ x : Int, x = (j1 : Int) → ∀ W, Hid (Calls Tryz.prog 40 #[.string (bs l), .int .i64 x] W fun e w' => e = .returned (.int .u8 (x0.toNat : Int)) ∧ w' = W))
    (ta : ((x0.toNat : Int) == 46) = true)
    (ha1 : ∀ x : Int, x = (j1 : Int) + 1 → ∀ W, Hid (Calls Tryz.prog 40 #[.string (bs l), .int .i64 x] W fun e w' => e = .returned (.int .u8 (x1.toNat : Int)) ∧ w' = W))
    (hd1 : ∀ W, Hid (Calls Tryz.prog 35 #[.int .u8 (x1.toNat : Int)] W fun e w' => e = .returned (.bool true) ∧ w' = W))
    (h61 : ∀ x : Int, x = (j1 : Int) + 1 → ∀ W, Hid (Calls Tryz.prog 60 #[.string (bs l), .int .i64 x] W fun e w' => e = .returned (.int .i64 (j2 : Int)) ∧ w' = W))
    (hz0 : ∀ x : Int, x = (j2 : Int) → ∀ W, Hid (Calls Tryz.prog 40 #[.string (bs l), .int .i64 x] W fun e w' => e = .returned (.int .u8 (z0.toNat : Int)) ∧ w' = W))
    (tE : ((z0.toNat : Int) == 69) = true)
    (hs0 : ∀ x : Int, x = (j2 : Int) + 1 → ∀ W, Hid (Calls Tryz.prog 40 #[.string (bs l), .int .i64 x] W fun e w' => e = .returned (.int .u8 (s0.toNat : Int)) ∧ w' = W))
    (tp : ((s0.toNat : Int) == 43) = false)
    (tm : ((s0.toNat : Int) == 45) = true)
    (hk0 : ∀ x : Int, x = (j2 : Int) + 2 → ∀ W, Hid (Calls Tryz.prog 40 #[.string (bs l), .int .i64 x] W fun e w' => e = .returned (.int .u8 (d0.toNat : Int)) ∧ w' = W))
    (hd2 : ∀ W, Hid (Calls Tryz.prog 35 #[.int .u8 (d0.toNat : Int)] W fun e w' => e = .returned (.bool true) ∧ w' = W))
    (h62 : ∀ x : Int, x = (j2 : Int) + 2 → ∀ W, Hid (Calls Tryz.prog 60 #[.string (bs l), .int .i64 x] W fun e w' => e = .returned (.int .i64 (j3 : Int)) ∧ w' = W)) :
    Calls Tryz.prog 36 #[.string (bs l), .int .i64 (i : Int)] w fun e w' => e = .returned (.int .i64 (j3 : Int)) ∧ w' = w := by
  go_enter Tryz.func36, Tryz.ntmps36
  go_wp2_with fail
  refine Calls.mono (h60 _).out ?_
  rintro _ w1 ⟨rfl, rfl⟩
  go_wp2_with fail
  refine Calls.mono (ha0 _ (by omega) _).out ?_
  rintro _ w1 ⟨rfl, rfl⟩
  go_wp2_with fail
  refine Calls.mono (ha1 _ (by omega) _).out ?_
  rintro _ w1 ⟨rfl, rfl⟩
  go_wp2_with fail
  refine Calls.mono (hd1 _).out ?_
  rintro _ w1 ⟨rfl, rfl⟩
  go_wp2_with fail
  refine Calls.mono (h61 _ (by omega) _).out ?_
  rintro _ w1 ⟨rfl, rfl⟩
  go_wp2_with fail
  refine Calls.mono (hz0 _ (by omega) _).out ?_
  rintro _ w1 ⟨rfl, rfl⟩
  go_wp2_with fail
  refine Calls.mono (hs0 _ (by omega) _).out ?_
  rintro _ w1 ⟨rfl, rfl⟩
  go_wp2_with fail
  refine Calls.mono (hs0 _ (by omega) _).out ?_
  rintro _ w1 ⟨rfl, rfl⟩
  go_wp2_with fail
  refine Calls.mono (hk0 _ (by omega) _).out ?_
  rintro _ w1 ⟨rfl, rfl⟩
  go_wp2_with fail
  refine Calls.mono (hd2 _).out ?_
  rintro _ w1 ⟨rfl, rfl⟩
  go_wp2_with fail
  refine Calls.mono (h62 _ (by omega) _).out ?_
  rintro _ w1 ⟨rfl, rfl⟩
  go_wp2
  go_ret
  exact ⟨rfl, rfl⟩
set_option maxRecDepth 100000 in
set_option maxHeartbeats 1000000 in
theorem num_yenn (l : List UInt8) (i j1 j2 : Nat) (x0 z0 x1 s0 d0 : UInt8) (b_j1 : j1 ≤ 140737488351232) (b_j2 : j2 ≤ 140737488351232) (w : World)
    (h60 : ∀ W, Hid (Calls Tryz.prog 60 #[.string (bs l), .int .i64 (i : Int)] W fun e w' => e = .returned (.int .i64 (j1 : Int)) ∧ w' = W))
    (ha0 : ∀ x : Int, x = (j1 : Int) → ∀ W, Hid (Calls Tryz.prog 40 #[.string (bs l), .int .i64 x] W fun e w' => e = .returned (.int .u8 (x0.toNat : Int)) ∧ w' = W))
    (ta : ((x0.toNat : Int) == 46) = true)
    (ha1 : ∀ x : Int, x = (j1 : Int) + 1 → ∀ W, Hid (Calls Tryz.prog 40 #[.string (bs l), .int .i64 x] W fun e w' => e = .returned (.int .u8 (x1.toNat : Int)) ∧ w' = W))
    (hd1 : ∀ W, Hid (Calls Tryz.prog 35 #[.int .u8 (x1.toNat : Int)] W fun e w' => e = .returned (.bool true) ∧ w' = W))
    (h61 : ∀ x : Int, x = (j1 : Int) + 1 → ∀ W, Hid (Calls Tryz.prog 60 #[.string (bs l), .int .i64 x] W fun e w' => e = .returned (.int .i64 (j2 : Int)) ∧ w' = W))
    (hz0 : ∀ x : Int, x = (j2 : Int) → ∀ W, Hid (Calls Tryz.prog 40 #[.string (bs l), .int .i64 x] W fun e w' => e = .returned (.int .u8 (z0.toNat : Int)) ∧ w' = W))
    (tE : ((z0.toNat : Int) == 69) = false)
    (te : ((z0.toNat : Int) == 101) = true)
    (hs0 : ∀ x : Int, x = (j2 : Int) + 1 → ∀ W, Hid (Calls Tryz.prog 40 #[.string (bs l), .int .i64 x] W fun e w' => e = .returned (.int .u8 (s0.toNat : Int)) ∧ w' = W))
    (tp : ((s0.toNat : Int) == 43) = false)
    (tm : ((s0.toNat : Int) == 45) = false)
    (hk0 : ∀ x : Int, x = (j2 : Int) + 1 → ∀ W, Hid (Calls Tryz.prog 40 #[.string (bs l), .int .i64 x] W fun e w' => e = .returned (.int .u8 (d0.toNat : Int)) ∧ w' = W))
    (hd2 : ∀ W, Hid (Calls Tryz.prog 35 #[.int .u8 (d0.toNat : Int)] W fun e w' => e = .returned (.bool false) ∧ w' = W)) :
    Calls Tryz.prog 36 #[.string (bs l), .int .i64 (i : Int)] w fun e w' => e = .returned (.int .i64 (j2 : Int)) ∧ w' = w := by
  go_enter Tryz.func36, Tryz.ntmps36
  go_wp2_with fail
  refine Calls.mono (h60 _).out ?_
  rintro _ w1 ⟨rfl, rfl⟩
  go_wp2_with fail
  refine Calls.mono (ha0 _ (by omega) _).out ?_
  rintro _ w1 ⟨rfl, rfl⟩
  go_wp2_with fail
  refine Calls.mono (ha1 _ (by omega) _).out ?_
  rintro _ w1 ⟨rfl, rfl⟩
  go_wp2_with fail
  refine Calls.mono (hd1 _).out ?_
  rintro _ w1 ⟨rfl, rfl⟩
  go_wp2_with fail
  refine Calls.mono (h61 _ (by omega) _).out ?_
  rintro _ w1 ⟨rfl, rfl⟩
  go_wp2_with fail
  refine Calls.mono (hz0 _ (by omega) _).out ?_
  rintro _ w1 ⟨rfl, rfl⟩
  go_wp2_with fail
  refine Calls.mono (hz0 _ (by omega) _).out ?_
  rintro _ w1 ⟨rfl, rfl⟩
  go_wp2_with fail
  refine Calls.mono (hs0 _ (by omega) _).out ?_
  rintro _ w1 ⟨rfl, rfl⟩
  go_wp2_with fail
  refine Calls.mono (hs0 _ (by omega) _).out ?_
  rintro _ w1 ⟨rfl, rfl⟩
  go_wp2_with fail
  refine Calls.mono (hk0 _ (by omega) _).out ?_
  rintro _ w1 ⟨rfl, rfl⟩
  go_wp2_with fail
  refine Calls.mono (hd2 _).out ?_
  rintro _ w1 ⟨rfl, rfl⟩
  go_wp2
  go_ret
  exact ⟨rfl, rfl⟩
set_option maxRecDepth 100000 in
set_option maxHeartbeats 1000000 in
theorem num_yeny (l : List UInt8) (i j1 j2 j3 : Nat) (x0 z0 x1 s0 d0 : UInt8) (b_j1 : j1 ≤ 140737488351232) (b_j2 : j2 ≤ 140737488351232) (w : World)
    (h60 : ∀ W, Hid (Calls Tryz.prog 60 #[.string (bs l), .int .i64 (i : Int)] W fun e w' => e = .returned (.int .i64 (j1 : Int)) ∧ w' = W))
    (ha0 : ∀ x : Int, x = (j1 : Int) → ∀ W, Hid (Calls Tryz.prog 40 #[.string (bs l), .int .i64 x] W fun e w' => e = .returned (.int .u8 (x0.toNat : Int)) ∧ w' = W))
    (ta : ((x0.toNat : Int) == 46) = true)
    (ha1 : ∀ x : Int, x = (j1 : Int) + 1 → ∀ W, Hid (Calls Tryz.prog 40 #[.string (bs l), .int .i64 x] W fun e w' => e = .returned (.int .u8 (x1.toNat : Int)) ∧ w' = W))
    (hd1 : ∀ W, Hid (Calls Tryz.prog 35 #[.int .u8 (x1.toNat : Int)] W fun e w' => e = .returned (.bool true) ∧ w' = W))
    (h61 : ∀ x : Int, x = (j1 : Int) + 1 → ∀ W, Hid (Calls Tryz.prog 60 #[.string (bs l), .int .i64 x] W fun e w' => e = .returned (.int .i64 (j2 : Int)) ∧ w' = W))
    (hz0 : ∀ x : Int, x = (j2 : Int) → ∀ W, Hid (Calls Tryz.prog 40 #[.string (bs l), .int .i64 x] W fun e w' => e = .returned (.int .u8 (z0.toNat : Int)) ∧ w' = W))
    (tE : ((z0.toNat : Int) == 69) = false)
    (te : ((z0.toNat : Int) == 101) = true)
    (hs0 : ∀ x : Int, x = (j2 : Int) + 1 → ∀ W, Hid (Calls Tryz.prog 40 #[.string (bs l), .int .i64 x] W fun e w' => e = .returned (.int .u8 (s0.toNat : Int)) ∧ w' = W))
    (tp : ((s0.toNat : Int) == 43) = false)
    (tm : ((s0.toNat : Int) == 45) = false)
    (hk0 : ∀ x : Int, x = (j2 : Int) + 1 → ∀ W, Hid (Calls Tryz.prog 40 #[.string (bs l), .int .i64 x] W fun e w' => e = .returned (.int .u8 (d0.toNat : Int)) ∧ w' = W))
    (hd2 : ∀ W, Hid (Calls Tryz.prog 35 #[.int .u8 (d0.toNat : Int)] W fun e w' => e = .returned (.bool true) ∧ w' = W))
    (h62 : ∀ x : Int, x = (j2 : Int) + 1 → ∀ W, Hid (Calls Tryz.prog 60 #[.string (bs l), .int .i64 x] W fun e w' => e = .returned (.int .i64 (j3 : Int)) ∧ w' = W)) :
    Calls Tryz.prog 36 #[.string (bs l), .int .i64 (i : Int)] w fun e w' => e = .returned (.int .i64 (j3 : Int)) ∧ w' = w := by
  go_enter Tryz.func36, Tryz.ntmps36
  go_wp2_with fail
  refine Calls.mono (h60 _).out ?_
  rintro _ w1 ⟨rfl, rfl⟩
  go_wp2_with fail
  refine Calls.mono (ha0 _ (by omega) _).out ?_
  rintro _ w1 ⟨rfl, rfl⟩
  go_wp2_with fail
  refine Calls.mono (ha1 _ (by omega) _).out ?_
  rintro _ w1 ⟨rfl, rfl⟩
  go_wp2_with fail
  refine Calls.mono (hd1 _).out ?_
  rintro _ w1 ⟨rfl, rfl⟩
  go_wp2_with fail
  refine Calls.mono (h61 _ (by omega) _).out ?_
  rintro _ w1 ⟨rfl, rfl⟩
  go_wp2_with fail
  refine Calls.mono (hz0 _ (by omega) _).out ?_
  rintro _ w1 ⟨rfl, rfl⟩
  go_wp2_with fail
  refine Calls.mono (hz0 _ (by omega) _).out ?_
  rintro _ w1 ⟨rfl, rfl⟩
  go_wp2_with fail
  refine Calls.mono (hs0 _ (by omega) _).out ?_
  rintro _ w1 ⟨rfl, rfl⟩
  go_wp2_with fail
  refine Calls.mono (hs0 _ (by omega) _).out ?_
  rintro _ w1 ⟨rfl, rfl⟩
  go_wp2_with fail
  refine Calls.mono (hk0 _ (by omega) _).out ?_
  rintro _ w1 ⟨rfl, rfl⟩
  go_wp2_with fail
  refine Calls.mono (hd2 _).out ?_
  rintro _ w1 ⟨rfl, rfl⟩
  go_wp2_with fail
  refine Calls.mono (h62 _ (by omega) _).out ?_
  rintro _ w1 ⟨rfl, rfl⟩
  go_wp2
  go_ret
  exact ⟨rfl, rfl⟩
set_option maxRecDepth 100000 in
set_option maxHeartbeats 1000000 in
theorem num_yepn (l : List UInt8) (i j1 j2 : Nat) (x0 z0 x1 s0 d0 : UInt8) (b_j1 : j1 ≤ 140737488351232) (b_j2 : j2 ≤ 140737488351232) (w : World)
    (h60 : ∀ W, Hid (Calls Tryz.prog 60 #[.string (bs l), .int .i64 (i : Int)] W fun e w' => e = .returned (.int .i64 (j1 : Int)) ∧ w' = W))
    (ha0 : ∀ x : Int, x = (j1 : Int) → ∀ W, Hid (Calls Tryz.prog 40 #[.string (bs l), .int .i64 x] W fun e w' => e = .returned (.int .u8 (x0.toNat : Int)) ∧ w' = W))
    (ta : ((x0.toNat : Int) == 46) = true)
    (ha1 : ∀ x : Int, x = (j1 : Int) + 1 → ∀ W, Hid (Calls Tryz.prog 40 #[.string (bs l), .int .i64 x] W fun e w' => e = .returned (.int .u8 (x1.toNat : Int)) ∧ w' = W))
    (hd1 : ∀ W, Hid (Calls Tryz.prog 35 #[.int .u8 (x1.toNat : Int)] W fun e w' => e = .returned (.bool true) ∧ w' = W))
    (h61 : ∀ x : Int, x = (j1 : Int) + 1 → ∀ W, Hid (Calls Tryz.prog 60 #[.string (bs l), .int .i64 x] W fun e w' => e = .returned (.int .i64 (j2 : Int)) ∧ w' = W))
    (hz0 : ∀ x : Int, x = (j2 : Int) → ∀ W, Hid (Calls Tryz.prog 40 #[.string (bs l), .int .i64 x] W fun e w' => e = .returned (.int .u8 (z0.toNat : Int)) ∧ w' = W))
    (tE : ((z0.toNat : Int) == 69) = false)
    (te : ((z0.toNat : Int) == 101) = true)
    (hs0 : ∀ x : Int, x = (j2 : Int) + 1 → ∀ W, Hid (Calls Tryz.prog 40 #[.string (bs l), .int .i64 x] W fun e w' => e = .returned (.int .u8 (s0.toNat : Int)) ∧ w' = W))
    (tp : ((s0.toNat : Int) == 43) = true)
    (hk0 : ∀ x : Int, x = (j2 : Int) + 2 → ∀ W, Hid (Calls Tryz.prog 40 #[.string (bs l), .int .i64 x] W fun e w' => e = .returned (.int .u8 (d0.toNat : Int)) ∧ w' = W))
    (hd2 : ∀ W, Hid (Calls Tryz.prog 35 #[.int .u8 (d0.toNat : Int)] W fun e w' => e = .returned (.bool false) ∧ w' = W)) :
    Calls Tryz.prog 36 #[.string (bs l), .int .i64 (i : Int)] w fun e w' => e = .returned (.int .i64 (j2 : Int)) ∧ w' = w := by
  go_enter Tryz.func36, Tryz.ntmps36
  go_wp2_with fail
  refine Calls.mono (h60 _).out ?_
  rintro _ w1 ⟨rfl, rfl⟩
  go_wp2_with fail
  refine Calls.mono (ha0 _ (by omega) _).out ?_
  rintro _ w1 ⟨rfl, rfl⟩
  go_wp2_with fail
  refine Calls.mono (ha1 _ (by omega) _).out ?_
  rintro _ w1 ⟨rfl, rfl⟩
  go_wp2_with fail
  refine Calls.mono (hd1 _).out ?_
  rintro _ w1 ⟨rfl, rfl⟩
  go_wp2_with fail
  refine Calls.mono (h61 _ (by omega) _).out ?_
  rintro _ w1 ⟨rfl, rfl⟩
  go_wp2_with fail
  refine Calls.mono (hz0 _ (by omega) _).out ?_
  rintro _ w1 ⟨rfl, rfl⟩
  go_wp2_with fail
  refine Calls.mono (hz0 _ (by omega) _).out ?_
  rintro _ w1 ⟨rfl, rfl⟩
  go_wp2_with fail
  refine Calls.mono (hs0 _ (by omega) _).out ?_
  rintro _ w1 ⟨rfl, rfl⟩
  go_wp2_with fail
  refine Calls.mono (hk0 _ (by omega) _).out ?_
  rintro _ w1 ⟨rfl, rfl⟩
  go_wp2_with fail
  refine Calls.mono (hd2 _).out ?_
  rintro _ w1 ⟨rfl, rfl⟩
  go_wp2
  go_ret
  exact ⟨rfl, rfl⟩
set_option maxRecDepth 100000 in
set_option maxHeartbeats 1000000 in
theorem num_yepy (l : List UInt8) (i j1 j2 j3 : Nat) (x0 z0 x1 s0 d0 : UInt8) (b_j1 : j1 ≤ 140737488351232) (b_j2 : j2 ≤ 140737488351232) (w : World)
    (h60 : ∀ W, Hid (Calls Tryz.prog 60 #[.string (bs l), .int .i64 (i : Int)] W fun e w' => e = .returned (.int .i64 (j1 : Int)) ∧ w' = W))
    (ha0 : ∀ x : Int, x = (j1 : Int) → ∀ W, Hid (Calls Tryz.prog 40 #[.string (bs l), .int .i64 x] W fun e w' => e = .returned (.int .u8 (x0.toNat : Int)) ∧ w' = W))
    (ta : ((x0.toNat : Int) == 46) = true)
    (ha1 : ∀ x : Int, x = (j1 : Int) + 1 → ∀ W, Hid (Calls Tryz.prog 40 #[.string (bs l), .int .i64 x] W fun e w' => e = .returned (.int .u8 (x1.toNat : Int)) ∧ w' = W))
    (hd1 : ∀ W, Hid (Calls Tryz.prog 35 #[.int .u8 (x1.toNat : Int)] W fun e w' => e = .returned (.bool true) ∧ w' = W))
    (h61 : ∀ x : Int, x = (j1 : Int) + 1 → ∀ W, Hid (Calls Tryz.prog 60 #[.string (bs l), .int .i64 x] W fun e w' => e = .returned (.int .i64 (j2 : Int)) ∧ w' = W))
    (hz0 : ∀ x : Int, x = (j2 : Int) → ∀ W, Hid (Calls Tryz.prog 40 #[.string (bs l), .int .i64 x] W fun e w' => e = .returned (.int .u8 (z0.toNat : Int)) ∧ w' = W))
    (tE : ((z0.toNat : Int) == 69) = false)
    (te : ((z0.toNat : Int) == 101) = true)
    (hs0 : ∀ x : Int, x = (j2 : Int) + 1 → ∀ W, Hid (Calls Tryz.prog 40 #[.string (bs l), .int .i64 x] W fun e w' => e = .returned (.int .u8 (s0.toNat : Int)) ∧ w' = W))
    (tp : ((s0.toNat : Int) == 43) = true)
    (hk0 : ∀ x : Int, x = (j2 : Int) + 2 → ∀ W, Hid (Calls Tryz.prog 40 #[.string (bs l), .int .i64 x] W fun e w' => e = .returned (.int .u8 (d0.toNat : Int)) ∧ w' = W))
    (hd2 : ∀ W, Hid (Calls Tryz.prog 35 #[.int .u8 (d0.toNat : Int)] W fun e w' => e = .returned (.bool true) ∧ w' = W))
    (h62 : ∀ x : Int, x = (j2 : Int) + 2 → ∀ W, Hid (Calls Tryz.prog 60 #[.string (bs l), .int .i64 x] W fun e w' => e = .returned (.int .i64 (j3 : Int)) ∧ w' = W)) :
    Calls Tryz.prog 36 #[.string (bs l), .int .i64 (i : Int)] w fun e w' => e = .returned (.int .i64 (j3 : Int)) ∧ w' = w := by
  go_enter Tryz.func36, Tryz.ntmps36
  go_wp2_with fail
  refine Calls.mono (h60 _).out ?_
  rintro _ w1 ⟨rfl, rfl⟩
  go_wp2_with fail
  refine Calls.mono (ha0 _ (by omega) _).out ?_
  rintro _ w1 ⟨rfl, rfl⟩
  go_wp2_with fail
  refine Calls.mono (ha1 _ (by omega) _).out ?_
  rintro _ w1 ⟨rfl, rfl⟩
  go_wp2_with fail
  refine Calls.mono (hd1 _).out ?_
  rintro _ w1 ⟨rfl, rfl⟩
  go_wp2_with fail
  refine Calls.mono (h61 _ (by omega) _).out ?_
  rintro _ w1 ⟨rfl, rfl⟩
  go_wp2_with fail
  refine Calls.mono (hz0 _ (by omega) _).out ?_
  rintro _ w1 ⟨rfl, rfl⟩
  go_wp2_with fail
  refine Calls.mono (hz0 _ (by omega) _).out ?_
  rintro _ w1 ⟨rfl, rfl⟩
  go_wp2_with fail
  refine Calls.mono (hs0 _ (by omega) _).out ?_
  rintro _ w1 ⟨rfl, rfl⟩
  go_wp2_with fail
  refine Calls.mono (hk0 _ (by omega) _).out ?_
  rintro _ w1 ⟨rfl, rfl⟩
  go_wp2_with fail
  refine Calls.mono (hd2 _).out ?_
  rintro _ w1 ⟨rfl, rfl⟩
  go_wp2_with fail
  refine Calls.mono (h62 _ (by omega) _).out ?_
  rintro _ w1 ⟨rfl, rfl⟩
  go_wp2
  go_ret
  exact ⟨rfl, rfl⟩
set_option maxRecDepth 100000 in
set_option maxHeartbeats 1000000 in
theorem num_yemn (l : List UInt8) (i j1 j2 : Nat) (x0 z0 x1 s0 d0 : UInt8) (b_j1 : j1 ≤ 140737488351232) (b_j2 : j2 ≤ 140737488351232) (w : World)
    (h60 : ∀ W, Hid (Calls Tryz.prog 60 #[.string (bs l), .int .i64 (i : Int)] W fun e w' => e = .returned (.int .i64 (j1 : Int)) ∧ w' = W))
    (ha0 : ∀ x : Int, x = (j1 : Int) → ∀ W, Hid (Calls Tryz.prog 40 #[.string (bs l), .int .i64 x] W fun e w' => e = .returned (.int .u8 (x0.toNat : Int)) ∧ w' = W))
    (ta : ((x0.toNat : Int) == 46) = true)
    (ha1 : ∀ x : Int, x = (j1 : Int) + 1 → ∀ W, Hid (Calls Tryz.prog 40 #[.string (bs l), .int .i64 x] W fun e w' => e = .returned (.int .u8 (x1.toNat : Int)) ∧ w' = W))
    (hd1 : ∀ W, Hid (Calls Tryz.prog 35 #[.int .u8 (x1.toNat : Int)] W fun e w' => e = .returned (.bool true) ∧ w' = W))
    (h61 : ∀ x : Int, x = (j1 : Int) + 1 → ∀ W, Hid (Calls Tryz.prog 60 #[.string (bs l), .int .i64 x] W fun e w' => e = .returned (.int .i64 (j2 : Int)) ∧ w' = W))
    (hz0 : ∀ x : Int, x = (j2 : Int) → ∀ W, Hid (Calls Tryz.prog 40 #[.string (bs l), .int .i64 x] W fun e w' => e = .returned (.int .u8 (z0.toNat : Int)) ∧ w' = W))
    (tE : ((z0.toNat : Int) == 69) = false)
    (te : ((z0.toNat : Int) == 101) = true)
    (hs0 : ∀ x : Int, x = (j2 : Int) + 1 → ∀ W, Hid (Calls Tryz.prog 40 #[.string (bs l), .int .i64 x] W fun e w' => e = .returned (.int .u8 (s0.toNat : Int)) ∧ w' = W))
    (tp : ((s0.toNat : Int) == 43) = false)
    (tm : ((s0.toNat : Int) == 45) = true)
    (hk0 : ∀ x : Int, x = (j2 : Int) + 2 → ∀ W, Hid (Calls Tryz.prog 40 #[.string (bs l), .int .i64 x] W fun e w' => e = .returned (.int .u8 (d0.toNat : Int)) ∧ w' = W))
    (hd2 : ∀ W, Hid (Calls Tryz.prog 35 #[.int .u8 (d0.toNat : Int)] W fun e w' => e = .returned (.bool false) ∧ w' = W)) :
    Calls Tryz.prog 36 #[.string (bs l), .int .i64 (i : Int)] w fun e w' => e = .returned (.int .i64 (j2 : Int)) ∧ w' = w := by
  go_enter Tryz.func36, Tryz.ntmps36
  go_wp2_with fail
  refine Calls.mono (h60 _).out ?_
  rintro _ w1 ⟨rfl, rfl⟩
  go_wp2_with fail
  refine Calls.mono (ha0 _ (by omega) _).out ?_
  rintro _ w1 ⟨rfl, rfl⟩
  go_wp2_with fail
  refine Calls.mono (ha1 _ (by omega) _).out ?_
  rintro _ w1 ⟨rfl, rfl⟩
  go_wp2_with fail
  refine Calls.mono (hd1 _).out ?_
  rintro _ w1 ⟨rfl, rfl⟩
  go_wp2_with fail
  refine Calls.mono (h61 _ (by omega) _).out ?_
  rintro _ w1 ⟨rfl, rfl⟩
  go_wp2_with fail
  refine Calls.mono (hz0 _ (by omega) _).out ?_
  rintro _ w1 ⟨rfl, rfl⟩
  go_wp2_with fail
  refine Calls.mono (hz0 _ (by omega) _).out ?_
  rintro _ w1 ⟨rfl, rfl⟩
  go_wp2_with fail
  refine Calls.mono (hs0 _ (by omega) _).out ?_
  rintro _ w1 ⟨rfl, rfl⟩
  go_wp2_with fail
  refine Calls.mono (hs0 _ (by omega) _).out ?_
  rintro _ w1 ⟨rfl, rfl⟩
  go_wp2_with fail
  refine Calls.mono (hk0 _ (by omega) _).out ?_
  rintro _ w1 ⟨rfl, rfl⟩
  go_wp2_with fail
  refine Calls.mono (hd2 _).out ?_
  rintro _ w1 ⟨rfl, rfl⟩
  go_wp2
  go_ret
  exact ⟨rfl, rfl⟩
set_option maxRecDepth 100000 in
set_option maxHeartbeats 1000000 in
theorem num_yemy (l : List UInt8) (i j1 j2 j3 : Nat) (x0 z0 x1 s0 d0 : UInt8) (b_j1 : j1 ≤ 140737488351232) (b_j2 : j2 ≤ 140737488351232) (w : World)
    (h60 : ∀ W, Hid (Calls Tryz.prog 60 #[.string (bs l), .int .i64 (i : Int)] W fun e w' => e = .returned (.int .i64 (j1 : Int)) ∧ w' = W))
    (ha0 : ∀ x : Int, x = (j1 : Int) → ∀ W, Hid (Calls Tryz.prog 40 #[.string (bs l), .int .i64 x] W fun e w' => e = .returned (.int .u8 (x0.toNat : Int)) ∧ w' = W))
    (ta : ((x0.toNat : Int) == 46) = true)
    (ha1 : ∀ x : Int, x = (j1 : Int) + 1 → ∀ W, Hid (Calls Tryz.prog 40 #[.string (bs l), .int .i64 x] W fun e w' => e = .returned (.int .u8 (x1.toNat : Int)) ∧ w' = W))
    (hd1 : ∀ W, Hid (Calls Tryz.prog 35 #[.int .u8 (x1.toNat : Int)] W fun e w' => e = .returned (.bool true) ∧ w' = W))
    (h61 : ∀ x : Int, x = (j1 : Int) + 1 → ∀ W, Hid (Calls Tryz.prog 60 #[.string (bs l), .int .i64 x] W fun e w' => e = .returned (.int .i64 (j2 : Int)) ∧ w' = W))
    (hz0 : ∀ x : Int, x = (j2 : Int) → ∀ W, Hid (Calls Tryz.prog 40 #[.string (bs l), .int .i64 x] W fun e w' => e = .returned (.int .u8 (z0.toNat : Int)) ∧ w' = W))
    (tE : ((z0.toNat : Int) == 69) = false)
    (te : ((z0.toNat : Int) == 101) = true)
    (hs0 : ∀ x : Int, x = (j2 : Int) + 1 → ∀ W, Hid (Calls Tryz.prog 40 #[.string (bs l), .int .i64 x] W fun e w' => e = .returned (.int .u8 (s0.toNat : Int)) ∧ w' = W))
    (tp : ((s0.toNat : Int) == 43) = false)
    (tm : ((s0.toNat : Int) == 45) = true)
    (hk0 : ∀ x : Int, x = (j2 : Int) + 2 → ∀ W, Hid (Calls Tryz.prog 40 #[.string (bs l), .int .i64 x] W fun e w' => e = .returned (.int .u8 (d0.toNat : Int)) ∧ w' = W))
    (hd2 : ∀ W, Hid (Calls Tryz.prog 35 #[.int .u8 (d0.toNat : Int)] W fun e w' => e = .returned (.bool true) ∧ w' = W))
    (h62 : ∀ x : Int, x = (j2 : Int) + 2 → ∀ W, Hid (Calls Tryz.prog 60 #[.string (bs l), .int .i64 x] W fun e w' => e = .returned (.int .i64 (j3 : Int)) ∧ w' = W)) :
    Calls Tryz.prog 36 #[.string (bs l), .int .i64 (i : Int)] w fun e w' => e = .returned (.int .i64 (j3 : Int)) ∧ w' = w := by
  go_enter Tryz.func36, Tryz.ntmps36
  go_wp2_with fail
  refine Calls.mono (h60 _).out ?_
  rintro _ w1 ⟨rfl, rfl⟩
  go_wp2_with fail
  refine Calls.mono (ha0 _ (by omega) _).out ?_
  rintro _ w1 ⟨rfl, rfl⟩
  go_wp2_with fail
  refine Calls.mono (ha1 _ (by omega) _).out ?_
  rintro _ w1 ⟨rfl, rfl⟩
  go_wp2_with fail
  refine Calls.mono (hd1 _).out ?_
  rintro _ w1 ⟨rfl, rfl⟩
  go_wp2_with fail
  refine Calls.mono (h61 _ (by omega) _).out ?_
  rintro _ w1 ⟨rfl, rfl⟩
  go_wp2_with fail
  refine Calls.mono (hz0 _ (by omega) _).out ?_
  rintro _ w1 ⟨rfl, rfl⟩
  go_wp2_with fail
  refine Calls.mono (hz0 _ (by omega) _).out ?_
  rintro _ w1 ⟨rfl, rfl⟩
  go_wp2_with fail
  refine Calls.mono (hs0 _ (by omega) _).out ?_
  rintro _ w1 ⟨rfl, rfl⟩
  go_wp2_with fail
  refine Calls.mono (hs0 _ (by omega) _).out ?_
  rintro _ w1 ⟨rfl, rfl⟩
  go_wp2_with fail
  refine Calls.mono (hk0 _ (by omega) _).out ?_
  rintro _ w1 ⟨rfl, rfl⟩
  go_wp2_with fail
  refine Calls.mono (hd2 _).out ?_
  rintro _ w1 ⟨rfl, rfl⟩
  go_wp2_with fail
  refine Calls.mono (h62 _ (by omega) _).out ?_
  rintro _ w1 ⟨rfl, rfl⟩
  go_wp2
  go_ret
  exact ⟨rfl, rfl⟩
theorem tb {c : UInt8} {n : Nat} (hn : n < 256) {b : Bool} (h : decide (c = UInt8.ofNat n) = b) : ((c.toNat : Int) == (n : Int)) = b := by rw [eqI c n hn, h]
theorem num_any (l : List UInt8) (i : Nat) (hl : l.length ≤ 1000000) (hi : i ≤ l.length) (w : World) : Calls Tryz.prog 36 #[.string (bs l), .int .i64 (i : Int)] w fun e w' => e = .returned (.int .i64 ((numF l i : Nat) : Int)) ∧ w' = w := by
  have h60 : ∀ W, Hid (Calls Tryz.prog 60 #[.string (bs l), .int .i64 (i : Int)] W fun e w' => e = .returned (.int .i64 ((ahE digL l i : Nat) : Int)) ∧ w' = W) := fun W => digits_any l i (by omega) hi W
  have q1 := ahE_le (cs := digL) hi
  have q2 := numF1_le q1.2
  have q3 := numF3_le q2.2
  have A40 : ∀ (k : Nat) (y : Int), y = (k : Int) → ∀ x : Int, x = y → ∀ W, Hid (Calls Tryz.prog 40 #[.string (bs l), .int .i64 x] W fun e w' => e = .returned (.int .u8 ((atB l k).toNat : Int)) ∧ w' = W) := by
    rintro k y rfl x rfl W; exact atx_any l k W
  have A35 : ∀ (c : UInt8) (b : Bool), digL.contains c = b → ∀ W, Hid (Calls Tryz.prog 35 #[.int .u8 (c.toNat : Int)] W fun e w' => e = .returned (.bool b) ∧ w' = W) := by
    rintro c b rfl W; exact dig_any c W
  have A60 : ∀ (k : Nat) (y : Int), y = (k : Int) → digL.contains (atB l k) = true → ∀ x : Int, x = y → ∀ W, Hid (Calls Tryz.prog 60 #[.string (bs l), .int .i64 x] W fun e w' => e = .returned (.int .i64 ((ahE digL l k : Nat) : Int)) ∧ w' = W) := by
    rintro k y rfl h x rfl W; exact digits_any l k (by omega) (Nat.le_of_lt (at_lt dig0 h)) W
  have F : numF l i = numF3 l (numF1 l (ahE digL l i)) := rfl
  rw [F]
  generalize hj : ahE digL l i = j1 at *
  have lt : ∀ k, digL.contains (atB l k) = true → ahE digL l k ≤ l.length := fun k h => (ahE_le (Nat.le_of_lt (at_lt dig0 h))).2
  clear F hj hi

  by_cases hA : atB l j1 = 46
  · cases hD : digL.contains (atB l (j1 + 1))
    · have e1 : numF1 l j1 = j1 := by unfold numF1; rw [if_neg (fun h => by rw [hD] at h; exact absurd h.2 (by simp))]
      rw [e1] at q2 q3 ⊢
      clear e1
      by_cases hE : atB l j1 = 69
      · by_cases hp : atB l (j1 + 1) = 43
        · cases hF : digL.contains (atB l (j1 + 2))
          · rw [show numF3 l j1 = j1 from by unfold numF3; rw [if_pos (Or.inl hE)]; rw [if_pos (Or.inl hp)]; unfold numF2; rw [if_neg (by rw [hF]; simp)]]
            exact num_mEpn l i j1 _ _ _ _ _ (by omega) w (fun W => h60 W) (A40 j1 _ rfl) (tb (n := 46) (by omega) (decide_eq_true hA)) (A40 (j1 + 1) _ (by omega)) (A35 _ _ hD) (A40 j1 _ rfl) (tb (n := 69) (by omega) (decide_eq_true hE)) (A40 (j1 + 1) _ (by omega)) (tb (n := 43) (by omega) (decide_eq_true hp)) (A40 (j1 + 2) _ (by omega)) (A35 _ _ hF)
          · rw [show numF3 l j1 = (ahE digL l (j1 + 2)) from by unfold numF3; rw [if_pos (Or.inl hE)]; rw [if_pos (Or.inl hp)]; unfold numF2; rw [if_pos hF]]
            exact num_mEpy l i j1 (ahE digL l (j1 + 2)) _ _ _ _ _ (by omega) w (fun W => h60 W) (A40 j1 _ rfl) (tb (n := 46) (by omega) (decide_eq_true hA)) (A40 (j1 + 1) _ (by omega)) (A35 _ _ hD) (A40 j1 _ rfl) (tb (n := 69) (by omega) (decide_eq_true hE)) (A40 (j1 + 1) _ (by omega)) (tb (n := 43) (by omega) (decide_eq_true hp)) (A40 (j1 + 2) _ (by omega)) (A35 _ _ hF) (A60 (j1 + 2) _ (by omega) hF)
        · by_cases hm : atB l (j1 + 1) = 45
          · cases hF : digL.contains (atB l (j1 + 2))
            · rw [show numF3 l j1 = j1 from by unfold numF3; rw [if_pos (Or.inl hE)]; rw [if_pos (Or.inr hm)]; unfold numF2; rw [if_neg (by rw [hF]; simp)]]
              exact num_mEmn l i j1 _ _ _ _ _ (by omega) w (fun W => h60 W) (A40 j1 _ rfl) (tb (n := 46) (by omega) (decide_eq_true hA)) (A40 (j1 + 1) _ (by omega)) (A35 _ _ hD) (A40 j1 _ rfl) (tb (n := 69) (by omega) (decide_eq_true hE)) (A40 (j1 + 1) _ (by omega)) (tb (n := 43) (by omega) (decide_eq_false hp)) (tb (n := 45) (by omega) (decide_eq_true hm)) (A40 (j1 + 2) _ (by omega)) (A35 _ _ hF)
            · rw [show numF3 l j1 = (ahE digL l (j1 + 2)) from by unfold numF3; rw [if_pos (Or.inl hE)]; rw [if_pos (Or.inr hm)]; unfold numF2; rw [if_pos hF]]
              exact num_mEmy l i j1 (ahE digL l (j1 + 2)) _ _ _ _ _ (by omega) w (fun W => h60 W) (A40 j1 _ rfl) (tb (n := 46) (by omega) (decide_eq_true hA)) (A40 (j1 + 1) _ (by omega)) (A35 _ _ hD) (A40 j1 _ rfl) (tb (n := 69) (by omega) (decide_eq_true hE)) (A40 (j1 + 1) _ (by omega)) (tb (n := 43) (by omega) (decide_eq_false hp)) (tb (n := 45) (by omega) (decide_eq_true hm)) (A40 (j1 + 2) _ (by omega)) (A35 _ _ hF) (A60 (j1 + 2) _ (by omega) hF)
          · cases hF : digL.contains (atB l (j1 + 1))
            · rw [show numF3 l j1 = j1 from by unfold numF3; rw [if_pos (Or.inl hE)]; rw [if_neg (fun h => h.elim hp hm)]; unfold numF2; rw [if_neg (by rw [hF]; simp)]]
              exact num_mEnn l i j1 _ _ _ _ _ (by omega) w (fun W => h60 W) (A40 j1 _ rfl) (tb (n := 46) (by omega) (decide_eq_true hA)) (A40 (j1 + 1) _ (by omega)) (A35 _ _ hD) (A40 j1 _ rfl) (tb (n := 69) (by omega) (decide_eq_true hE)) (A40 (j1 + 1) _ (by omega)) (tb (n := 43) (by omega) (decide_eq_false hp)) (tb (n := 45) (by omega) (decide_eq_false hm)) (A40 (j1 + 1) _ (by omega)) (A35 _ _ hF)
            · rw [show numF3 l j1 = (ahE digL l (j1 + 1)) from by unfold numF3; rw [if_pos (Or.inl hE)]; rw [if_neg (fun h => h.elim hp hm)]; unfold numF2; rw [if_pos hF]]
              exact num_mEny l i j1 (ahE digL l (j1 + 1)) _ _ _ _ _ (by omega) w (fun W => h60 W) (A40 j1 _ rfl) (tb (n := 46) (by omega) (decide_eq_true hA)) (A40 (j1 + 1) _ (by omega)) (A35 _ _ hD) (A40 j1 _ rfl) (tb (n := 69) (by omega) (decide_eq_true hE)) (A40 (j1 + 1) _ (by omega)) (tb (n := 43) (by omega) (decide_eq_false hp)) (tb (n := 45) (by omega) (decide_eq_false hm)) (A40 (j1 + 1) _ (by omega)) (A35 _ _ hF) (A60 (j1 + 1) _ (by omega) hF)
      · by_cases he : atB l j1 = 101
        · by_cases hp : atB l (j1 + 1) = 43
          · cases hF : digL.contains (atB l (j1 + 2))
            · rw [show numF3 l j1 = j1 from by unfold numF3; rw [if_pos (Or.inr he)]; rw [if_pos (Or.inl hp)]; unfold numF2; rw [if_neg (by rw [hF]; simp)]]
              exact num_mepn l i j1 _ _ _ _ _ (by omega) w (fun W => h60 W) (A40 j1 _ rfl) (tb (n := 46) (by omega) (decide_eq_true hA)) (A40 (j1 + 1) _ (by omega)) (A35 _ _ hD) (A40 j1 _ rfl) (tb (n := 69) (by omega) (decide_eq_false hE)) (tb (n := 101) (by omega) (decide_eq_true he)) (A40 (j1 + 1) _ (by omega)) (tb (n := 43) (by omega) (decide_eq_true hp)) (A40 (j1 + 2) _ (by omega)) (A35 _ _ hF)
            · rw [show numF3 l j1 = (ahE digL l (j1 + 2)) from by unfold numF3; rw [if_pos (Or.inr he)]; rw [if_pos (Or.inl hp)]; unfold numF2; rw [if_pos hF]]
              exact num_mepy l i j1 (ahE digL l (j1 + 2)) _ _ _ _ _ (by omega) w (fun W => h60 W) (A40 j1 _ rfl) (tb (n := 46) (by omega) (decide_eq_true hA)) (A40 (j1 + 1) _ (by omega)) (A35 _ _ hD) (A40 j1 _ rfl) (tb (n := 69) (by omega) (decide_eq_false hE)) (tb (n := 101) (by omega) (decide_eq_true he)) (A40 (j1 + 1) _ (by omega)) (tb (n := 43) (by omega) (decide_eq_true hp)) (A40 (j1 + 2) _ (by omega)) (A35 _ _ hF) (A60 (j1 + 2) _ (by omega) hF)
          · by_cases hm : atB l (j1 + 1) = 45
            · cases hF : digL.contains (atB l (j1 + 2))
              · rw [show numF3 l j1 = j1 from by unfold numF3; rw [if_pos (Or.inr he)]; rw [if_pos (Or.inr hm)]; unfold numF2; rw [if_neg (by rw [hF]; simp)]]
                exact num_memn l i j1 _ _ _ _ _ (by omega) w (fun W => h60 W) (A40 j1 _ rfl) (tb (n := 46) (by omega) (decide_eq_true hA)) (A40 (j1 + 1) _ (by omega)) (A35 _ _ hD) (A40 j1 _ rfl) (tb (n := 69) (by omega) (decide_eq_false hE)) (tb (n := 101) (by omega) (decide_eq_true he)) (A40 (j1 + 1) _ (by omega)) (tb (n := 43) (by omega) (decide_eq_false hp)) (tb (n := 45) (by omega) (decide_eq_true hm)) (A40 (j1 + 2) _ (by omega)) (A35 _ _ hF)
              · rw [show numF3 l j1 = (ahE digL l (j1 + 2)) from by unfold numF3; rw [if_pos (Or.inr he)]; rw [if_pos (Or.inr hm)]; unfold numF2; rw [if_pos hF]]
                exact num_memy l i j1 (ahE digL l (j1 + 2)) _ _ _ _ _ (by omega) w (fun W => h60 W) (A40 j1 _ rfl) (tb (n := 46) (by omega) (decide_eq_true hA)) (A40 (j1 + 1) _ (by omega)) (A35 _ _ hD) (A40 j1 _ rfl) (tb (n := 69) (by omega) (decide_eq_false hE)) (tb (n := 101) (by omega) (decide_eq_true he)) (A40 (j1 + 1) _ (by omega)) (tb (n := 43) (by omega) (decide_eq_false hp)) (tb (n := 45) (by omega) (decide_eq_true hm)) (A40 (j1 + 2) _ (by omega)) (A35 _ _ hF) (A60 (j1 + 2) _ (by omega) hF)
            · cases hF : digL.contains (atB l (j1 + 1))
              · rw [show numF3 l j1 = j1 from by unfold numF3; rw [if_pos (Or.inr he)]; rw [if_neg (fun h => h.elim hp hm)]; unfold numF2; rw [if_neg (by rw [hF]; simp)]]
                exact num_menn l i j1 _ _ _ _ _ (by omega) w (fun W => h60 W) (A40 j1 _ rfl) (tb (n := 46) (by omega) (decide_eq_true hA)) (A40 (j1 + 1) _ (by omega)) (A35 _ _ hD) (A40 j1 _ rfl) (tb (n := 69) (by omega) (decide_eq_false hE)) (tb (n := 101) (by omega) (decide_eq_true he)) (A40 (j1 + 1) _ (by omega)) (tb (n := 43) (by omega) (decide_eq_false hp)) (tb (n := 45) (by omega) (decide_eq_false hm)) (A40 (j1 + 1) _ (by omega)) (A35 _ _ hF)
              · rw [show numF3 l j1 = (ahE digL l (j1 + 1)) from by unfold numF3; rw [if_pos (Or.inr he)]; rw [if_neg (fun h => h.elim hp hm)]; unfold numF2; rw [if_pos hF]]
                exact num_meny l i j1 (ahE digL l (j1 + 1)) _ _ _ _ _ (by omega) w (fun W => h60 W) (A40 j1 _ rfl) (tb (n := 46) (by omega) (decide_eq_true hA)) (A40 (j1 + 1) _ (by omega)) (A35 _ _ hD) (A40 j1 _ rfl) (tb (n := 69) (by omega) (decide_eq_false hE)) (tb (n := 101) (by omega) (decide_eq_true he)) (A40 (j1 + 1) _ (by omega)) (tb (n := 43) (by omega) (decide_eq_false hp)) (tb (n := 45) (by omega) (decide_eq_false hm)) (A40 (j1 + 1) _ (by omega)) (A35 _ _ hF) (A60 (j1 + 1) _ (by omega) hF)
        · rw [show numF3 l j1 = j1 from by unfold numF3; rw [if_neg (fun h => h.elim hE he)]]
          exact num_mnxx l i j1 _ _ _ (by omega) w (fun W => h60 W) (A40 j1 _ rfl) (tb (n := 46) (by omega) (decide_eq_true hA)) (A40 (j1 + 1) _ (by omega)) (A35 _ _ hD) (A40 j1 _ rfl) (tb (n := 69) (by omega) (decide_eq_false hE)) (tb (n := 101) (by omega) (decide_eq_false he))
    · have e1 : numF1 l j1 = ahE digL l (j1 + 1) := by unfold numF1; rw [if_pos ⟨hA, hD⟩]
      rw [e1] at q2 q3 ⊢
      clear e1
      generalize hj2 : ahE digL l (j1 + 1) = j2 at *
      by_cases hE : atB l j2 = 69
      · by_cases hp : atB l (j2 + 1) = 43
        · cases hF : digL.contains (atB l (j2 + 2))
          · rw [show numF3 l j2 = j2 from by unfold numF3; rw [if_pos (Or.inl hE)]; rw [if_pos (Or.inl hp)]; unfold numF2; rw [if_neg (by rw [hF]; simp)]]
            exact num_yEpn l i j1 j2 _ _ _ _ _ (by omega) (by omega) w (fun W => h60 W) (A40 j1 _ rfl) (tb (n := 46) (by omega) (decide_eq_true hA)) (A40 (j1 + 1) _ (by omega)) (A35 _ _ hD) (by have := A60 (j1 + 1) ((j1 : Int) + 1) (by omega) hD; rw [hj2] at this; exact this) (A40 j2 _ rfl) (tb (n := 69) (by omega) (decide_eq_true hE)) (A40 (j2 + 1) _ (by omega)) (tb (n := 43) (by omega) (decide_eq_true hp)) (A40 (j2 + 2) _ (by omega)) (A35 _ _ hF)
          · rw [show numF3 l j2 = (ahE digL l (j2 + 2)) from by unfold numF3; rw [if_pos (Or.inl hE)]; rw [if_pos (Or.inl hp)]; unfold numF2; rw [if_pos hF]]
            exact num_yEpy l i j1 j2 (ahE digL l (j2 + 2)) _ _ _ _ _ (by omega) (by omega) w (fun W => h60 W) (A40 j1 _ rfl) (tb (n := 46) (by omega) (decide_eq_true hA)) (A40 (j1 + 1) _ (by omega)) (A35 _ _ hD) (by have := A60 (j1 + 1) ((j1 : Int) + 1) (by omega) hD; rw [hj2] at this; exact this) (A40 j2 _ rfl) (tb (n := 69) (by omega) (decide_eq_true hE)) (A40 (j2 + 1) _ (by omega)) (tb (n := 43) (by omega) (decide_eq_true hp)) (A40 (j2 + 2) _ (by omega)) (A35 _ _ hF) (A60 (j2 + 2) _ (by omega) hF)
        · by_cases hm : atB l (j2 + 1) = 45
          · cases hF : digL.contains (atB l (j2 + 2))
            · rw [show numF3 l j2 = j2 from by unfold numF3; rw [if_pos (Or.inl hE)]; rw [if_pos (Or.inr hm)]; unfold numF2; rw [if_neg (by rw [hF]; simp)]]
              exact num_yEmn l i j1 j2 _ _ _ _ _ (by omega) (by omega) w (fun W => h60 W) (A40 j1 _ rfl) (tb (n := 46) (by omega) (decide_eq_true hA)) (A40 (j1 + 1) _ (by omega)) (A35 _ _ hD) (by have := A60 (j1 + 1) ((j1 : Int) + 1) (by omega) hD; rw [hj2] at this; exact this) (A40 j2 _ rfl) (tb (n := 69) (by omega) (decide_eq_true hE)) (A40 (j2 + 1) _ (by omega)) (tb (n := 43) (by omega) (decide_eq_false hp)) (tb (n := 45) (by omega) (decide_eq_true hm)) (A40 (j2 + 2) _ (by omega)) (A35 _ _ hF)
            · rw [show numF3 l j2 = (ahE digL l (j2 + 2)) from by unfold numF3; rw [if_pos (Or.inl hE)]; rw [if_pos (Or.inr hm)]; unfold numF2; rw [if_pos hF]]
              exact num_yEmy l i j1 j2 (ahE digL l (j2 + 2)) _ _ _ _ _ (by omega) (by omega) w (fun W => h60 W) (A40 j1 _ rfl) (tb (n := 46) (by omega) (decide_eq_true hA)) (A40 (j1 + 1) _ (by omega)) (A35 _ _ hD) (by have := A60 (j1 + 1) ((j1 : Int) + 1) (by omega) hD; rw [hj2] at this; exact this) (A40 j2 _ rfl) (tb (n := 69) (by omega) (decide_eq_true hE)) (A40 (j2 + 1) _ (by omega)) (tb (n := 43) (by omega) (decide_eq_false hp)) (tb (n := 45) (by omega) (decide_eq_true hm)) (A40 (j2 + 2) _ (by omega)) (A35 _ _ hF) (A60 (j2 + 2) _ (by omega) hF)
          · cases hF : digL.contains (atB l (j2 + 1))
            · rw [show numF3 l j2 = j2 from by unfold numF3; rw [if_pos (Or.inl hE)]; rw [if_neg (fun h => h.elim hp hm)]; unfold numF2; rw [if_neg (by rw [hF]; simp)]]
              exact num_yEnn l i j1 j2 _ _ _ _ _ (by omega) (by omega) w (fun W => h60 W) (A40 j1 _ rfl) (tb (n := 46) (by omega) (decide_eq_true hA)) (A40 (j1 + 1) _ (by omega)) (A35 _ _ hD) (by have := A60 (j1 + 1) ((j1 : Int) + 1) (by omega) hD; rw [hj2] at this; exact this) (A40 j2 _ rfl) (tb (n := 69) (by omega) (decide_eq_true hE)) (A40 (j2 + 1) _ (by omega)) (tb (n := 43) (by omega) (decide_eq_false hp)) (tb (n := 45) (by omega) (decide_eq_false hm)) (A40 (j2 + 1) _ (by omega)) (A35 _ _ hF)
            · rw [show numF3 l j2 = (ahE digL l (j2 + 1)) from by unfold numF3; rw [if_pos (Or.inl hE)]; rw [if_neg (fun h => h.elim hp hm)]; unfold numF2; rw [if_pos hF]]
              exact num_yEny l i j1 j2 (ahE digL l (j2 + 1)) _ _ _ _ _ (by omega) (by omega) w (fun W => h60 W) (A40 j1 _ rfl) (tb (n := 46) (by omega) (decide_eq_true hA)) (A40 (j1 + 1) _ (by omega)) (A35 _ _ hD) (by have := A60 (j1 + 1) ((j1 : Int) + 1) (by omega) hD; rw [hj2] at this; exact this) (A40 j2 _ rfl) (tb (n := 69) (by omega) (decide_eq_true hE)) (A40 (j2 + 1) _ (by omega)) (tb (n := 43) (by omega) (decide_eq_false hp)) (tb (n := 45) (by omega) (decide_eq_false hm)) (A40 (j2 + 1) _ (by omega)) (A35 _ _ hF) (A60 (j2 + 1) _ (by omega) hF)
      · by_cases he : atB l j2 = 101
        · by_cases hp : atB l (j2 + 1) = 43
          · cases hF : digL.contains (atB l (j2 + 2))
            · rw [show numF3 l j2 = j2 from by unfold numF3; rw [if_pos (Or.inr he)]; rw [if_pos (Or.inl hp)]; unfold numF2; rw [if_neg (by rw [hF]; simp)]]
              exact num_yepn l i j1 j2 _ _ _ _ _ (by omega) (by omega) w (fun W => h60 W) (A40 j1 _ rfl) (tb (n := 46) (by omega) (decide_eq_true hA)) (A40 (j1 + 1) _ (by omega)) (A35 _ _ hD) (by have := A60 (j1 + 1) ((j1 : Int) + 1) (by omega) hD; rw [hj2] at this; exact this) (A40 j2 _ rfl) (tb (n := 69) (by omega) (decide_eq_false hE)) (tb (n := 101) (by omega) (decide_eq_true he)) (A40 (j2 + 1) _ (by omega)) (tb (n := 43) (by omega) (decide_eq_true hp)) (A40 (j2 + 2) _ (by omega)) (A35 _ _ hF)
            · rw [show numF3 l j2 = (ahE digL l (j2 + 2)) from by unfold numF3; rw [if_pos (Or.inr he)]; rw [if_pos (Or.inl hp)]; unfold numF2; rw [if_pos hF]]
              exact num_yepy l i j1 j2 (ahE digL l (j2 + 2)) _ _ _ _ _ (by omega) (by omega) w (fun W => h60 W) (A40 j1 _ rfl) (tb (n := 46) (by omega) (decide_eq_true hA)) (A40 (j1 + 1) _ (by omega)) (A35 _ _ hD) (by have := A60 (j1 + 1) ((j1 : Int) + 1) (by omega) hD; rw [hj2] at this; exact this) (A40 j2 _ rfl) (tb (n := 69) (by omega) (decide_eq_false hE)) (tb (n := 101) (by omega) (decide_eq_true he)) (A40 (j2 + 1) _ (by omega)) (tb (n := 43) (by omega) (decide_eq_true hp)) (A40 (j2 + 2) _ (by omega)) (A35 _ _ hF) (A60 (j2 + 2) _ (by omega) hF)
          · by_cases hm : atB l (j2 + 1) = 45
            · cases hF : digL.contains (atB l (j2 + 2))
              · rw [show numF3 l j2 = j2 from by unfold numF3; rw [if_pos (Or.inr he)]; rw [if_pos (Or.inr hm)]; unfold numF2; rw [if_neg (by rw [hF]; simp)]]
                exact num_yemn l i j1 j2 _ _ _ _ _ (by omega) (by omega) w (fun W => h60 W) (A40 j1 _ rfl) (tb (n := 46) (by omega) (decide_eq_true hA)) (A40 (j1 + 1) _ (by omega)) (A35 _ _ hD) (by have := A60 (j1 + 1) ((j1 : Int) + 1) (by omega) hD; rw [hj2] at this; exact this) (A40 j2 _ rfl) (tb (n := 69) (by omega) (decide_eq_false hE)) (tb (n := 101) (by omega) (decide_eq_true he)) (A40 (j2 + 1) _ (by omega)) (tb (n := 43) (by omega) (decide_eq_false hp)) (tb (n := 45) (by omega) (decide_eq_true hm)) (A40 (j2 + 2) _ (by omega)) (A35 _ _ hF)
              · rw [show numF3 l j2 = (ahE digL l (j2 + 2)) from by unfold numF3; rw [if_pos (Or.inr he)]; rw [if_pos (Or.inr hm)]; unfold numF2; rw [if_pos hF]]
                exact num_yemy l i j1 j2 (ahE digL l (j2 + 2)) _ _ _ _ _ (by omega) (by omega) w (fun W => h60 W) (A40 j1 _ rfl) (tb (n := 46) (by omega) (decide_eq_true hA)) (A40 (j1 + 1) _ (by omega)) (A35 _ _ hD) (by have := A60 (j1 + 1) ((j1 : Int) + 1) (by omega) hD; rw [hj2] at this; exact this) (A40 j2 _ rfl) (tb (n := 69) (by omega) (decide_eq_false hE)) (tb (n := 101) (by omega) (decide_eq_true he)) (A40 (j2 + 1) _ (by omega)) (tb (n := 43) (by omega) (decide_eq_false hp)) (tb (n := 45) (by omega) (decide_eq_true hm)) (A40 (j2 + 2) _ (by omega)) (A35 _ _ hF) (A60 (j2 + 2) _ (by omega) hF)
            · cases hF : digL.contains (atB l (j2 + 1))
              · rw [show numF3 l j2 = j2 from by unfold numF3; rw [if_pos (Or.inr he)]; rw [if_neg (fun h => h.elim hp hm)]; unfold numF2; rw [if_neg (by rw [hF]; simp)]]
                exact num_yenn l i j1 j2 _ _ _ _ _ (by omega) (by omega) w (fun W => h60 W) (A40 j1 _ rfl) (tb (n := 46) (by omega) (decide_eq_true hA)) (A40 (j1 + 1) _ (by omega)) (A35 _ _ hD) (by have := A60 (j1 + 1) ((j1 : Int) + 1) (by omega) hD; rw [hj2] at this; exact this) (A40 j2 _ rfl) (tb (n := 69) (by omega) (decide_eq_false hE)) (tb (n := 101) (by omega) (decide_eq_true he)) (A40 (j2 + 1) _ (by omega)) (tb (n := 43) (by omega) (decide_eq_false hp)) (tb (n := 45) (by omega) (decide_eq_false hm)) (A40 (j2 + 1) _ (by omega)) (A35 _ _ hF)
              · rw [show numF3 l j2 = (ahE digL l (j2 + 1)) from by unfold numF3; rw [if_pos (Or.inr he)]; rw [if_neg (fun h => h.elim hp hm)]; unfold numF2; rw [if_pos hF]]
                exact num_yeny l i j1 j2 (ahE digL l (j2 + 1)) _ _ _ _ _ (by omega) (by omega) w (fun W => h60 W) (A40 j1 _ rfl) (tb (n := 46) (by omega) (decide_eq_true hA)) (A40 (j1 + 1) _ (by omega)) (A35 _ _ hD) (by have := A60 (j1 + 1) ((j1 : Int) + 1) (by omega) hD; rw [hj2] at this; exact this) (A40 j2 _ rfl) (tb (n := 69) (by omega) (decide_eq_false hE)) (tb (n := 101) (by omega) (decide_eq_true he)) (A40 (j2 + 1) _ (by omega)) (tb (n := 43) (by omega) (decide_eq_false hp)) (tb (n := 45) (by omega) (decide_eq_false hm)) (A40 (j2 + 1) _ (by omega)) (A35 _ _ hF) (A60 (j2 + 1) _ (by omega) hF)
        · rw [show numF3 l j2 = j2 from by unfold numF3; rw [if_neg (fun h => h.elim hE he)]]
          exact num_ynxx l i j1 j2 _ _ _ (by omega) w (fun W => h60 W) (A40 j1 _ rfl) (tb (n := 46) (by omega) (decide_eq_true hA)) (A40 (j1 + 1) _ (by omega)) (A35 _ _ hD) (by have := A60 (j1 + 1) ((j1 : Int) + 1) (by omega) hD; rw [hj2] at this; exact this) (A40 j2 _ rfl) (tb (n := 69) (by omega) (decide_eq_false hE)) (tb (n := 101) (by omega) (decide_eq_false he))
  · have e1 : numF1 l j1 = j1 := by unfold numF1; rw [if_neg (fun h => hA h.1)]
    rw [e1] at q2 q3 ⊢
    clear e1
    by_cases hE : atB l j1 = 69
    · by_cases hp : atB l (j1 + 1) = 43
      · cases hF : digL.contains (atB l (j1 + 2))
        · rw [show numF3 l j1 = j1 from by unfold numF3; rw [if_pos (Or.inl hE)]; rw [if_pos (Or.inl hp)]; unfold numF2; rw [if_neg (by rw [hF]; simp)]]
          exact num_nEpn l i j1 _ _ _ _ (by omega) w (fun W => h60 W) (A40 j1 _ rfl) (tb (n := 46) (by omega) (decide_eq_false hA)) (A40 j1 _ rfl) (tb (n := 69) (by omega) (decide_eq_true hE)) (A40 (j1 + 1) _ (by omega)) (tb (n := 43) (by omega) (decide_eq_true hp)) (A40 (j1 + 2) _ (by omega)) (A35 _ _ hF)
        · rw [show numF3 l j1 = (ahE digL l (j1 + 2)) from by unfold numF3; rw [if_pos (Or.inl hE)]; rw [if_pos (Or.inl hp)]; unfold numF2; rw [if_pos hF]]
          exact num_nEpy l i j1 (ahE digL l (j1 + 2)) _ _ _ _ (by omega) w (fun W => h60 W) (A40 j1 _ rfl) (tb (n := 46) (by omega) (decide_eq_false hA)) (A40 j1 _ rfl) (tb (n := 69) (by omega) (decide_eq_true hE)) (A40 (j1 + 1) _ (by omega)) (tb (n := 43) (by omega) (decide_eq_true hp)) (A40 (j1 + 2) _ (by omega)) (A35 _ _ hF) (A60 (j1 + 2) _ (by omega) hF)
      · by_cases hm : atB l (j1 + 1) = 45
        · cases hF : digL.contains (atB l (j1 + 2))
          · rw [show numF3 l j1 = j1 from by unfold numF3; rw [if_pos (Or.inl hE)]; rw [if_pos (Or.inr hm)]; unfold numF2; rw [if_neg (by rw [hF]; simp)]]
            exact num_nEmn l i j1 _ _ _ _ (by omega) w (fun W => h60 W) (A40 j1 _ rfl) (tb (n := 46) (by omega) (decide_eq_false hA)) (A40 j1 _ rfl) (tb (n := 69) (by omega) (decide_eq_true hE)) (A40 (j1 + 1) _ (by omega)) (tb (n := 43) (by omega) (decide_eq_false hp)) (tb (n := 45) (by omega) (decide_eq_true hm)) (A40 (j1 + 2) _ (by omega)) (A35 _ _ hF)
          · rw [show numF3 l j1 = (ahE digL l (j1 + 2)) from by unfold numF3; rw [if_pos (Or.inl hE)]; rw [if_pos (Or.inr hm)]; unfold numF2; rw [if_pos hF]]
            exact num_nEmy l i j1 (ahE digL l (j1 + 2)) _ _ _ _ (by omega) w (fun W => h60 W) (A40 j1 _ rfl) (tb (n := 46) (by omega) (decide_eq_false hA)) (A40 j1 _ rfl) (tb (n := 69) (by omega) (decide_eq_true hE)) (A40 (j1 + 1) _ (by omega)) (tb (n := 43) (by omega) (decide_eq_false hp)) (tb (n := 45) (by omega) (decide_eq_true hm)) (A40 (j1 + 2) _ (by omega)) (A35 _ _ hF) (A60 (j1 + 2) _ (by omega) hF)
        · cases hF : digL.contains (atB l (j1 + 1))
          · rw [show numF3 l j1 = j1 from by unfold numF3; rw [if_pos (Or.inl hE)]; rw [if_neg (fun h => h.elim hp hm)]; unfold numF2; rw [if_neg (by rw [hF]; simp)]]
            exact num_nEnn l i j1 _ _ _ _ (by omega) w (fun W => h60 W) (A40 j1 _ rfl) (tb (n := 46) (by omega) (decide_eq_false hA)) (A40 j1 _ rfl) (tb (n := 69) (by omega) (decide_eq_true hE)) (A40 (j1 + 1) _ (by omega)) (tb (n := 43) (by omega) (decide_eq_false hp)) (tb (n := 45) (by omega) (decide_eq_false hm)) (A40 (j1 + 1) _ (by omega)) (A35 _ _ hF)
          · rw [show numF3 l j1 = (ahE digL l (j1 + 1)) from by unfold numF3; rw [if_pos (Or.inl hE)]; rw [if_neg (fun h => h.elim hp hm)]; unfold numF2; rw [if_pos hF]]
            exact num_nEny l i j1 (ahE digL l (j1 + 1)) _ _ _ _ (by omega) w (fun W => h60 W) (A40 j1 _ rfl) (tb (n := 46) (by omega) (decide_eq_false hA)) (A40 j1 _ rfl) (tb (n := 69) (by omega) (decide_eq_true hE)) (A40 (j1 + 1) _ (by omega)) (tb (n := 43) (by omega) (decide_eq_false hp)) (tb (n := 45) (by omega) (decide_eq_false hm)) (A40 (j1 + 1) _ (by omega)) (A35 _ _ hF) (A60 (j1 + 1) _ (by omega) hF)
    · by_cases he : atB l j1 = 101
      · by_cases hp : atB l (j1 + 1) = 43
        · cases hF : digL.contains (atB l (j1 + 2))
          · rw [show numF3 l j1 = j1 from by unfold numF3; rw [if_pos (Or.inr he)]; rw [if_pos (Or.inl hp)]; unfold numF2; rw [if_neg (by rw [hF]; simp)]]
            exact num_nepn l i j1 _ _ _ _ (by omega) w (fun W => h60 W) (A40 j1 _ rfl) (tb (n := 46) (by omega) (decide_eq_false hA)) (A40 j1 _ rfl) (tb (n := 69) (by omega) (decide_eq_false hE)) (tb (n := 101) (by omega) (decide_eq_true he)) (A40 (j1 + 1) _ (by omega)) (tb (n := 43) (by omega) (decide_eq_true hp)) (A40 (j1 + 2) _ (by omega)) (A35 _ _ hF)
          · rw [show numF3 l j1 = (ahE digL l (j1 + 2)) from by unfold numF3; rw [if_pos (Or.inr he)]; rw [if_pos (Or.inl hp)]; unfold numF2; rw [if_pos hF]]
            exact num_nepy l i j1 (ahE digL l (j1 + 2)) _ _ _ _ (by omega) w (fun W => h60 W) (A40 j1 _ rfl) (tb (n := 46) (by omega) (decide_eq_false hA)) (A40 j1 _ rfl) (tb (n := 69) (by omega) (decide_eq_false hE)) (tb (n := 101) (by omega) (decide_eq_true he)) (A40 (j1 + 1) _ (by omega)) (tb (n := 43) (by omega) (decide_eq_true hp)) (A40 (j1 + 2) _ (by omega)) (A35 _ _ hF) (A60 (j1 + 2) _ (by omega) hF)
        · by_cases hm : atB l (j1 + 1) = 45
          · cases hF : digL.contains (atB l (j1 + 2))
            · rw [show numF3 l j1 = j1 from by unfold numF3; rw [if_pos (Or.inr he)]; rw [if_pos (Or.inr hm)]; unfold numF2; rw [if_neg (by rw [hF]; simp)]]
              exact num_nemn l i j1 _ _ _ _ (by omega) w (fun W => h60 W) (A40 j1 _ rfl) (tb (n := 46) (by omega) (decide_eq_false hA)) (A40 j1 _ rfl) (tb (n := 69) (by omega) (decide_eq_false hE)) (tb (n := 101) (by omega) (decide_eq_true he)) (A40 (j1 + 1) _ (by omega)) (tb (n := 43) (by omega) (decide_eq_false hp)) (tb (n := 45) (by omega) (decide_eq_true hm)) (A40 (j1 + 2) _ (by omega)) (A35 _ _ hF)
            · rw [show numF3 l j1 = (ahE digL l (j1 + 2)) from by unfold numF3; rw [if_pos (Or.inr he)]; rw [if_pos (Or.inr hm)]; unfold numF2; rw [if_pos hF]]
              exact num_nemy l i j1 (ahE digL l (j1 + 2)) _ _ _ _ (by omega) w (fun W => h60 W) (A40 j1 _ rfl) (tb (n := 46) (by omega) (decide_eq_false hA)) (A40 j1 _ rfl) (tb (n := 69) (by omega) (decide_eq_false hE)) (tb (n := 101) (by omega) (decide_eq_true he)) (A40 (j1 + 1) _ (by omega)) (tb (n := 43) (by omega) (decide_eq_false hp)) (tb (n := 45) (by omega) (decide_eq_true hm)) (A40 (j1 + 2) _ (by omega)) (A35 _ _ hF) (A60 (j1 + 2) _ (by omega) hF)
          · cases hF : digL.contains (atB l (j1 + 1))
            · rw [show numF3 l j1 = j1 from by unfold numF3; rw [if_pos (Or.inr he)]; rw [if_neg (fun h => h.elim hp hm)]; unfold numF2; rw [if_neg (by rw [hF]; simp)]]
              exact num_nenn l i j1 _ _ _ _ (by omega) w (fun W => h60 W) (A40 j1 _ rfl) (tb (n := 46) (by omega) (decide_eq_false hA)) (A40 j1 _ rfl) (tb (n := 69) (by omega) (decide_eq_false hE)) (tb (n := 101) (by omega) (decide_eq_true he)) (A40 (j1 + 1) _ (by omega)) (tb (n := 43) (by omega) (decide_eq_false hp)) (tb (n := 45) (by omega) (decide_eq_false hm)) (A40 (j1 + 1) _ (by omega)) (A35 _ _ hF)
            · rw [show numF3 l j1 = (ahE digL l (j1 + 1)) from by unfold numF3; rw [if_pos (Or.inr he)]; rw [if_neg (fun h => h.elim hp hm)]; unfold numF2; rw [if_pos hF]]
              exact num_neny l i j1 (ahE digL l (j1 + 1)) _ _ _ _ (by omega) w (fun W => h60 W) (A40 j1 _ rfl) (tb (n := 46) (by omega) (decide_eq_false hA)) (A40 j1 _ rfl) (tb (n := 69) (by omega) (decide_eq_false hE)) (tb (n := 101) (by omega) (decide_eq_true he)) (A40 (j1 + 1) _ (by omega)) (tb (n := 43) (by omega) (decide_eq_false hp)) (tb (n := 45) (by omega) (decide_eq_false hm)) (A40 (j1 + 1) _ (by omega)) (A35 _ _ hF) (A60 (j1 + 1) _ (by omega) hF)
      · rw [show numF3 l j1 = j1 from by unfold numF3; rw [if_neg (fun h => h.elim hE he)]]
        exact num_nnxx l i j1 _ _   w (fun W => h60 W) (A40 j1 _ rfl) (tb (n := 46) (by omega) (decide_eq_false hA)) (A40 j1 _ rfl) (tb (n := 69) (by omega) (decide_eq_false hE)) (tb (n := 101) (by omega) (decide_eq_false he))
end Go.Proofs.YtgihginfegckcaaGreatDoor
