import Derived.Test.YtfbhonjndepjbaaDoorWdy
import Derived.Test.YtfbhonjndepjbaaDoorWddM
import Derived.Test.YtfbhonjndepjbaaDoorPdvM
/- math/bits.Rem64; restOf of any two numbers. -/
namespace Go.Proofs.YtfbhonjndepjbaaDoor
open Go.RowKit

set_option maxRecDepth 100000 in
set_option maxHeartbeats 1000000 in
theorem div_small (lo y : Nat) (hl : lo < 18446744073709551616) (hy : 0 < y) (hY : y < 18446744073709551616) (w : World) : Calls Tryd.prog 90 #[.int .u64 0, .int .u64 lo, .int .u64 y] w fun r w' =>
    r = .returned (.tuple #[.int .u64 ((lo / y : Nat) : Int), .int .u64 ((lo % y : Nat) : Int)]) ∧ ∃ q, w' = w.drewN q := by
  have hye : ((y : Int) == 0) = false := by simp; omega
  have hyz : ¬ (y : Int) = 0 := by omega
  have hlt : ¬ ((y : Int) ≤ (0 : Int)) := by omega
  have F1 : Hid (IntKind.u64.wrap ((lo : Int) / (y : Int)) = ((lo / y : Nat) : Int)) := by
    show _ = _
    rw [← Int.natCast_ediv, wrap_mod, Nat.mod_eq_of_lt (Nat.lt_of_le_of_lt (Nat.div_le_self _ _) hl)]
  have F2 : Hid (IntKind.u64.wrap ((lo : Int) % (y : Int)) = ((lo % y : Nat) : Int)) := by
    show _ = _
    rw [← Int.natCast_emod, wrap_mod, Nat.mod_eq_of_lt (Nat.lt_of_le_of_lt (Nat.mod_le _ _) hl)]
  go_enter Tryd.func90, Tryd.ntmps90
  go_wp2
  go_quiet (fail)
  go_wp2
  try rw [F1.out]
  try rw [F2.out]
  exact bodyPost_ret (results_tmp2 rfl _ _ _) rfl ⟨rfl, _, rfl⟩
theorem div_below (hi lo y : Nat) (hy : hi < y) (hY : y < 18446744073709551616) (hl : lo < 18446744073709551616) (w : World) : Calls Tryd.prog 90 #[.int .u64 hi, .int .u64 lo, .int .u64 y] w fun r w' =>
    r = .returned (.tuple #[.int .u64 (((hi * 18446744073709551616 + lo) / y : Nat) : Int), .int .u64 (((hi * 18446744073709551616 + lo) % y : Nat) : Int)]) ∧ Below w.heap.size w w' := by
  by_cases h0 : hi = 0
  · subst h0
    rw [Nat.zero_mul, Nat.zero_add]
    refine (div_small lo y hl (by omega) hY w).mono ?_
    rintro r w' ⟨h, q, rfl⟩
    exact ⟨h, below_drewN (Below.refl _ w) q⟩
  · refine (div_great hi lo y (by omega) hy hY hl w).mono ?_
    rintro r w' ⟨h, rfl⟩
    exact ⟨h, Below.refl _ _⟩
set_option maxRecDepth 100000 in
set_option maxHeartbeats 1000000 in
theorem rem64_any (hi lo y : Nat) (hh : hi < 18446744073709551616) (hy : 0 < y) (hY : y < 18446744073709551616) (hl : lo < 18446744073709551616) (w : World) : Calls Tryd.prog 98 #[.int .u64 hi, .int .u64 lo, .int .u64 y] w fun r w' =>
    r = .returned (.int .u64 (((hi * 18446744073709551616 + lo) % y : Nat) : Int)) ∧ Below w.heap.size w w' := by
  have hD := div_below (hi % y) lo y (Nat.mod_lt _ hy) hY hl
  have he : (hi % y * 18446744073709551616 + lo) % y = (hi * 18446744073709551616 + lo) % y := by
    rw [Nat.add_mod, Nat.mul_mod, Nat.mod_mod, ← Nat.mul_mod, ← Nat.add_mod]
  rw [he] at hD
  have hD2 : ∀ w, Hid (Calls Tryd.prog 90 #[.int .u64 ((hi % y : Nat) : Int), .int .u64 lo, .int .u64 y] w _) := fun w => hD w
  obtain ⟨Q, hQ⟩ : ∃ Q, (hi % y * 18446744073709551616 + lo) / y = Q := ⟨_, rfl⟩
  obtain ⟨R, hR⟩ : ∃ R, (hi * 18446744073709551616 + lo) % y = R := ⟨_, rfl⟩
  rw [hQ, hR] at hD2
  rw [hR]
  have hyz : ¬ (y : Int) = 0 := by omega
  have F2 : Hid (IntKind.u64.wrap ((hi : Int) % (y : Int)) = ((hi % y : Nat) : Int)) := by
    show _ = _
    rw [← Int.natCast_emod, wrap_mod, Nat.mod_eq_of_lt (Nat.lt_of_le_of_lt (Nat.mod_le _ _) hh)]
  have F3 : Hid ((hi : Int) % (y : Int) = ((hi % y : Nat) : Int)) := by
    show _ = _
    rw [← Int.natCast_emod]
  obtain ⟨m, hm⟩ : ∃ m, hi % y = m := ⟨_, rfl⟩
  rw [hm] at hD2 F2 F3
  clear hD he hQ hR hm
  go_enter Tryd.func98, Tryd.ntmps98
  go_wp2_with fail
  first | rw [F2.out] | rw [F3.out] | skip
  refine Calls.mono (hD2 _).out ?_
  rintro _ w1 ⟨rfl, hB⟩
  go_wp2
  go_ret
  exact ⟨rfl, hB⟩
def natU : Value → Nat | .int _ x => x.toNat | _ => 0
theorem mod_next (n y i : Nat) : (n * 10 ^ i % y * 10 / 18446744073709551616) * 18446744073709551616 + n * 10 ^ i % y * 10 % 18446744073709551616 = n * 10 ^ i % y * 10 ∧ n * 10 ^ i % y * 10 % y = n * 10 ^ (i + 1) % y := by
  constructor
  · have := Nat.div_add_mod (n * 10 ^ i % y * 10) 18446744073709551616
    omega
  · rw [Nat.mod_mul_mod, Nat.pow_succ, Nat.mul_assoc]
set_option maxRecDepth 100000 in
set_option maxHeartbeats 1000000 in
theorem restOf_any (an bn : Bool) (ah bh x y : Nat) (ae be : Int) (k : Nat) (hk : ae - be = (k : Int)) (hk2 : k ≤ 1000) (hy : 0 < y) (hY : y < 18446744073709551616) (w : World) :
    Calls Tryd.prog 87 #[wv an ah x ae, wv bn bh y be] w fun q w' => q = .returned (wv an 0 (x * 10 ^ k % y) be) ∧ Below w.heap.size w w' := by
  have hyz : ¬ (y : Int) = 0 := by omega
  obtain ⟨v0, hv0⟩ : ∃ v, x * 10 ^ 0 % y = v := ⟨_, rfl⟩
  have HV0 : Hid (x * 10 ^ 0 % y = v0) := hv0
  have F1 : Hid ((x : Int) % (y : Int) = (v0 : Int)) := by show _ = _; rw [← hv0, Nat.pow_zero, Nat.mul_one, Int.natCast_emod]
  have F2 : Hid (IntKind.u64.wrap ((x : Int) % (y : Int)) = (v0 : Int)) := by
    show _ = _
    have : v0 < y := by rw [← hv0]; exact Nat.mod_lt _ hy
    rw [F1.out, wrap_mod, Nat.mod_eq_of_lt (by omega)]
  clear hv0
  have F3 : Hid (wrap64 (ae - be) = (k : Int)) := by show _ = _; rw [hk]; unfold wrap64; omega
  have HM : ∀ i W, Hid (Calls Tryd.prog 84 #[.int .u64 ((x * 10 ^ i % y : Nat) : Int), .int .u64 ((10 : Nat) : Int)] W _) := fun i W => Tryd.bits_Mul64 (x * 10 ^ i % y) 10 (Nat.lt_trans (Nat.mod_lt _ hy) hY) (by decide) W
  have HR : ∀ i W, Hid (Calls Tryd.prog 98 #[.int .u64 ((x * 10 ^ i % y * 10 / 18446744073709551616 : Nat) : Int), .int .u64 ((x * 10 ^ i % y * 10 % 18446744073709551616 : Nat) : Int), .int .u64 y] W fun r w' => r = .returned (.int .u64 ((x * 10 ^ (i + 1) % y : Nat) : Int)) ∧ Below W.heap.size W w') := fun i W => by
    have hm : x * 10 ^ i % y < y := Nat.mod_lt _ hy
    have h := rem64_any (x * 10 ^ i % y * 10 / 18446744073709551616) (x * 10 ^ i % y * 10 % 18446744073709551616) y (by omega) hy hY (by omega) W
    rw [(mod_next x y i).1, (mod_next x y i).2] at h
    exact h
  have HY : Hid (0 < y) := hy
  clear hk hy
  unfold wv
  go_enter Tryd.func87, Tryd.ntmps87
  go_upto_region 1 with fail
  have hR := three_rows w _ _ _ _ 59 59 59 (Below.refl _ (((w.alloc (.cells #[.bool an, .int .u64 (ah : Int), .int .u64 (x : Int), .int .i64 ae] 59)).alloc (.cells #[.bool bn, .int .u64 (bh : Int), .int .u64 (y : Int), .int .i64 be] 59)).alloc (.cells #[.bool false, .int .u64 0, .int .u64 0, .int .i64 0] 59)))
  generalize ((w.alloc (.cells #[.bool an, .int .u64 (ah : Int), .int .u64 (x : Int), .int .i64 ae] 59)).alloc (.cells #[.bool bn, .int .u64 (bh : Int), .int .u64 (y : Int), .int .i64 be] 59)).alloc (.cells #[.bool false, .int .u64 0, .int .u64 0, .int .i64 0] 59) = W at *
  obtain ⟨hA, hC, hZ, hB⟩ := hR
  obtain ⟨a0, a1, a2, a3⟩ := hA.four
  obtain ⟨b0, b1, b2, b3⟩ := hC.four
  go_upto_region 2 with fail
  first | rw [F2.out] | skip
  first | rw [F1.out] | skip
  go_wp2_with fail
  try rw [F3.out]
  clear a0 a1 a2 a3 b0 b1 b2 b3 F1 F2 F3
  go_loopw [5, 18] (fun v5 v18 wr => ∃ i : Nat, i ≤ k ∧ v5 = .int .u64 ((x * 10 ^ i % y : Nat) : Int) ∧ v18 = .int .i64 (i : Int) ∧ Below W.heap.size W wr) (fun _ v18 _ => k - natU v18)
  case atStart => exact ⟨0, Nat.zero_le _, by rw [HV0.out], rfl, Below.refl _ _⟩
  case round =>
    obtain ⟨i, hi, rfl, rfl, hb⟩ := hrel
    have hC2 := hC.below hb hC.lt
    obtain ⟨b0, b1, b2, b3⟩ := hC2.four
    by_cases hlt : i < k
    · have hl2 : (i : Int) < (k : Int) := by omega
      have hw : wrap64 ((i : Int) + 1) = ((i + 1 : Nat) : Int) := by unfold wrap64; omega
      have hm := HM i
      have hr := HR i
      obtain ⟨v, hv⟩ : ∃ v, x * 10 ^ i % y = v := ⟨_, rfl⟩
      obtain ⟨v2, hv2⟩ : ∃ v, x * 10 ^ (i + 1) % y = v := ⟨_, rfl⟩
      have HV2 : Hid (x * 10 ^ (i + 1) % y = v2) := hv2
      rw [hv] at hm hr
      rw [hv2] at hr
      rw [hv]
      obtain ⟨mh, hmh⟩ : ∃ m, v * 10 / 18446744073709551616 = m := ⟨_, rfl⟩
      obtain ⟨ml, hml⟩ : ∃ m, v * 10 % 18446744073709551616 = m := ⟨_, rfl⟩
      rw [hmh, hml] at hm hr
      have HI : Hid (i < k) := hlt
      clear hv hv2 hmh hml HM HR hi hlt
      go_wp2_with fail
      refine Calls.mono (hm _).out ?_
      rintro _ w1 ⟨rfl, rfl⟩
      go_wp2_with fail
      refine Calls.mono (hr _).out ?_
      rintro _ w2 ⟨rfl, hb2⟩
      have hb3 := hb.trans (hb2.mono hb.size)
      go_wp2
      refine ⟨⟨i + 1, HI.out, by rw [HV2.out], ?_, hb3⟩, ?_⟩
      · first | rfl | (rw [hw])
      · have := HI.out
        first | (simp only [natU]; omega) | (rw [hw]; simp only [natU]; omega)
    · obtain rfl : i = k := by omega
      have hl2 : ¬ (i : Int) < (i : Int) := by omega
      have hA2 := hA.below hb hA.lt
      have hZ2 := hZ.below hb hZ.lt
      obtain ⟨a0, a1, a2, a3⟩ := hA2.four
      obtain ⟨d0, d1, d2, d3⟩ := hZ2.four
      have zf := hZ2.frozen
      have zl := hZ2.lt
      obtain ⟨v, hv⟩ : ∃ v, x * 10 ^ i % y = v := ⟨_, rfl⟩
      have HV : Hid (x * 10 ^ i % y = v) := hv
      rw [hv]
      have hB2 := hB.trans (hb.mono hB.size)
      clear HM HR hv hlt hi
      go_wp2
      exact bodyPost_ret (ret_one rfl (g := w.heap.size + 2) rfl (load57 (Row.set4 hZ2 _ _ _ _) rfl)) rfl ⟨by rw [← HV.out, Int.natCast_emod, Int.natCast_mul, Int.natCast_pow]; rfl, below_set4 hB2 (by omega) _ _ _ _⟩
end Go.Proofs.YtfbhonjndepjbaaDoor
/- remainder of any two numbers. -/
namespace Go.Proofs.YtfbhonjndepjbaaDoor
open Go.RowKit

set_option maxRecDepth 100000 in
set_option maxHeartbeats 4000000 in
theorem rem_walk (an bn pn rn : Bool) (ah al bh bl ph pl rh rl : Nat) (ae be pe re : Int) (fits z : Bool) (o : Option Wd)
    (HL : ∀ w, Hid (Calls Tryd.prog 71 #[.agg #[.bool bn, .int .u64 (bh : Int), .int .u64 (bl : Int), .int .i64 be], .int .i64 ae] w fun r w' => r = .returned (.tuple #[.agg #[.bool pn, .int .u64 (ph : Int), .int .u64 (pl : Int), .int .i64 pe], .bool fits]) ∧ Below w.heap.size w w'))
    (HR : (fits = true ∧ ph = 0 ∧ ∀ w, Hid (Calls Tryd.prog 87 #[.agg #[.bool an, .int .u64 (ah : Int), .int .u64 (al : Int), .int .i64 ae], .agg #[.bool pn, .int .u64 (ph : Int), .int .u64 (pl : Int), .int .i64 pe]] w fun r w' => r = .returned (.agg #[.bool rn, .int .u64 (rh : Int), .int .u64 (rl : Int), .int .i64 re]) ∧ Below w.heap.size w w')) ∨ ((fits = false ∨ fits = true ∧ ((ph : Int) == 0) = false) ∧ rn = an ∧ rh = ah ∧ rl = al ∧ re = ae))
    (HZ : ∀ w, Hid (Calls Tryd.prog 61 #[.agg #[.bool rn, .int .u64 (rh : Int), .int .u64 (rl : Int), .int .i64 re]] w fun r w' => r = .returned (.bool z) ∧ Below w.heap.size w w'))
    (HF : (z = true ∧ WayR o (.returned (.tuple #[.agg #[.bool rn, .int .u64 (rh : Int), .int .u64 (rl : Int), .int .i64 re], .bool true]))) ∨ (z = false ∧ (an == bn) = true ∧ WayR o (.returned (.tuple #[.agg #[.bool rn, .int .u64 (rh : Int), .int .u64 (rl : Int), .int .i64 re], .bool true]))) ∨ (z = false ∧ (an == bn) = false ∧ fits = false ∧ WayR o (.returned (.tuple #[.agg #[.bool false, .int .u64 0, .int .u64 0, .int .i64 0], .bool false]))) ∨
      (z = false ∧ (an == bn) = false ∧ fits = true ∧ ∀ w, Hid (Calls Tryd.prog 43 #[.agg #[.bool rn, .int .u64 (rh : Int), .int .u64 (rl : Int), .int .i64 re], .agg #[.bool pn, .int .u64 (ph : Int), .int .u64 (pl : Int), .int .i64 pe]] w fun r w' => WayR o r ∧ Below w.heap.size w w'))) (w : World) :
    Calls Tryd.prog 60 #[.agg #[.bool an, .int .u64 (ah : Int), .int .u64 (al : Int), .int .i64 ae], .agg #[.bool bn, .int .u64 (bh : Int), .int .u64 (bl : Int), .int .i64 be]] w fun r w' => WayR o r ∧ Below w.heap.size w w' := by
  have HR : Hid _ := HR
  have HF : Hid _ := HF
  go_enter Tryd.func60, Tryd.ntmps60
  go_upto_region 1 with fail
  have hR := three_rows w _ _ _ _ 59 59 59 (Below.refl _ (((w.alloc (.cells #[.bool an, .int .u64 (ah : Int), .int .u64 (al : Int), .int .i64 ae] 59)).alloc (.cells #[.bool bn, .int .u64 (bh : Int), .int .u64 (bl : Int), .int .i64 be] 59)).alloc (.cells #[.bool false, .int .u64 0, .int .u64 0, .int .i64 0] 59)))
  generalize ((w.alloc (.cells #[.bool an, .int .u64 (ah : Int), .int .u64 (al : Int), .int .i64 ae] 59)).alloc (.cells #[.bool bn, .int .u64 (bh : Int), .int .u64 (bl : Int), .int .i64 be] 59)).alloc (.cells #[.bool false, .int .u64 0, .int .u64 0, .int .i64 0] 59) = W at *
  obtain ⟨hA, hC, hZ, hB⟩ := hR
  obtain ⟨a0, a1, a2, a3⟩ := hA.four
  obtain ⟨b0, b1, b2, b3⟩ := hC.four
  go_wp2_with fail
  refine Calls.mono (HL _).out ?_
  rintro _ w1 ⟨rfl, h1⟩
  have hA := hA.below h1 hA.lt
  have hC := hC.below h1 hC.lt
  have hZ := hZ.below h1 hZ.lt
  have hB := hB.trans (h1.mono hB.size)
  clear h1 HL a0 a1 a2 a3 b0 b1 b2 b3
  obtain ⟨a0, a1, a2, a3⟩ := hA.four
  have mA : w.heap.size < w1.heap.size := hA.lt
  have mC : w.heap.size + 1 < w1.heap.size := hC.lt
  have mZ : w.heap.size + 2 < w1.heap.size := hZ.lt
  go_upto_region 3 with fail
  have hA := (hA.alloc (.cells #[.bool pn, .int .u64 (ph : Int), .int .u64 (pl : Int), .int .i64 pe] 59)).alloc (.cells #[.bool an, .int .u64 (ah : Int), .int .u64 (al : Int), .int .i64 ae] 59)
  have hC := (hC.alloc (.cells #[.bool pn, .int .u64 (ph : Int), .int .u64 (pl : Int), .int .i64 pe] 59)).alloc (.cells #[.bool an, .int .u64 (ah : Int), .int .u64 (al : Int), .int .i64 ae] 59)
  have hZ := (hZ.alloc (.cells #[.bool pn, .int .u64 (ph : Int), .int .u64 (pl : Int), .int .i64 pe] 59)).alloc (.cells #[.bool an, .int .u64 (ah : Int), .int .u64 (al : Int), .int .i64 ae] 59)
  have hY := (Row.new w1 59 #[.bool pn, .int .u64 (ph : Int), .int .u64 (pl : Int), .int .i64 pe]).alloc (.cells #[.bool an, .int .u64 (ah : Int), .int .u64 (al : Int), .int .i64 ae] 59)
  have hS := Row.new1 w1 (.cells #[.bool pn, .int .u64 (ph : Int), .int .u64 (pl : Int), .int .i64 pe] 59) 59 #[.bool an, .int .u64 (ah : Int), .int .u64 (al : Int), .int .i64 ae]
  have hB := (hB.alloc (by omega) (.cells #[.bool pn, .int .u64 (ph : Int), .int .u64 (pl : Int), .int .i64 pe] 59)).alloc (by simp; omega) (.cells #[.bool an, .int .u64 (ah : Int), .int .u64 (al : Int), .int .i64 ae] 59)
  clear a0 a1 a2 a3
  generalize (w1.alloc (.cells #[.bool pn, .int .u64 (ph : Int), .int .u64 (pl : Int), .int .i64 pe] 59)).alloc (.cells #[.bool an, .int .u64 (ah : Int), .int .u64 (al : Int), .int .i64 ae] 59) = W2 at *
  generalize w1.heap.size = X at *
  obtain ⟨y0, y1, y2, y3⟩ := hY.four
  obtain ⟨a0, a1, a2, a3⟩ := hA.four
  rcases HR.out with HQ | HQ
  · clear HR
    obtain ⟨rfl, rfl, HR2⟩ := HQ
    go_wp2_with fail
    refine Calls.mono (HR2 _).out ?_
    rintro _ w2 ⟨rfl, h2⟩
    have hA := hA.below h2 hA.lt
    have hC := hC.below h2 hC.lt
    have hZ := hZ.below h2 hZ.lt
    have hY := hY.below h2 hY.lt
    have hS := hS.below h2 hS.lt
    have hB := hB.trans (h2.mono hB.size)
    clear h2 HR2 a0 a1 a2 a3 y0 y1 y2 y3
    obtain ⟨s0, s1, s2, s3⟩ := hS.four
    have zs := hS.frozen
    have hA := hA.off4 (B' := X + 1) (by omega) (.bool rn) (.int .u64 (rh : Int)) (.int .u64 (rl : Int)) (.int .i64 re)
    have hC := hC.off4 (B' := X + 1) (by omega) (.bool rn) (.int .u64 (rh : Int)) (.int .u64 (rl : Int)) (.int .i64 re)
    have hZ := hZ.off4 (B' := X + 1) (by omega) (.bool rn) (.int .u64 (rh : Int)) (.int .u64 (rl : Int)) (.int .i64 re)
    have hY := hY.off4 (B' := X + 1) (by omega) (.bool rn) (.int .u64 (rh : Int)) (.int .u64 (rl : Int)) (.int .i64 re)
    have hB := below_set4 hB (B' := X + 1) (by omega) (.bool rn) (.int .u64 (rh : Int)) (.int .u64 (rl : Int)) (.int .i64 re)
    have hS := hS.set4 (.bool rn) (.int .u64 (rh : Int)) (.int .u64 (rl : Int)) (.int .i64 re)
    go_upto_region 5 with fail
    clear s0 s1 s2 s3 zs
    generalize (((w2.setCell ⟨X + 1, 0, none⟩ (.bool rn)).setCell ⟨X + 1, 1, none⟩ (.int .u64 (rh : Int))).setCell ⟨X + 1, 2, none⟩ (.int .u64 (rl : Int))).setCell ⟨X + 1, 3, none⟩ (.int .i64 re) = W3 at *
    obtain ⟨s0, s1, s2, s3⟩ := hS.four
    rcases HF.out with ⟨rfl, HW⟩ | ⟨rfl, hs, HW⟩ | ⟨rfl, hs, hf, HW⟩ | ⟨rfl, hs, hf, HS⟩
    · go_wp2_with fail
      refine Calls.mono (HZ _).out ?_
      rintro _ w3 ⟨rfl, h3⟩
      have hA := hA.below h3 hA.lt
      have hC := hC.below h3 hC.lt
      have hZ := hZ.below h3 hZ.lt
      have hY := hY.below h3 hY.lt
      have hS := hS.below h3 hS.lt
      have hB := hB.trans (h3.mono hB.size)
      clear h3 HZ s0 s1 s2 s3 HF
      obtain ⟨a0, a1, a2, a3⟩ := hA.four
      obtain ⟨b0, b1, b2, b3⟩ := hC.four
      obtain ⟨s0, s1, s2, s3⟩ := hS.four
      obtain ⟨y0, y1, y2, y3⟩ := hY.four
      have HW : Hid (WayR o (.returned (.tuple #[.agg #[.bool rn, .int .u64 (rh : Int), .int .u64 (rl : Int), .int .i64 re], .bool true]))) := HW
      obtain ⟨d0, d1, d2, d3⟩ := hZ.four
      have zf := hZ.frozen
      go_wp2
      exact bodyPost_ret (v := .tuple #[.agg #[.bool rn, .int .u64 (rh : Int), .int .u64 (rl : Int), .int .i64 re], .bool true]) (ret_two rfl (g := w.heap.size + 2) rfl rfl (load57 (Row.set4 hZ _ _ _ _) rfl)) rfl ⟨HW.out, below_set4 hB (by omega) _ _ _ _⟩
    · go_wp2_with fail
      refine Calls.mono (HZ _).out ?_
      rintro _ w3 ⟨rfl, h3⟩
      have hA := hA.below h3 hA.lt
      have hC := hC.below h3 hC.lt
      have hZ := hZ.below h3 hZ.lt
      have hY := hY.below h3 hY.lt
      have hS := hS.below h3 hS.lt
      have hB := hB.trans (h3.mono hB.size)
      clear h3 HZ s0 s1 s2 s3 HF
      obtain ⟨a0, a1, a2, a3⟩ := hA.four
      obtain ⟨b0, b1, b2, b3⟩ := hC.four
      obtain ⟨s0, s1, s2, s3⟩ := hS.four
      obtain ⟨y0, y1, y2, y3⟩ := hY.four
      have HW : Hid (WayR o (.returned (.tuple #[.agg #[.bool rn, .int .u64 (rh : Int), .int .u64 (rl : Int), .int .i64 re], .bool true]))) := HW
      obtain ⟨d0, d1, d2, d3⟩ := hZ.four
      have zf := hZ.frozen
      go_wp2
      exact bodyPost_ret (v := .tuple #[.agg #[.bool rn, .int .u64 (rh : Int), .int .u64 (rl : Int), .int .i64 re], .bool true]) (ret_two rfl (g := w.heap.size + 2) rfl rfl (load57 (Row.set4 hZ _ _ _ _) rfl)) rfl ⟨HW.out, below_set4 hB (by omega) _ _ _ _⟩
    · cases hf
    · clear hf
      go_wp2_with fail
      refine Calls.mono (HZ _).out ?_
      rintro _ w3 ⟨rfl, h3⟩
      have hA := hA.below h3 hA.lt
      have hC := hC.below h3 hC.lt
      have hZ := hZ.below h3 hZ.lt
      have hY := hY.below h3 hY.lt
      have hS := hS.below h3 hS.lt
      have hB := hB.trans (h3.mono hB.size)
      clear h3 HZ s0 s1 s2 s3 HF
      obtain ⟨a0, a1, a2, a3⟩ := hA.four
      obtain ⟨b0, b1, b2, b3⟩ := hC.four
      obtain ⟨s0, s1, s2, s3⟩ := hS.four
      obtain ⟨y0, y1, y2, y3⟩ := hY.four
      go_wp2_with fail
      refine Calls.mono (HS _).out ?_
      rintro _ w4 ⟨⟨x, t, rfl, x1, x2, x3, x4⟩, h4⟩
      have hZ := hZ.below h4 hZ.lt
      have hB := hB.trans (h4.mono hB.size)
      clear h4 HS a0 a1 a2 a3 b0 b1 b2 b3 s0 s1 s2 s3 y0 y1 y2 y3
      obtain ⟨g0, g1, g2, g3, hxv⟩ := val_agg x
      have HQ : Hid (WayR o (.returned (.tuple #[.agg #[.bool g0, .int .u64 g1, .int .u64 g2, .int .i64 g3], .bool t]))) := ⟨x, t, by rw [hxv], x1, x2, x3, x4⟩
      rw [hxv]
      clear x1 x2 x3 x4 hxv
      obtain ⟨d0, d1, d2, d3⟩ := hZ.four
      have zf := hZ.frozen
      go_wp2
      exact bodyPost_ret (v := .tuple #[.agg #[.bool g0, .int .u64 g1, .int .u64 g2, .int .i64 g3], .bool t]) (ret_two rfl (g := w.heap.size + 2) rfl rfl (load57 (Row.set4 hZ _ _ _ _) rfl)) rfl ⟨HQ.out, below_set4 hB (by omega) _ _ _ _⟩
  · clear HR
    obtain ⟨hfp, rfl, rfl, rfl, rfl⟩ := HQ
    rcases hfp with rfl | ⟨rfl, hph⟩
    · go_upto_region 5 with fail
      clear y0 y1 y2 y3 a0 a1 a2 a3
      obtain ⟨s0, s1, s2, s3⟩ := hS.four
      rcases HF.out with ⟨rfl, HW⟩ | ⟨rfl, hs, HW⟩ | ⟨rfl, hs, hf, HW⟩ | ⟨rfl, hs, hf, HS⟩
      · go_wp2_with fail
        refine Calls.mono (HZ _).out ?_
        rintro _ w3 ⟨rfl, h3⟩
        have hA := hA.below h3 hA.lt
        have hC := hC.below h3 hC.lt
        have hZ := hZ.below h3 hZ.lt
        have hY := hY.below h3 hY.lt
        have hS := hS.below h3 hS.lt
        have hB := hB.trans (h3.mono hB.size)
        clear h3 HZ s0 s1 s2 s3 HF
        obtain ⟨a0, a1, a2, a3⟩ := hA.four
        obtain ⟨b0, b1, b2, b3⟩ := hC.four
        obtain ⟨s0, s1, s2, s3⟩ := hS.four
        obtain ⟨y0, y1, y2, y3⟩ := hY.four
        have HW : Hid (WayR o (.returned (.tuple #[.agg #[.bool rn, .int .u64 (rh : Int), .int .u64 (rl : Int), .int .i64 re], .bool true]))) := HW
        obtain ⟨d0, d1, d2, d3⟩ := hZ.four
        have zf := hZ.frozen
        go_wp2
        exact bodyPost_ret (v := .tuple #[.agg #[.bool rn, .int .u64 (rh : Int), .int .u64 (rl : Int), .int .i64 re], .bool true]) (ret_two rfl (g := w.heap.size + 2) rfl rfl (load57 (Row.set4 hZ _ _ _ _) rfl)) rfl ⟨HW.out, below_set4 hB (by omega) _ _ _ _⟩
      · go_wp2_with fail
        refine Calls.mono (HZ _).out ?_
        rintro _ w3 ⟨rfl, h3⟩
        have hA := hA.below h3 hA.lt
        have hC := hC.below h3 hC.lt
        have hZ := hZ.below h3 hZ.lt
        have hY := hY.below h3 hY.lt
        have hS := hS.below h3 hS.lt
        have hB := hB.trans (h3.mono hB.size)
        clear h3 HZ s0 s1 s2 s3 HF
        obtain ⟨a0, a1, a2, a3⟩ := hA.four
        obtain ⟨b0, b1, b2, b3⟩ := hC.four
        obtain ⟨s0, s1, s2, s3⟩ := hS.four
        obtain ⟨y0, y1, y2, y3⟩ := hY.four
        have HW : Hid (WayR o (.returned (.tuple #[.agg #[.bool rn, .int .u64 (rh : Int), .int .u64 (rl : Int), .int .i64 re], .bool true]))) := HW
        obtain ⟨d0, d1, d2, d3⟩ := hZ.four
        have zf := hZ.frozen
        go_wp2
        exact bodyPost_ret (v := .tuple #[.agg #[.bool rn, .int .u64 (rh : Int), .int .u64 (rl : Int), .int .i64 re], .bool true]) (ret_two rfl (g := w.heap.size + 2) rfl rfl (load57 (Row.set4 hZ _ _ _ _) rfl)) rfl ⟨HW.out, below_set4 hB (by omega) _ _ _ _⟩
      · clear hf
        go_wp2_with fail
        refine Calls.mono (HZ _).out ?_
        rintro _ w3 ⟨rfl, h3⟩
        have hA := hA.below h3 hA.lt
        have hC := hC.below h3 hC.lt
        have hZ := hZ.below h3 hZ.lt
        have hY := hY.below h3 hY.lt
        have hS := hS.below h3 hS.lt
        have hB := hB.trans (h3.mono hB.size)
        clear h3 HZ s0 s1 s2 s3 HF
        obtain ⟨a0, a1, a2, a3⟩ := hA.four
        obtain ⟨b0, b1, b2, b3⟩ := hC.four
        obtain ⟨s0, s1, s2, s3⟩ := hS.four
        obtain ⟨y0, y1, y2, y3⟩ := hY.four
        have HW : Hid (WayR o (.returned (.tuple #[.agg #[.bool false, .int .u64 0, .int .u64 0, .int .i64 0], .bool false]))) := HW
        obtain ⟨d0, d1, d2, d3⟩ := hZ.four
        have zf := hZ.frozen
        go_wp2
        exact bodyPost_ret (v := .tuple #[.agg #[.bool false, .int .u64 0, .int .u64 0, .int .i64 0], .bool false]) (ret_two rfl (g := w.heap.size + 2) rfl rfl (load57 (Row.set4 hZ _ _ _ _) rfl)) rfl ⟨HW.out, below_set4 hB (by omega) _ _ _ _⟩
      · cases hf
    · go_upto_region 5 with fail
      clear y0 y1 y2 y3 a0 a1 a2 a3
      obtain ⟨s0, s1, s2, s3⟩ := hS.four
      rcases HF.out with ⟨rfl, HW⟩ | ⟨rfl, hs, HW⟩ | ⟨rfl, hs, hf, HW⟩ | ⟨rfl, hs, hf, HS⟩
      · go_wp2_with fail
        refine Calls.mono (HZ _).out ?_
        rintro _ w3 ⟨rfl, h3⟩
        have hA := hA.below h3 hA.lt
        have hC := hC.below h3 hC.lt
        have hZ := hZ.below h3 hZ.lt
        have hY := hY.below h3 hY.lt
        have hS := hS.below h3 hS.lt
        have hB := hB.trans (h3.mono hB.size)
        clear h3 HZ s0 s1 s2 s3 HF
        obtain ⟨a0, a1, a2, a3⟩ := hA.four
        obtain ⟨b0, b1, b2, b3⟩ := hC.four
        obtain ⟨s0, s1, s2, s3⟩ := hS.four
        obtain ⟨y0, y1, y2, y3⟩ := hY.four
        have HW : Hid (WayR o (.returned (.tuple #[.agg #[.bool rn, .int .u64 (rh : Int), .int .u64 (rl : Int), .int .i64 re], .bool true]))) := HW
        obtain ⟨d0, d1, d2, d3⟩ := hZ.four
        have zf := hZ.frozen
        go_wp2
        exact bodyPost_ret (v := .tuple #[.agg #[.bool rn, .int .u64 (rh : Int), .int .u64 (rl : Int), .int .i64 re], .bool true]) (ret_two rfl (g := w.heap.size + 2) rfl rfl (load57 (Row.set4 hZ _ _ _ _) rfl)) rfl ⟨HW.out, below_set4 hB (by omega) _ _ _ _⟩
      · go_wp2_with fail
        refine Calls.mono (HZ _).out ?_
        rintro _ w3 ⟨rfl, h3⟩
        have hA := hA.below h3 hA.lt
        have hC := hC.below h3 hC.lt
        have hZ := hZ.below h3 hZ.lt
        have hY := hY.below h3 hY.lt
        have hS := hS.below h3 hS.lt
        have hB := hB.trans (h3.mono hB.size)
        clear h3 HZ s0 s1 s2 s3 HF
        obtain ⟨a0, a1, a2, a3⟩ := hA.four
        obtain ⟨b0, b1, b2, b3⟩ := hC.four
        obtain ⟨s0, s1, s2, s3⟩ := hS.four
        obtain ⟨y0, y1, y2, y3⟩ := hY.four
        have HW : Hid (WayR o (.returned (.tuple #[.agg #[.bool rn, .int .u64 (rh : Int), .int .u64 (rl : Int), .int .i64 re], .bool true]))) := HW
        obtain ⟨d0, d1, d2, d3⟩ := hZ.four
        have zf := hZ.frozen
        go_wp2
        exact bodyPost_ret (v := .tuple #[.agg #[.bool rn, .int .u64 (rh : Int), .int .u64 (rl : Int), .int .i64 re], .bool true]) (ret_two rfl (g := w.heap.size + 2) rfl rfl (load57 (Row.set4 hZ _ _ _ _) rfl)) rfl ⟨HW.out, below_set4 hB (by omega) _ _ _ _⟩
      · cases hf
      · clear hf
        go_wp2_with fail
        refine Calls.mono (HZ _).out ?_
        rintro _ w3 ⟨rfl, h3⟩
        have hA := hA.below h3 hA.lt
        have hC := hC.below h3 hC.lt
        have hZ := hZ.below h3 hZ.lt
        have hY := hY.below h3 hY.lt
        have hS := hS.below h3 hS.lt
        have hB := hB.trans (h3.mono hB.size)
        clear h3 HZ s0 s1 s2 s3 HF
        obtain ⟨a0, a1, a2, a3⟩ := hA.four
        obtain ⟨b0, b1, b2, b3⟩ := hC.four
        obtain ⟨s0, s1, s2, s3⟩ := hS.four
        obtain ⟨y0, y1, y2, y3⟩ := hY.four
        go_wp2_with fail
        refine Calls.mono (HS _).out ?_
        rintro _ w4 ⟨⟨x, t, rfl, x1, x2, x3, x4⟩, h4⟩
        have hZ := hZ.below h4 hZ.lt
        have hB := hB.trans (h4.mono hB.size)
        clear h4 HS a0 a1 a2 a3 b0 b1 b2 b3 s0 s1 s2 s3 y0 y1 y2 y3
        obtain ⟨g0, g1, g2, g3, hxv⟩ := val_agg x
        have HQ : Hid (WayR o (.returned (.tuple #[.agg #[.bool g0, .int .u64 g1, .int .u64 g2, .int .i64 g3], .bool t]))) := ⟨x, t, by rw [hxv], x1, x2, x3, x4⟩
        rw [hxv]
        clear x1 x2 x3 x4 hxv
        obtain ⟨d0, d1, d2, d3⟩ := hZ.four
        have zf := hZ.frozen
        go_wp2
        exact bodyPost_ret (v := .tuple #[.agg #[.bool g0, .int .u64 g1, .int .u64 g2, .int .i64 g3], .bool t]) (ret_two rfl (g := w.heap.size + 2) rfl rfl (load57 (Row.set4 hZ _ _ _ _) rfl)) rfl ⟨HQ.out, below_set4 hB (by omega) _ _ _ _⟩
end Go.Proofs.YtfbhonjndepjbaaDoor
