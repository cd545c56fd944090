/- full, right, check: which lengths are right. -/
import Derived.Test.YtiakploggmmklaaCnt
import Derived.Laws.StructEq
namespace Go.Proofs.Ytiakploggmmklaa
open Go.RowKit

theorem wrap64_id (n : Int) (h : -9223372036854775808 ≤ n ∧ n ≤ 9223372036854775807) : wrap64 n = n := by unfold wrap64; omega
/-- The room that codes of up to k bits take up. -/
def room (zs : List Int) : Nat → Nat
  | 0 => 0
  | k + 1 => room zs k + cnt zs (k + 1) * 2 ^ (14 - k)
theorem room_le (zs : List Int) (h : zs.length ≤ 320) (k : Nat) (hk : k ≤ 15) : room zs k ≤ k * 5242880 := by
  induction k with
  | zero => simp [room]
  | succ k ih =>
    have h1 := ih (by omega)
    have h2 := cnt_le zs (k + 1)
    have h3 : cnt zs (k + 1) * 2 ^ (14 - k) ≤ 320 * 2 ^ 14 := Nat.mul_le_mul (by omega) (Nat.pow_le_pow_right (by omega) (by omega))
    simp only [room]
    omega
theorem index53 (zs : List Int) (k : Nat) (hk : k < 15) (w : World) : (Instr.index 58 (.agg (tab zs)) (.int .i64 k)).run Try.prog w = .ok (.int .i64 (cnt zs (k + 1))) w := by
  rcases (by omega : k = 0 ∨ k = 1 ∨ k = 2 ∨ k = 3 ∨ k = 4 ∨ k = 5 ∨ k = 6 ∨ k = 7 ∨ k = 8 ∨ k = 9 ∨ k = 10 ∨ k = 11 ∨ k = 12 ∨ k = 13 ∨ k = 14) with rfl | rfl | rfl | rfl | rfl | rfl | rfl | rfl | rfl | rfl | rfl | rfl | rfl | rfl | rfl <;> kernel_rfl

set_option maxRecDepth 100000 in
set_option maxHeartbeats 2000000 in
theorem full_any (zs : List Int) (h : zs.length ≤ 320) (w : World) :
    Calls Try.prog 31 #[.agg (tab zs)] w fun e w' => e = .returned (.bool (decide (room zs 15 = 32768))) ∧ w' = w.alloc (.cells (tab zs) 58) := by
  have R0 := Row.new w 58 (tab zs)
  obtain ⟨c0, c1, c2, c3, c4, c5, c6, c7, c8, c9, c10, c11, c12, c13, c14⟩ := R0.tab
  have hfold := tab_fold zs
  go_enter Try.func31, Try.ntmps31
  go_wp2
  go_loop [3, 7] (fun r i => ∃ k : Nat, k ≤ 15 ∧ i = .int .i64 k ∧ r = .int .i64 (room zs k)) (fun _ i => 15 - (intOf i).toNat)
  case atStart => exact ⟨0, by omega, rfl, rfl⟩
  case round =>
    obtain ⟨k, hk, rfl, rfl⟩ := hrel
    clear c0 c1 c2 c3 c4 c5 c6 c7 c8 c9 c10 c11 c12 c13 c14 hfold R0
    have hr := room_le zs h k hk
    by_cases hlt : k < 15
    · have hix := index53 zs k hlt
      have hq := cnt_le zs (k + 1)
      have HS : Hid (room zs (k + 1) = room zs k + cnt zs (k + 1) * 2 ^ (14 - k)) := rfl
      obtain ⟨s, HSZ⟩ : ∃ s, s = room zs (k + 1) := ⟨_, rfl⟩
      rw [← HSZ] at HS
      have HSZ : Hid (s = room zs (k + 1)) := HSZ
      generalize room zs k = r at hr HS
      generalize cnt zs (k + 1) = q at hix hq HS
      have hq2 : (q : Int) * 2 ^ (14 - k) ≤ 5242880 := by
        have h3 : q * 2 ^ (14 - k) ≤ 320 * 2 ^ 14 := Nat.mul_le_mul (by omega) (Nat.pow_le_pow_right (by omega) (by omega))
        have h4 : ((q * 2 ^ (14 - k) : Nat) : Int) ≤ ((320 * 2 ^ 14 : Nat) : Int) := by exact_mod_cast h3
        simpa using h4
      have hq3 : 0 ≤ (q : Int) * 2 ^ (14 - k) := Int.mul_nonneg (by omega) (Int.pow_nonneg (by omega))
      have HW : Hid (wrap64 ((r : Int) + wrap64 ((q : Int) * 2 ^ (14 - k))) = (s : Int)) := by
        show _ = _
        have e : (s : Int) = r + (q : Int) * 2 ^ (14 - k) := by rw [HS.out]; simp
        rw [e]
        generalize (q : Int) * 2 ^ (14 - k) = p at hq2 hq3
        rw [wrap64_id p (by omega), wrap64_id _ (by omega)]
      clear hq2 hq3
      go_wp2
      exact ⟨⟨k + 1, by omega, by simp, by rw [HW.out, HSZ.out]⟩, by simp [intOf]; omega⟩
    · obtain rfl : k = 15 := by omega
      have HQ : Hid ((((room zs 15 : Nat) : Int) == 32768) = decide (room zs 15 = 32768)) := by
        show _ = _
        rw [Bool.eq_iff_iff]
        simp
        omega
      go_wp2
      go_ret
      exact ⟨congrArg (fun b => Ending.returned (.bool b)) HQ.out, rfl⟩

/-! ### two tables, held against each other -/
def intsV (xs : List Int) : Array Value := (xs.map (Value.int .i64)).toArray
theorem equalIn_ints {P : Program} (w : World) (d : Nat) (t e : TypeId) (n : Nat) (ht : P.underlying t = some (.array n e)) (he : P.underlying e = some (.int .i64)) (hsz : ∀ w, (sizeOf e).run P w = .ok 1 w)
    (xs ys : List Int) (hx : xs.length = n) (hy : ys.length = n) :
    (Op.equalIn (d + 2) t (.agg (intsV xs)) (.agg (intsV ys))).run P w = .ok ((List.range n).all fun i => xs.getD i 0 == ys.getD i 0) w := by
  rw [List.range_eq_range', Op.equalIn]
  simp only [Sem.run_bind, run_underlying ht, Result.andThen_ok, hsz, Std.Legacy.Range.forIn_eq_forIn_range', Std.Legacy.Range.size, Nat.sub_zero, Nat.add_sub_cancel, Nat.div_one]
  have hl : ∀ i ∈ List.range' 0 n 1, i < n := fun i hi => by simpa using (List.mem_range'_1.1 hi).2
  generalize List.range' 0 n 1 = l at hl ⊢
  induction l with
  | nil => simp
  | cons i l ih =>
    have hi : i < n := hl i (by simp)
    have px : (part e (intsV xs) (i * 1)).run P w = .ok (.int .i64 (xs.getD i 0)) w := by
      simp [part, isAgg, run_underlying he, intsV, List.getD, List.getElem?_eq_getElem (show i < xs.length by omega)]
    have py : (part e (intsV ys) (i * 1)).run P w = .ok (.int .i64 (ys.getD i 0)) w := by
      simp [part, isAgg, run_underlying he, intsV, List.getD, List.getElem?_eq_getElem (show i < ys.length by omega)]
    have pe : (Op.equalIn (d + 1) e (.int .i64 (xs.getD i 0)) (.int .i64 (ys.getD i 0))).run P w = .ok (xs.getD i 0 == ys.getD i 0) w := run_equalIn_int w d e .i64 .i64 _ _ he
    simp only [List.forIn_cons, Sem.run_bind, px, py, pe, Result.andThen_ok, List.all_cons]
    cases hb : (xs.getD i 0 == ys.getD i 0)
    · simp
    · simp only [Bool.not_true, Bool.false_eq_true, if_false, Sem.run_pure, Result.andThen_ok, Bool.true_and]
      exact ih fun j hj => hl j (by simp [hj])
def cntL (zs : List Int) : List Int := (List.range 15).map (fun i => (cnt zs (i + 1) : Int))
theorem tab_ints (zs : List Int) : tab zs = intsV (cntL zs) := rfl
/-- The table is the one of these lengths. -/
def sameTab (zs ys : List Int) : Bool := (List.range 15).all fun i => (cntL zs).getD i 0 == (cntL ys).getD i 0
theorem eql53 (zs ys : List Int) (w : World) : (Op.equalIn 10000 58 (.agg (tab zs)) (.agg (tab ys))).run Try.prog w = .ok (sameTab zs ys) w := by
  rw [tab_ints, tab_ints, equalIn_ints w 9998 58 3 15 Try.under53 Try.underlying3 (fun w => by simp) _ _ (by simp [cntL]) (by simp [cntL])]
  rfl

/-- Lengths whose codes are there: full ones, none, or one of a single bit. -/
def rightB (zs : List Int) : Bool := decide (room zs 15 = 32768) || sameTab zs [] || sameTab zs [1]

set_option maxRecDepth 100000 in
set_option maxHeartbeats 2000000 in
theorem right_r (b : Bool) (zs : List Int) (HR : Hid (b = (decide (room zs 15 = 32768) || sameTab zs [] || sameTab zs [1]))) (h : zs.length ≤ 320) (w : World) :
    Calls Try.prog 28 #[.agg (tab zs)] w fun e w' => e = .returned (.bool b) ∧ Below w.heap.size w w' := by
  have he0 : ∀ w, (Op.equalIn 10000 58 (.agg (tab zs)) (.agg #[.int .i64 0, .int .i64 0, .int .i64 0, .int .i64 0, .int .i64 0, .int .i64 0, .int .i64 0, .int .i64 0, .int .i64 0, .int .i64 0, .int .i64 0, .int .i64 0, .int .i64 0, .int .i64 0, .int .i64 0])).run Try.prog w = .ok (sameTab zs []) w := eql53 zs []
  have he1 : ∀ w, (Op.equalIn 10000 58 (.agg (tab zs)) (.agg #[.int .i64 1, .int .i64 0, .int .i64 0, .int .i64 0, .int .i64 0, .int .i64 0, .int .i64 0, .int .i64 0, .int .i64 0, .int .i64 0, .int .i64 0, .int .i64 0, .int .i64 0, .int .i64 0, .int .i64 0])).run Try.prog w = .ok (sameTab zs [1]) w := eql53 zs [1]
  have R0 := Row.new w 58 (tab zs)
  obtain ⟨c0, c1, c2, c3, c4, c5, c6, c7, c8, c9, c10, c11, c12, c13, c14⟩ := R0.tab
  have hfold := tab_fold zs
  go_enter Try.func28, Try.ntmps28
  go_wp2_with fail
  refine (full_any zs h _).mono ?_
  rintro e w1 ⟨rfl, hw1⟩
  have hB : Below w.heap.size w w1 := hw1 ▸ ((Below.refl _ w).alloc (Nat.le_refl _) _).alloc (by simp) _
  have R1 : Row w1 w.heap.size 58 (tab zs) := hw1 ▸ R0.alloc _
  clear hw1 R0 c0 c1 c2 c3 c4 c5 c6 c7 c8 c9 c10 c11 c12 c13 c14
  obtain ⟨c0, c1, c2, c3, c4, c5, c6, c7, c8, c9, c10, c11, c12, c13, c14⟩ := R1.tab
  clear R1
  generalize decide (room zs 15 = 32768) = b1 at HR
  generalize sameTab zs [] = b2 at HR he0
  generalize sameTab zs [1] = b3 at HR he1
  cases b1
  · cases b2
    · go_wp2
      go_ret
      exact ⟨by rw [HR.out]; rfl, hB⟩
    · go_wp2
      go_ret
      exact ⟨by rw [HR.out]; rfl, hB⟩
  · go_wp2
    go_ret
    exact ⟨by rw [HR.out]; rfl, hB⟩
theorem right_any (zs : List Int) (h : zs.length ≤ 320) (w : World) :
    Calls Try.prog 28 #[.agg (tab zs)] w fun e w' => e = .returned (.bool (rightB zs)) ∧ Below w.heap.size w w' := right_r _ zs rfl h w
end Go.Proofs.Ytiakploggmmklaa
