import Derived.Test.YtiheajlgaehfmaaDoorTab
import Derived.Laws.StructEq
/- count, full, right, check: which lengths can be, and their table. -/
namespace Go.Proofs.YtiheajlgaehfmaaDoor
open Go.RowKit

set_option maxRecDepth 100000 in
set_option maxHeartbeats 1000000 in
theorem count_long (a : Option Addr) (n cap : Nat) (hn : 320 < n) (w : World) :
    Calls Tryd.prog 81 #[.slice a n cap] w fun e w' => e = .returned (.tuple #[.agg (tab []), .int .i64 1]) ∧ Below w.heap.size w w' := by
  have hz := (zero_of_info Tryd.info53).1
  have hb : ∀ w : World, (Instr.build 108 #[]).run Tryd.prog w = .ok (.agg (tab [])) w := fun _ => by kernel_rfl
  have R0 := Row.new w 108 (tab [])
  have hst := store53 [] R0 (tab_size _)
  go_enter Tryd.func81, Tryd.ntmps81
  go_wp2
  refine bodyPost_ret (v := .tuple #[.agg (tab []), .int .i64 1]) ?_ rfl ⟨rfl, below_setRow ((Below.refl _ w).alloc (Nat.le_refl _) _) (Nat.le_refl _) _⟩
  rw [results_cell_tmp rfl]
  have hld := load53v (R0.setRow (tab [])) (tab_size _)
  simp [asAddr, Result.andThen, hld]
/-- Lengths that can be at all. -/
def okLen (zs : List Int) : Prop := zs.length ≤ 320 ∧ inRange zs
instance (zs : List Int) : Decidable (okLen zs) := inferInstanceAs (Decidable (_ ∧ _))

set_option maxRecDepth 100000 in
set_option maxHeartbeats 2000000 in
theorem count_r (r : Value) (S : Nat → Prop) (a : Option Addr) (cap : Nat) (zs : List Int) (HR : Hid (r = if okLen zs then .tuple #[.agg (tab zs), .int .i64 0] else .tuple #[.agg (tab []), .int .i64 1])) (w : World) (hS : ∀ k, S k → k < w.heap.size) (hI : IntsIn S w (.slice a zs.length cap) zs) :
    Calls Tryd.prog 81 #[.slice a zs.length cap] w fun e w' => e = .returned r ∧ Below w.heap.size w w' := by
  by_cases hn : 320 < zs.length
  · rw [show r = _ from HR.out, if_neg (fun h => by have := h.1; omega)]
    exact count_long a _ cap hn w
  have hz := (zero_of_info Tryd.info53).1
  have hb : ∀ w : World, (Instr.build 108 #[]).run Tryd.prog w = .ok (.agg (tab [])) w := fun _ => by kernel_rfl
  go_enter Tryd.func81, Tryd.ntmps81
  go_wp2
  go_loopw [13] (fun i wr => ∃ k : Nat, k ≤ zs.length ∧ i = .int .i64 k ∧ Row wr w.heap.size 108 (tab []) ∧ Row wr (w.heap.size + 1) 108 (tab (zs.take k)) ∧ Below w.heap.size w wr ∧ inRange (zs.take k))
    (fun i _ => zs.length - (intOf i).toNat)
  case atStart => exact ⟨0, Nat.zero_le _, rfl, (Row.new w 108 (tab [])).alloc _, by have := Row.new (w.alloc (.cells (tab []) 108)) 108 (tab []); simpa using this, ((Below.refl _ w).alloc (Nat.le_refl _) _).alloc (by simp) _, fun z hz => by simp at hz⟩
  case round =>
    obtain ⟨k, hk, rfl, R0, R1, hB, hr⟩ := hrel
    by_cases hlt : k < zs.length
    · obtain ⟨b, off, rfl, hb', hc⟩ := hI.at k hlt
      have hcx := ((Kept.of_below hB hS).cell (p := ⟨b, off + k, none⟩) hb').trans hc
      have HT : Hid (zs.take (k + 1) = zs.take k ++ [zs[k]?.getD 0]) := by
        show _ = _
        rw [List.take_succ_eq_append_getElem hlt]; simp [hlt]
      have HM : Hid (zs[k]?.getD 0 ∈ zs) := by
        show _ ∈ _
        simp [hlt]
      clear hc
      generalize zs[k]?.getD 0 = z at hcx HT HM
      have hst := store53 [] R0 (tab_size _)
      by_cases hbad : z < 0 ∨ 15 < z
      · have hno : ¬ okLen zs := fun h => by have := h.2 z HM.out; omega
        have hrv : r = .tuple #[.agg (tab []), .int .i64 1] := by rw [show r = _ from HR.out, if_neg hno]
        clear HR
        have HF : Hid (Below w.heap.size w (wr.setRow w.heap.size (tab []))) := below_setRow hB (Nat.le_refl _) _
        have HL : Hid ((loadVar 108 ⟨w.heap.size, 0, none⟩).run Tryd.prog (wr.setRow w.heap.size (tab [])) = .ok (.agg (tab [])) (wr.setRow w.heap.size (tab []))) := load53v (R0.setRow _) (tab_size _)
        clear R0 R1 hB hr HT HM hno
        rcases hbad with h | h
        all_goals
          go_wp2
          refine bodyPost_ret (v := .tuple #[.agg (tab []), .int .i64 1]) ?_ rfl ⟨by rw [hrv], HF.out⟩
          rw [results_cell_tmp rfl]
          have hl := HL.out
          simp [asAddr, Result.andThen, hl]
      · obtain ⟨m, rfl⟩ := Int.eq_ofNat_of_zero_le (show 0 ≤ z by omega)
        have hr' : inRange (zs.take (k + 1)) := by
          rw [HT.out]
          intro z hz
          rcases List.mem_append.1 hz with h | h
          · exact hr z h
          · simp at h; omega
        by_cases h0 : m = 0
        · subst h0
          have HR1 : Hid (Row wr (w.heap.size + 1) 108 (tab (zs.take (k + 1)))) := by
            show Row _ _ _ _
            rw [HT.out, show ((0 : Nat) : Int) = 0 from rfl, tab_snoc0]
            exact R1
          clear R1
          go_wp2
          go_roundw
          case rel => exact ⟨k + 1, by omega, by simp, R0, HR1.out, hB, hr'⟩
          case measure => simp [intOf]; omega
        · have hcell := R1.cell (tab_at (zs.take k) (m - 1) (by omega))
          have hfr := R1.frozen (m - 1)
          have hle := cnt_le (zs.take k) m
          have htl : (zs.take k).length ≤ 320 := by simp; omega
          rw [show m - 1 + 1 = m by omega] at hcell
          have HR1 : Hid (Row (wr.setCell ⟨w.heap.size + 1, m - 1, none⟩ (.int .i64 ((cnt (zs.take k) m : Nat) + 1 : Int))) (w.heap.size + 1) 108 (tab (zs.take (k + 1)))) := by
            show Row _ _ _ _
            rw [HT.out, tab_snoc _ m (by omega) (by omega)]
            exact R1.set _ _
          have HR0 : Hid (Row (wr.setCell ⟨w.heap.size + 1, m - 1, none⟩ (.int .i64 ((cnt (zs.take k) m : Nat) + 1 : Int))) w.heap.size 108 (tab [])) :=
            R0.kept (S := fun x => x ≠ w.heap.size + 1) ((Kept.refl _ wr).setCell (p := ⟨w.heap.size + 1, m - 1, none⟩) (by simp) _) (by simp)
          have HB : Hid (Below w.heap.size w (wr.setCell ⟨w.heap.size + 1, m - 1, none⟩ (.int .i64 ((cnt (zs.take k) m : Nat) + 1 : Int)))) := hB.setCell (p := ⟨w.heap.size + 1, m - 1, none⟩) (by simp) _
          clear R1 R0 hB hst
          generalize cnt (zs.take k) m = q at hcell HR1 HR0 HB hle
          have e1 : ((m : Int) - 1).toNat = m - 1 := by omega
          go_wp2
          go_roundw
          case rel => exact ⟨k + 1, by omega, by simp, HR0.out, HR1.out, HB.out, hr'⟩
          case measure => simp [intOf]; omega
    · obtain rfl : k = zs.length := by omega
      rw [List.take_length] at R1 hr
      have hrv : r = .tuple #[.agg (tab zs), .int .i64 0] := by rw [show r = _ from HR.out, if_pos ⟨by omega, hr⟩]
      obtain ⟨c0, c1, c2, c3, c4, c5, c6, c7, c8, c9, c10, c11, c12, c13, c14⟩ := R1.tab
      have hfold := tab_fold zs
      have hst := store53 zs R0 (tab_size _)
      have HF : Hid (Below w.heap.size w (wr.setRow w.heap.size (tab zs))) := below_setRow hB (Nat.le_refl _) _
      have HL : Hid ((loadVar 108 ⟨w.heap.size, 0, none⟩).run Tryd.prog (wr.setRow w.heap.size (tab zs)) = .ok (.agg (tab zs)) (wr.setRow w.heap.size (tab zs))) := load53v (R0.setRow _) (tab_size _)
      clear HR R0 R1 hB hr hI
      go_wp2
      refine bodyPost_ret (v := .tuple #[.agg (tab zs), .int .i64 0]) ?_ rfl ⟨by rw [hrv], HF.out⟩
      rw [results_cell_tmp rfl]
      have hl := HL.out
      simp [asAddr, Result.andThen, hl]
theorem count_any (S : Nat → Prop) (a : Option Addr) (cap : Nat) (zs : List Int) (w : World) (hS : ∀ k, S k → k < w.heap.size) (hI : IntsIn S w (.slice a zs.length cap) zs) :
    Calls Tryd.prog 81 #[.slice a zs.length cap] w fun e w' => e = .returned (if okLen zs then .tuple #[.agg (tab zs), .int .i64 0] else .tuple #[.agg (tab []), .int .i64 1]) ∧ Below w.heap.size w w' :=
  count_r _ S a cap zs rfl w hS hI
end Go.Proofs.YtiheajlgaehfmaaDoor
/- full, right, check: which lengths are right. -/
namespace Go.Proofs.YtiheajlgaehfmaaDoor
open Go.RowKit

theorem wrap64_id (n : Int) (h : -9223372036854775808 ≤ n ∧ n ≤ 9223372036854775807) : wrap64 n = n := by unfold wrap64; omega
/-- The room that codes of up to k bits take up. -/
def room (zs : List Int) : Nat → Nat
  | 0 => 0
  | k + 1 => room zs k + cnt zs (k + 1) * 2 ^ (14 - k)
theorem room_le (zs : List Int) (h : zs.length ≤ 320) (k : Nat) (hk : k ≤ 15) : room zs k ≤ k * 5242880 := by
  induction k with
  | zero => simp [room]
  | succ k ih =>
    have h1 := ih (by omega)
    have h2 := cnt_le zs (k + 1)
    have h3 : cnt zs (k + 1) * 2 ^ (14 - k) ≤ 320 * 2 ^ 14 := Nat.mul_le_mul (by omega) (Nat.pow_le_pow_right (by omega) (by omega))
    simp only [room]
    omega
theorem index53 (zs : List Int) (k : Nat) (hk : k < 15) (w : World) : (Instr.index 108 (.agg (tab zs)) (.int .i64 k)).run Tryd.prog w = .ok (.int .i64 (cnt zs (k + 1))) w := by
  rcases (by omega : k = 0 ∨ k = 1 ∨ k = 2 ∨ k = 3 ∨ k = 4 ∨ k = 5 ∨ k = 6 ∨ k = 7 ∨ k = 8 ∨ k = 9 ∨ k = 10 ∨ k = 11 ∨ k = 12 ∨ k = 13 ∨ k = 14) with rfl | rfl | rfl | rfl | rfl | rfl | rfl | rfl | rfl | rfl | rfl | rfl | rfl | rfl | rfl <;> kernel_rfl

set_option maxRecDepth 100000 in
set_option maxHeartbeats 2000000 in
theorem full_any (zs : List Int) (h : zs.length ≤ 320) (w : World) :
    Calls Tryd.prog 84 #[.agg (tab zs)] w fun e w' => e = .returned (.bool (decide (room zs 15 = 32768))) ∧ w' = w.alloc (.cells (tab zs) 108) := by
  have R0 := Row.new w 108 (tab zs)
  obtain ⟨c0, c1, c2, c3, c4, c5, c6, c7, c8, c9, c10, c11, c12, c13, c14⟩ := R0.tab
  have hfold := tab_fold zs
  go_enter Tryd.func84, Tryd.ntmps84
  go_wp2
  go_loop [3, 7] (fun r i => ∃ k : Nat, k ≤ 15 ∧ i = .int .i64 k ∧ r = .int .i64 (room zs k)) (fun _ i => 15 - (intOf i).toNat)
  case atStart => exact ⟨0, by omega, rfl, rfl⟩
  case round =>
    obtain ⟨k, hk, rfl, rfl⟩ := hrel
    clear c0 c1 c2 c3 c4 c5 c6 c7 c8 c9 c10 c11 c12 c13 c14 hfold R0
    have hr := room_le zs h k hk
    by_cases hlt : k < 15
    · have hix := index53 zs k hlt
      have hq := cnt_le zs (k + 1)
      have HS : Hid (room zs (k + 1) = room zs k + cnt zs (k + 1) * 2 ^ (14 - k)) := rfl
      obtain ⟨s, HSZ⟩ : ∃ s, s = room zs (k + 1) := ⟨_, rfl⟩
      rw [← HSZ] at HS
      have HSZ : Hid (s = room zs (k + 1)) := HSZ
      generalize room zs k = r at hr HS
      generalize cnt zs (k + 1) = q at hix hq HS
      have hq2 : (q : Int) * 2 ^ (14 - k) ≤ 5242880 := by
        have h3 : q * 2 ^ (14 - k) ≤ 320 * 2 ^ 14 := Nat.mul_le_mul (by omega) (Nat.pow_le_pow_right (by omega) (by omega))
        have h4 : ((q * 2 ^ (14 - k) : Nat) : Int) ≤ ((320 * 2 ^ 14 : Nat) : Int) := by exact_mod_cast h3
        simpa using h4
      have hq3 : 0 ≤ (q : Int) * 2 ^ (14 - k) := Int.mul_nonneg (by omega) (Int.pow_nonneg (by omega))
      have HW : Hid (wrap64 ((r : Int) + wrap64 ((q : Int) * 2 ^ (14 - k))) = (s : Int)) := by
        show _ = _
        have e : (s : Int) = r + (q : Int) * 2 ^ (14 - k) := by rw [HS.out]; simp
        rw [e]
        generalize (q : Int) * 2 ^ (14 - k) = p at hq2 hq3
        rw [wrap64_id p (by omega), wrap64_id _ (by omega)]
      clear hq2 hq3
      go_wp2
      exact ⟨⟨k + 1, by omega, by simp, by rw [HW.out, HSZ.out]⟩, by simp [intOf]; omega⟩
    · obtain rfl : k = 15 := by omega
      have HQ : Hid ((((room zs 15 : Nat) : Int) == 32768) = decide (room zs 15 = 32768)) := by
        show _ = _
        rw [Bool.eq_iff_iff]
        simp
        omega
      go_wp2
      go_ret
      exact ⟨congrArg (fun b => Ending.returned (.bool b)) HQ.out, rfl⟩

/-! ### two tables, held against each other -/
def intsV (xs : List Int) : Array Value := (xs.map (Value.int .i64)).toArray
theorem equalIn_ints {P : Program} (w : World) (d : Nat) (t e : TypeId) (n : Nat) (ht : P.underlying t = some (.array n e)) (he : P.underlying e = some (.int .i64)) (hsz : ∀ w, (sizeOf e).run P w = .ok 1 w)
    (xs ys : List Int) (hx : xs.length = n) (hy : ys.length = n) :
    (Op.equalIn (d + 2) t (.agg (intsV xs)) (.agg (intsV ys))).run P w = .ok ((List.range n).all fun i => xs.getD i 0 == ys.getD i 0) w := by
  rw [List.range_eq_range', Op.equalIn]
  simp only [Sem.run_bind, run_underlying ht, Result.andThen_ok, hsz, Std.Legacy.Range.forIn_eq_forIn_range', Std.Legacy.Range.size, Nat.sub_zero, Nat.add_sub_cancel, Nat.div_one]
  have hl : ∀ i ∈ List.range' 0 n 1, i < n := fun i hi => by simpa using (List.mem_range'_1.1 hi).2
  generalize List.range' 0 n 1 = l at hl ⊢
  induction l with
  | nil => simp
  | cons i l ih =>
    have hi : i < n := hl i (by simp)
    have px : (part e (intsV xs) (i * 1)).run P w = .ok (.int .i64 (xs.getD i 0)) w := by
      simp [part, isAgg, run_underlying he, intsV, List.getD, List.getElem?_eq_getElem (show i < xs.length by omega)]
    have py : (part e (intsV ys) (i * 1)).run P w = .ok (.int .i64 (ys.getD i 0)) w := by
      simp [part, isAgg, run_underlying he, intsV, List.getD, List.getElem?_eq_getElem (show i < ys.length by omega)]
    have pe : (Op.equalIn (d + 1) e (.int .i64 (xs.getD i 0)) (.int .i64 (ys.getD i 0))).run P w = .ok (xs.getD i 0 == ys.getD i 0) w := run_equalIn_int w d e .i64 .i64 _ _ he
    simp only [List.forIn_cons, Sem.run_bind, px, py, pe, Result.andThen_ok, List.all_cons]
    cases hb : (xs.getD i 0 == ys.getD i 0)
    · simp
    · simp only [Bool.not_true, Bool.false_eq_true, if_false, Sem.run_pure, Result.andThen_ok, Bool.true_and]
      exact ih fun j hj => hl j (by simp [hj])
def cntL (zs : List Int) : List Int := (List.range 15).map (fun i => (cnt zs (i + 1) : Int))
theorem tab_ints (zs : List Int) : tab zs = intsV (cntL zs) := rfl
/-- The table is the one of these lengths. -/
def sameTab (zs ys : List Int) : Bool := (List.range 15).all fun i => (cntL zs).getD i 0 == (cntL ys).getD i 0
theorem eql53 (zs ys : List Int) (w : World) : (Op.equalIn 10000 108 (.agg (tab zs)) (.agg (tab ys))).run Tryd.prog w = .ok (sameTab zs ys) w := by
  rw [tab_ints, tab_ints, equalIn_ints w 9998 108 3 15 Tryd.under53 Tryd.underlying3 (fun w => by simp) _ _ (by simp [cntL]) (by simp [cntL])]
  rfl

/-- Lengths whose codes are there: full ones, none, or one of a single bit. -/
def rightB (zs : List Int) : Bool := decide (room zs 15 = 32768) || sameTab zs [] || sameTab zs [1]

set_option maxRecDepth 100000 in
set_option maxHeartbeats 2000000 in
theorem right_r (b : Bool) (zs : List Int) (HR : Hid (b = (decide (room zs 15 = 32768) || sameTab zs [] || sameTab zs [1]))) (h : zs.length ≤ 320) (w : World) :
    Calls Tryd.prog 82 #[.agg (tab zs)] w fun e w' => e = .returned (.bool b) ∧ Below w.heap.size w w' := by
  have he0 : ∀ w, (Op.equalIn 10000 108 (.agg (tab zs)) (.agg #[.int .i64 0, .int .i64 0, .int .i64 0, .int .i64 0, .int .i64 0, .int .i64 0, .int .i64 0, .int .i64 0, .int .i64 0, .int .i64 0, .int .i64 0, .int .i64 0, .int .i64 0, .int .i64 0, .int .i64 0])).run Tryd.prog w = .ok (sameTab zs []) w := eql53 zs []
  have he1 : ∀ w, (Op.equalIn 10000 108 (.agg (tab zs)) (.agg #[.int .i64 1, .int .i64 0, .int .i64 0, .int .i64 0, .int .i64 0, .int .i64 0, .int .i64 0, .int .i64 0, .int .i64 0, .int .i64 0, .int .i64 0, .int .i64 0, .int .i64 0, .int .i64 0, .int .i64 0])).run Tryd.prog w = .ok (sameTab zs [1]) w := eql53 zs [1]
  have R0 := Row.new w 108 (tab zs)
  obtain ⟨c0, c1, c2, c3, c4, c5, c6, c7, c8, c9, c10, c11, c12, c13, c14⟩ := R0.tab
  have hfold := tab_fold zs
  go_enter Tryd.func82, Tryd.ntmps82
  go_wp2_with fail
  refine (full_any zs h _).mono ?_
  rintro e w1 ⟨rfl, hw1⟩
  have hB : Below w.heap.size w w1 := hw1 ▸ ((Below.refl _ w).alloc (Nat.le_refl _) _).alloc (by simp) _
  have R1 : Row w1 w.heap.size 108 (tab zs) := hw1 ▸ R0.alloc _
  clear hw1 R0 c0 c1 c2 c3 c4 c5 c6 c7 c8 c9 c10 c11 c12 c13 c14
  obtain ⟨c0, c1, c2, c3, c4, c5, c6, c7, c8, c9, c10, c11, c12, c13, c14⟩ := R1.tab
  clear R1
  generalize decide (room zs 15 = 32768) = b1 at HR
  generalize sameTab zs [] = b2 at HR he0
  generalize sameTab zs [1] = b3 at HR he1
  cases b1
  · cases b2
    · go_wp2
      go_ret
      exact ⟨by rw [HR.out]; rfl, hB⟩
    · go_wp2
      go_ret
      exact ⟨by rw [HR.out]; rfl, hB⟩
  · go_wp2
    go_ret
    exact ⟨by rw [HR.out]; rfl, hB⟩
theorem right_any (zs : List Int) (h : zs.length ≤ 320) (w : World) :
    Calls Tryd.prog 82 #[.agg (tab zs)] w fun e w' => e = .returned (.bool (rightB zs)) ∧ Below w.heap.size w w' := right_r _ zs rfl h w
end Go.Proofs.YtiheajlgaehfmaaDoor
/- check and Full: the counts of lengths that are right, or the error. -/
namespace Go.Proofs.YtiheajlgaehfmaaDoor
open Go.RowKit

/-- The error of these lengths: 1 ErrArg, 11 ErrCode, 0 none. -/
def errOf (zs : List Int) : Int := if okLen zs then (if rightB zs then 0 else 11) else 1
/-- The table that comes with it. -/
def tabOf (zs : List Int) : Array Value := if errOf zs = 0 then tab zs else tab []

set_option maxRecDepth 100000 in
set_option maxHeartbeats 2000000 in
theorem check_arg (S : Nat → Prop) (a : Option Addr) (cap : Nat) (zs : List Int) (w : World) (hS : ∀ k, S k → k < w.heap.size) (hI : IntsIn S w (.slice a zs.length cap) zs) (h : ¬ okLen zs) :
    Calls Tryd.prog 70 #[.slice a zs.length cap] w fun e w' => e = .returned (.tuple #[.agg (tab []), .int .i64 1]) ∧ Below w.heap.size w w' := by
  have hz := (zero_of_info Tryd.info53).1
  have hcnt := count_any S a cap zs (w.alloc (.cells (tab []) 108)) (fun k hk => by have := hS k hk; simp; omega) (hI.kept (((Kept.refl _ w).alloc hS _)))
  rw [if_neg h] at hcnt
  go_enter Tryd.func70, Tryd.ntmps70
  go_wp2_with fail
  refine hcnt.mono ?_
  rintro e w1 ⟨rfl, hB1⟩
  clear hcnt
  have R0 : Row w1 w.heap.size 108 (tab []) := (Row.new w 108 (tab [])).below hB1 (by simp)
  have hB : Below w.heap.size w w1 := ((Below.refl _ w).alloc (Nat.le_refl _) _).trans (hB1.mono (by simp))
  have R1 := Row.new w1 108 (tab [])
  have hs1 := store53 [] R1 (tab_size _)
  have hlt := hB.size
  have R0' : Row ((w1.alloc (.cells (tab []) 108)).setRow w1.heap.size (tab [])) w.heap.size 108 (tab []) := ((R0.alloc (.cells (tab []) 108)).kept (S := fun k => k ≠ w1.heap.size) ((Kept.refl _ _).setRow (by simp) _) (by have := R0.lt; simp; omega))
  have hB' : Below w.heap.size w ((w1.alloc (.cells (tab []) 108)).setRow w1.heap.size (tab [])) := below_setRow (hB.alloc hlt _) hlt _
  obtain ⟨w2, HW⟩ : ∃ w2, Hid (w2 = (w1.alloc (.cells (tab []) 108)).setRow w1.heap.size (tab [])) := ⟨_, rfl⟩
  rw [← HW.out] at hs1 R0' hB'
  have hs2 := store53 [] R0' (tab_size _)
  have HF : Hid (Below w.heap.size w (w2.setRow w.heap.size (tab []))) := below_setRow hB' (Nat.le_refl _) _
  have HL : Hid ((loadVar 108 ⟨w.heap.size, 0, none⟩).run Tryd.prog (w2.setRow w.heap.size (tab [])) = .ok (.agg (tab [])) (w2.setRow w.heap.size (tab []))) := load53v (R0'.setRow _) (tab_size _)
  clear R0 R1 R0' hB hB' hB1 hI
  go_wp2
  refine bodyPost_ret (v := .tuple #[.agg (tab []), .int .i64 1]) ?_ rfl ⟨rfl, HF.out⟩
  rw [results_cell_tmp rfl]
  have hl := HL.out
  simp [asAddr, Result.andThen, hl]

set_option maxRecDepth 100000 in
set_option maxHeartbeats 2000000 in
theorem check_code (S : Nat → Prop) (a : Option Addr) (cap : Nat) (zs : List Int) (w : World) (hS : ∀ k, S k → k < w.heap.size) (hI : IntsIn S w (.slice a zs.length cap) zs) (h : okLen zs) (hr : rightB zs = false) :
    Calls Tryd.prog 70 #[.slice a zs.length cap] w fun e w' => e = .returned (.tuple #[.agg (tab []), .int .i64 11]) ∧ Below w.heap.size w w' := by
  have hz := (zero_of_info Tryd.info53).1
  have hcnt := count_any S a cap zs (w.alloc (.cells (tab []) 108)) (fun k hk => by have := hS k hk; simp; omega) (hI.kept (((Kept.refl _ w).alloc hS _)))
  rw [if_pos h] at hcnt
  go_enter Tryd.func70, Tryd.ntmps70
  go_wp2_with fail
  refine hcnt.mono ?_
  rintro e w1 ⟨rfl, hB1⟩
  clear hcnt
  have R0 : Row w1 w.heap.size 108 (tab []) := (Row.new w 108 (tab [])).below hB1 (by simp)
  have hB : Below w.heap.size w w1 := ((Below.refl _ w).alloc (Nat.le_refl _) _).trans (hB1.mono (by simp))
  have R1 := Row.new w1 108 (tab [])
  have hs1 := store53 zs R1 (tab_size _)
  have hlt := hB.size
  have R0' : Row ((w1.alloc (.cells (tab []) 108)).setRow w1.heap.size (tab zs)) w.heap.size 108 (tab []) := ((R0.alloc (.cells (tab []) 108)).kept (S := fun k => k ≠ w1.heap.size) ((Kept.refl _ _).setRow (by simp) _) (by have := R0.lt; simp; omega))
  have R1' := R1.setRow (tab zs)
  have hB' : Below w.heap.size w ((w1.alloc (.cells (tab []) 108)).setRow w1.heap.size (tab zs)) := below_setRow (hB.alloc hlt _) hlt _
  have hsz : w1.heap.size < ((w1.alloc (.cells (tab []) 108)).setRow w1.heap.size (tab zs)).heap.size := R1'.lt
  obtain ⟨w2, HW⟩ : ∃ w2, Hid (w2 = (w1.alloc (.cells (tab []) 108)).setRow w1.heap.size (tab zs)) := ⟨_, rfl⟩
  rw [← HW.out] at hs1 R0' hB' R1' hsz
  obtain ⟨c0, c1, c2, c3, c4, c5, c6, c7, c8, c9, c10, c11, c12, c13, c14⟩ := R1'.tab
  have hfold := tab_fold zs
  have hrt := right_any zs h.1 w2
  rw [hr] at hrt
  have HB1 : Hid (w1.heap.size < w2.heap.size) := hsz
  have HB0 : Hid (w.heap.size ≤ w1.heap.size) := hlt
  clear R0 R1 hB hB1 hI hsz hlt HW
  go_wp2_with fail
  refine hrt.mono ?_
  rintro e w3 ⟨rfl, hB3⟩
  clear c0 c1 c2 c3 c4 c5 c6 c7 c8 c9 c10 c11 c12 c13 c14 hrt
  have R0' := R0'.below hB3 R0'.lt
  have R1' := R1'.below hB3 R1'.lt
  have hB' : Below w.heap.size w w3 := hB'.trans (hB3.mono hB'.size)
  obtain ⟨c0, c1, c2, c3, c4, c5, c6, c7, c8, c9, c10, c11, c12, c13, c14⟩ := R1'.tab
  have hs2 := store53 ([]) R0' (tab_size _)
  have HF : Hid (Below w.heap.size w (w3.setRow w.heap.size (tab ([])))) := below_setRow hB' (Nat.le_refl _) _
  have HL : Hid ((loadVar 108 ⟨w.heap.size, 0, none⟩).run Tryd.prog (w3.setRow w.heap.size (tab ([]))) = .ok (.agg (tab ([]))) (w3.setRow w.heap.size (tab ([])))) := load53v (R0'.setRow _) (tab_size _)
  clear R0' R1' hB' hB3 hs1
  go_wp2
  refine bodyPost_ret (v := .tuple #[.agg (tab ([])), .int .i64 11]) ?_ rfl ⟨rfl, HF.out⟩
  rw [results_cell_tmp rfl]
  have hl := HL.out
  simp [asAddr, Result.andThen, hl]

set_option maxRecDepth 100000 in
set_option maxHeartbeats 2000000 in
theorem check_ok (S : Nat → Prop) (a : Option Addr) (cap : Nat) (zs : List Int) (w : World) (hS : ∀ k, S k → k < w.heap.size) (hI : IntsIn S w (.slice a zs.length cap) zs) (h : okLen zs) (hr : rightB zs = true) :
    Calls Tryd.prog 70 #[.slice a zs.length cap] w fun e w' => e = .returned (.tuple #[.agg (tab zs), .int .i64 0]) ∧ Below w.heap.size w w' := by
  have hz := (zero_of_info Tryd.info53).1
  have hcnt := count_any S a cap zs (w.alloc (.cells (tab []) 108)) (fun k hk => by have := hS k hk; simp; omega) (hI.kept (((Kept.refl _ w).alloc hS _)))
  rw [if_pos h] at hcnt
  go_enter Tryd.func70, Tryd.ntmps70
  go_wp2_with fail
  refine hcnt.mono ?_
  rintro e w1 ⟨rfl, hB1⟩
  clear hcnt
  have R0 : Row w1 w.heap.size 108 (tab []) := (Row.new w 108 (tab [])).below hB1 (by simp)
  have hB : Below w.heap.size w w1 := ((Below.refl _ w).alloc (Nat.le_refl _) _).trans (hB1.mono (by simp))
  have R1 := Row.new w1 108 (tab [])
  have hs1 := store53 zs R1 (tab_size _)
  have hlt := hB.size
  have R0' : Row ((w1.alloc (.cells (tab []) 108)).setRow w1.heap.size (tab zs)) w.heap.size 108 (tab []) := ((R0.alloc (.cells (tab []) 108)).kept (S := fun k => k ≠ w1.heap.size) ((Kept.refl _ _).setRow (by simp) _) (by have := R0.lt; simp; omega))
  have R1' := R1.setRow (tab zs)
  have hB' : Below w.heap.size w ((w1.alloc (.cells (tab []) 108)).setRow w1.heap.size (tab zs)) := below_setRow (hB.alloc hlt _) hlt _
  have hsz : w1.heap.size < ((w1.alloc (.cells (tab []) 108)).setRow w1.heap.size (tab zs)).heap.size := R1'.lt
  obtain ⟨w2, HW⟩ : ∃ w2, Hid (w2 = (w1.alloc (.cells (tab []) 108)).setRow w1.heap.size (tab zs)) := ⟨_, rfl⟩
  rw [← HW.out] at hs1 R0' hB' R1' hsz
  obtain ⟨c0, c1, c2, c3, c4, c5, c6, c7, c8, c9, c10, c11, c12, c13, c14⟩ := R1'.tab
  have hfold := tab_fold zs
  have hrt := right_any zs h.1 w2
  rw [hr] at hrt
  have HB1 : Hid (w1.heap.size < w2.heap.size) := hsz
  have HB0 : Hid (w.heap.size ≤ w1.heap.size) := hlt
  clear R0 R1 hB hB1 hI hsz hlt HW
  go_wp2_with fail
  refine hrt.mono ?_
  rintro e w3 ⟨rfl, hB3⟩
  clear c0 c1 c2 c3 c4 c5 c6 c7 c8 c9 c10 c11 c12 c13 c14 hrt
  have R0' := R0'.below hB3 R0'.lt
  have R1' := R1'.below hB3 R1'.lt
  have hB' : Below w.heap.size w w3 := hB'.trans (hB3.mono hB'.size)
  obtain ⟨c0, c1, c2, c3, c4, c5, c6, c7, c8, c9, c10, c11, c12, c13, c14⟩ := R1'.tab
  have hs2 := store53 (zs) R0' (tab_size _)
  have HF : Hid (Below w.heap.size w (w3.setRow w.heap.size (tab (zs)))) := below_setRow hB' (Nat.le_refl _) _
  have HL : Hid ((loadVar 108 ⟨w.heap.size, 0, none⟩).run Tryd.prog (w3.setRow w.heap.size (tab (zs))) = .ok (.agg (tab (zs))) (w3.setRow w.heap.size (tab (zs)))) := load53v (R0'.setRow _) (tab_size _)
  clear R0' R1' hB' hB3 hs1
  go_wp2
  refine bodyPost_ret (v := .tuple #[.agg (tab (zs)), .int .i64 0]) ?_ rfl ⟨rfl, HF.out⟩
  rw [results_cell_tmp rfl]
  have hl := HL.out
  simp [asAddr, Result.andThen, hl]

theorem check_any (S : Nat → Prop) (a : Option Addr) (cap : Nat) (zs : List Int) (w : World) (hS : ∀ k, S k → k < w.heap.size) (hI : IntsIn S w (.slice a zs.length cap) zs) :
    Calls Tryd.prog 70 #[.slice a zs.length cap] w fun e w' => e = .returned (.tuple #[.agg (tabOf zs), .int .i64 (errOf zs)]) ∧ Below w.heap.size w w' := by
  by_cases h : okLen zs
  · cases hr : rightB zs
    · have e : errOf zs = 11 := by rw [errOf, if_pos h, hr]; rfl
      rw [tabOf, e]
      exact check_code S a cap zs w hS hI h hr
    · have e : errOf zs = 0 := by rw [errOf, if_pos h, hr]; rfl
      rw [tabOf, e]
      exact check_ok S a cap zs w hS hI h hr
  · have e : errOf zs = 1 := by rw [errOf, if_neg h]
    rw [tabOf, e]
    exact check_arg S a cap zs w hS hI h
end Go.Proofs.YtiheajlgaehfmaaDoor
