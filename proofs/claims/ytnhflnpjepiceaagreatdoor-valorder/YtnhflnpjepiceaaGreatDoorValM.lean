import Derived.Test.YtnhflnpjepiceaaGreatDoorVrk67
import Derived.Test.YtnhflnpjepiceaaGreatDoorVbo1
import Derived.Test.YtnhflnpjepiceaaGreatDoorVbo4
/- val: the chapter's examples: alive. -/
namespace Go.Proofs.YtnhflnpjepiceaaGreatDoor
open Go.RowKit

set_option maxRecDepth 100000 in
set_option maxHeartbeats 400000 in
theorem lawNum_any (c : Int) (w : World) : Calls Tryz.prog 59 #[.int .i64 c] w fun r w' => r = .returned (vN c 0).v ∧ Below w.heap.size w w' := by
  go_enter Tryz.func59, Tryz.ntmps59
  go_wp2
  refine bodyPost_ret (ret_one rfl (g := w.heap.size) rfl (load25 (Row.new w 25 _) rfl)) rfl ⟨rfl, ?_⟩
  exact (Below.refl _ w).alloc (Nat.le_refl _) _
theorem tx_two : textB ⟨#[50]⟩ = true := by kernel_rfl
theorem num_two : numV (vT ⟨#[50]⟩) = vN 2 0 := by
  unfold numV
  rw [clean_of (right_T tx_two)]
  kernel_rfl
theorem num_true : numV (vB true) = vN 1 0 := by
  unfold numV
  rw [clean_of (right_B true)]
  rfl
theorem num_num {c e : Int} (h : rightB c e = true) : numV (vN c e) = vN c e := by
  unfold numV
  rw [clean_of (right_N h)]
  rfl
theorem add_three : twoV 0 0 (sumW (decW 2 0) (decW 1 0)) = .tuple #[.agg #[.int .i64 3, .int .i64 0], .int .i64 0] := by kernel_rfl
theorem of_three : ofW 3 0 0 = vN 3 0 := by simp [ofW, rightB]
theorem i64_small {c : Int} (h : -1000 ≤ c ∧ c ≤ 1000) : I64 c := ⟨by omega, by omega⟩
theorem va_add (w : World) : Calls Tryz.prog 34 #[.int .i64 1, (vT ⟨#[50]⟩).v, (vB true).v] w fun r w' => r = .returned (vN 3 0).v ∧ Below w.heap.size w w' := by
  refine bin_op1 2 0 0 ⟨#[50]⟩ false 0 3 0 0 .empty true 0 2 0 0 ⟨#[50]⟩ false 0 3 0 0 .empty true 0 1 3 0 .empty false 0 ?_ ?_ ?_ ?_ w
  · intro V
    have h := taken_any (vT ⟨#[50]⟩) (i64_small (by decide)) V
    rw [clean_of (right_T tx_two)] at h
    exact h
  · intro V
    have h := taken_any (vB true) (i64_small (by decide)) V
    rw [clean_of (right_B true)] at h
    exact h
  · intro K V hK
    exact first_any (vT ⟨#[50]⟩) (vB true) K V hK
  · intro V
    refine reck_ok64 2 0 0 ⟨#[50]⟩ false 0 3 0 0 .empty true 0 1 2 0 .empty false 0 1 1 0 .empty false 0 1 3 0 .empty false 0 3 0 0 ?_ ?_ ?_ ?_ ?_ V
    · intro V
      have h := vnum_any (vT ⟨#[50]⟩) (i64_small (by decide)) V
      rw [num_two] at h
      exact h
    · intro V
      have h := vnum_any (vB true) (i64_small (by decide)) V
      rw [num_true] at h
      exact h
    · intro K V hK
      exact first_any (vN 2 0) (vN 1 0) K V hK
    · intro V
      have h := add_any 2 0 1 0 (i64_small (by decide)) (i64_small (by decide)) V
      rw [add_three] at h
      exact h
    · intro V
      have h := of_val 3 0 0 (i64_small (by decide)) V
      rw [of_three] at h
      exact h
theorem of_div : ofW 0 0 31 = vX 1 := by simp [ofW]
theorem va_div (w : World) : Calls Tryz.prog 34 #[.int .i64 4, (vN 1 0).v, (vN 0 0).v] w fun r w' => r = .returned (vX 1).v ∧ Below w.heap.size w w' := by
  have r1 : rightB 1 0 = true := by decide
  refine bin_op4 1 1 0 .empty false 0 1 0 0 .empty false 0 1 1 0 .empty false 0 1 0 0 .empty false 0 4 0 0 .empty false 1 ?_ ?_ ?_ ?_ w
  · intro V
    have h := taken_any (vN 1 0) (i64_small (by decide)) V
    rw [clean_of (right_N r1)] at h
    exact h
  · intro V
    have h := taken_any (vN 0 0) (i64_small (by decide)) V
    rw [clean_of (right_N zero_right)] at h
    exact h
  · intro K V hK
    exact first_any (vN 1 0) (vN 0 0) K V hK
  · intro V
    refine reck_ok67 1 1 0 .empty false 0 1 0 0 .empty false 0 1 1 0 .empty false 0 1 0 0 .empty false 0 4 0 0 .empty false 1 0 0 31 ?_ ?_ ?_ ?_ ?_ V
    · intro V
      have h := vnum_any (vN 1 0) (i64_small (by decide)) V
      rw [num_num r1] at h
      exact h
    · intro V
      have h := vnum_any (vN 0 0) (i64_small (by decide)) V
      rw [num_num zero_right] at h
      exact h
    · intro K V hK
      exact first_any (vN 1 0) (vN 0 0) K V hK
    · intro V
      exact div_zero 1 0 0 (i64_small (by decide)) ⟨by decide, by decide⟩ ⟨by decide, by decide⟩ V
    · intro V
      have h := of_val 0 0 31 (i64_small (by decide)) V
      rw [of_div] at h
      exact h
theorem tx_a : textB ⟨#[97]⟩ = true := by kernel_rfl
theorem tx_A : textB ⟨#[65]⟩ = true := by kernel_rfl
theorem tx_12 : textB ⟨#[49, 50]⟩ = true := by kernel_rfl
theorem tx_x : textB ⟨#[120]⟩ = true := by kernel_rfl
theorem va_cmp (w : World) : Calls Tryz.prog 36 #[(vT ⟨#[97]⟩).v, (vT ⟨#[65]⟩).v] w fun r w' => r = .returned (.int .i64 0) ∧ Below w.heap.size w w' := by
  have h := vcmp_any (vT ⟨#[97]⟩) (vT ⟨#[65]⟩) (i64_small (by decide)) (i64_small (by decide)) w
  have e : cmpVV (vT ⟨#[97]⟩) (vT ⟨#[65]⟩) = 0 := by
    unfold cmpVV
    rw [clean_of (right_T tx_a), clean_of (right_T tx_A)]
    kernel_rfl
  rw [e] at h
  exact h
theorem va_typed (w : World) (hE : Env w) : Calls Tryz.prog 30 #[.string ⟨#[39, 49, 50]⟩] w fun r w' => r = .returned (vT ⟨#[49, 50]⟩).v ∧ Below w.heap.size w w' := by
  have h := vtyped_any [39, 49, 50] (by decide) w hE
  have e : typedV [39, 49, 50] = vT ⟨#[49, 50]⟩ := by kernel_rfl
  rw [e] at h
  exact h
theorem va_show (w : World) (hE : Env w) : Calls Tryz.prog 17 #[(vX 6).v] w fun r w' => r = .returned (.string ⟨#[35, 78, 47, 65]⟩) ∧ Below w.heap.size w w' := by
  have h := vshow_any (vX 6) (i64_small (by decide)) w hE
  have e : showV (vX 6) = ⟨#[35, 78, 47, 65]⟩ := by
    unfold showV
    rw [clean_of (right_X (by decide))]
    rfl
  rw [e] at h
  exact h
theorem va_str {s : ByteArray} (h : textB s = true) (w : World) : Calls Tryz.prog 25 #[.string s] w fun r w' => r = .returned (vT s).v ∧ Below w.heap.size w w' := by
  have h1 := str_any s w
  unfold strW at h1
  rw [h] at h1
  exact h1
theorem va_err {x : Int} (h : codeB x = true) (w : World) : Calls Tryz.prog 27 #[.int .i64 x] w fun r w' => r = .returned (vX x).v ∧ Below w.heap.size w w' := by
  have h1 := err_any x w
  unfold errW at h1
  rw [h] at h1
  exact h1
set_option maxRecDepth 100000 in
set_option maxHeartbeats 8000000 in
theorem valive_any (w : World) (hE : Env w) : Calls Tryz.prog 19 #[] w fun r w' => r = .returned (.bool true) ∧ Below w.heap.size w w' := by
  have S1 : ∀ V, Hid (Calls Tryz.prog 25 #[.string ⟨#[50]⟩] V fun r w' => r = .returned (.agg #[.int .i64 2, .int .i64 0, .int .i64 0, .string ⟨#[50]⟩, .bool false, .int .i64 0]) ∧ Below V.heap.size V w') := fun V => va_str tx_two V
  have S2 : ∀ V, Hid (Calls Tryz.prog 32 #[.bool true] V fun r w' => r = .returned (.agg #[.int .i64 3, .int .i64 0, .int .i64 0, .string .empty, .bool true, .int .i64 0]) ∧ Below V.heap.size V w') := fun V => truth_any true V
  have S3 : ∀ V, Hid (Calls Tryz.prog 34 #[.int .i64 1, .agg #[.int .i64 2, .int .i64 0, .int .i64 0, .string ⟨#[50]⟩, .bool false, .int .i64 0], .agg #[.int .i64 3, .int .i64 0, .int .i64 0, .string .empty, .bool true, .int .i64 0]] V fun r w' => r = .returned (.agg #[.int .i64 1, .int .i64 3, .int .i64 0, .string .empty, .bool false, .int .i64 0]) ∧ Below V.heap.size V w') := fun V => va_add V
  have S4 : ∀ V, Hid (Calls Tryz.prog 59 #[.int .i64 3] V fun r w' => r = .returned (.agg #[.int .i64 1, .int .i64 3, .int .i64 0, .string .empty, .bool false, .int .i64 0]) ∧ Below V.heap.size V w') := fun V => lawNum_any 3 V
  have S5 : ∀ V, Hid (Calls Tryz.prog 59 #[.int .i64 1] V fun r w' => r = .returned (.agg #[.int .i64 1, .int .i64 1, .int .i64 0, .string .empty, .bool false, .int .i64 0]) ∧ Below V.heap.size V w') := fun V => lawNum_any 1 V
  have S6 : ∀ V, Hid (Calls Tryz.prog 59 #[.int .i64 0] V fun r w' => r = .returned (.agg #[.int .i64 1, .int .i64 0, .int .i64 0, .string .empty, .bool false, .int .i64 0]) ∧ Below V.heap.size V w') := fun V => lawNum_any 0 V
  have S7 : ∀ V, Hid (Calls Tryz.prog 34 #[.int .i64 4, .agg #[.int .i64 1, .int .i64 1, .int .i64 0, .string .empty, .bool false, .int .i64 0], .agg #[.int .i64 1, .int .i64 0, .int .i64 0, .string .empty, .bool false, .int .i64 0]] V fun r w' => r = .returned (.agg #[.int .i64 4, .int .i64 0, .int .i64 0, .string .empty, .bool false, .int .i64 1]) ∧ Below V.heap.size V w') := fun V => va_div V
  have S8 : ∀ V, Hid (Calls Tryz.prog 27 #[.int .i64 1] V fun r w' => r = .returned (.agg #[.int .i64 4, .int .i64 0, .int .i64 0, .string .empty, .bool false, .int .i64 1]) ∧ Below V.heap.size V w') := fun V => va_err (by decide) V
  have S9 : ∀ V, Hid (Calls Tryz.prog 25 #[.string ⟨#[97]⟩] V fun r w' => r = .returned (.agg #[.int .i64 2, .int .i64 0, .int .i64 0, .string ⟨#[97]⟩, .bool false, .int .i64 0]) ∧ Below V.heap.size V w') := fun V => va_str tx_a V
  have S10 : ∀ V, Hid (Calls Tryz.prog 25 #[.string ⟨#[65]⟩] V fun r w' => r = .returned (.agg #[.int .i64 2, .int .i64 0, .int .i64 0, .string ⟨#[65]⟩, .bool false, .int .i64 0]) ∧ Below V.heap.size V w') := fun V => va_str tx_A V
  have S11 : ∀ V, Hid (Calls Tryz.prog 36 #[.agg #[.int .i64 2, .int .i64 0, .int .i64 0, .string ⟨#[97]⟩, .bool false, .int .i64 0], .agg #[.int .i64 2, .int .i64 0, .int .i64 0, .string ⟨#[65]⟩, .bool false, .int .i64 0]] V fun r w' => r = .returned (.int .i64 0) ∧ Below V.heap.size V w') := fun V => va_cmp V
  have S12 : ∀ V, Env V → Hid (Calls Tryz.prog 30 #[.string ⟨#[39, 49, 50]⟩] V fun r w' => r = .returned (.agg #[.int .i64 2, .int .i64 0, .int .i64 0, .string ⟨#[49, 50]⟩, .bool false, .int .i64 0]) ∧ Below V.heap.size V w') := fun V hV => va_typed V hV
  have S13 : ∀ V, Hid (Calls Tryz.prog 25 #[.string ⟨#[49, 50]⟩] V fun r w' => r = .returned (.agg #[.int .i64 2, .int .i64 0, .int .i64 0, .string ⟨#[49, 50]⟩, .bool false, .int .i64 0]) ∧ Below V.heap.size V w') := fun V => va_str tx_12 V
  have S14 : ∀ V, Hid (Calls Tryz.prog 25 #[.string ⟨#[120]⟩] V fun r w' => r = .returned (.agg #[.int .i64 2, .int .i64 0, .int .i64 0, .string ⟨#[120]⟩, .bool false, .int .i64 0]) ∧ Below V.heap.size V w') := fun V => va_str tx_x V
  have S15 : ∀ V, Hid (Calls Tryz.prog 27 #[.int .i64 6] V fun r w' => r = .returned (.agg #[.int .i64 4, .int .i64 0, .int .i64 0, .string .empty, .bool false, .int .i64 6]) ∧ Below V.heap.size V w') := fun V => va_err (by decide) V
  have S16 : ∀ V, Env V → Hid (Calls Tryz.prog 17 #[.agg #[.int .i64 4, .int .i64 0, .int .i64 0, .string .empty, .bool false, .int .i64 6]] V fun r w' => r = .returned (.string ⟨#[35, 78, 47, 65]⟩) ∧ Below V.heap.size V w') := fun V hV => va_show V hV
  have hf := field25 2 0 0 0 ⟨#[120]⟩ false
  have l0 := Below.refl w.heap.size w
  go_enter Tryz.func19, Tryz.ntmps19
  go_wp2_with fail
  refine Calls.mono (S1 _).out ?_
  rintro _ w1 ⟨rfl, b1⟩
  have l1 := l0.trans (b1.mono l0.size)
  clear b1 S1
  go_wp2_with fail
  refine Calls.mono (S2 _).out ?_
  rintro _ w2 ⟨rfl, b2⟩
  have l2 := l1.trans (b2.mono l1.size)
  clear b2 S2
  go_wp2_with fail
  refine Calls.mono (S3 _).out ?_
  rintro _ w3 ⟨rfl, b3⟩
  have l3 := l2.trans (b3.mono l2.size)
  clear b3 S3
  go_wp2_with fail
  refine Calls.mono (S4 _).out ?_
  rintro _ w4 ⟨rfl, b4⟩
  have l4 := l3.trans (b4.mono l3.size)
  clear b4 S4
  go_wp2_with fail
  refine Calls.mono (S5 _).out ?_
  rintro _ w5 ⟨rfl, b5⟩
  have l5 := l4.trans (b5.mono l4.size)
  clear b5 S5
  go_wp2_with fail
  refine Calls.mono (S6 _).out ?_
  rintro _ w6 ⟨rfl, b6⟩
  have l6 := l5.trans (b6.mono l5.size)
  clear b6 S6
  go_wp2_with fail
  refine Calls.mono (S7 _).out ?_
  rintro _ w7 ⟨rfl, b7⟩
  have l7 := l6.trans (b7.mono l6.size)
  clear b7 S7
  go_wp2_with fail
  refine Calls.mono (S8 _).out ?_
  rintro _ w8 ⟨rfl, b8⟩
  have l8 := l7.trans (b8.mono l7.size)
  clear b8 S8
  go_wp2_with fail
  refine Calls.mono (S9 _).out ?_
  rintro _ w9 ⟨rfl, b9⟩
  have l9 := l8.trans (b9.mono l8.size)
  clear b9 S9
  go_wp2_with fail
  refine Calls.mono (S10 _).out ?_
  rintro _ w10 ⟨rfl, b10⟩
  have l10 := l9.trans (b10.mono l9.size)
  clear b10 S10
  go_wp2_with fail
  refine Calls.mono (S11 _).out ?_
  rintro _ w11 ⟨rfl, b11⟩
  have l11 := l10.trans (b11.mono l10.size)
  clear b11 S11
  go_wp2_with fail
  refine Calls.mono (S12 _ (hE.next l11)).out ?_
  rintro _ w12 ⟨rfl, b12⟩
  have l12 := l11.trans (b12.mono l11.size)
  clear b12 S12
  go_wp2_with fail
  refine Calls.mono (S13 _).out ?_
  rintro _ w13 ⟨rfl, b13⟩
  have l13 := l12.trans (b13.mono l12.size)
  clear b13 S13
  go_wp2_with fail
  refine Calls.mono (S14 _).out ?_
  rintro _ w14 ⟨rfl, b14⟩
  have l14 := l13.trans (b14.mono l13.size)
  clear b14 S14
  go_wp2_with fail
  refine Calls.mono (S15 _).out ?_
  rintro _ w15 ⟨rfl, b15⟩
  have l15 := l14.trans (b15.mono l14.size)
  clear b15 S15
  go_wp2_with fail
  refine Calls.mono (S16 _ (hE.next l15)).out ?_
  rintro _ w16 ⟨rfl, b16⟩
  have l16 := l15.trans (b16.mono l15.size)
  clear b16 S16
  go_wp2
  go_ret
  exact ⟨rfl, l16⟩
end Go.Proofs.YtnhflnpjepiceaaGreatDoor
/- val: an order (pure), for ValOrder. -/
namespace Go.Proofs.YtnhflnpjepiceaaGreatDoor
open Go.RowKit

theorem bl_cons (x y : UInt8) (a b : List UInt8) : Op.bytesLess (x :: a) (y :: b) = true ↔ x.toNat < y.toNat ∨ (x.toNat = y.toNat ∧ Op.bytesLess a b = true) := by
  conv => lhs; unfold Op.bytesLess
  simp only [Bool.or_eq_true, Bool.and_eq_true, decide_eq_true_eq, beq_iff_eq, UInt8.lt_iff_toNat_lt, ← UInt8.toNat_inj]
theorem bl_irr : ∀ l : List UInt8, Op.bytesLess l l = false
  | [] => rfl
  | a :: l => by
    unfold Op.bytesLess
    simp [bl_irr l]
theorem bl_tri : ∀ a b : List UInt8, Op.bytesLess a b = true ∨ a = b ∨ Op.bytesLess b a = true
  | [], [] => .inr (.inl rfl)
  | [], _ :: _ => .inl rfl
  | _ :: _, [] => .inr (.inr rfl)
  | x :: a, y :: b => by
    rw [bl_cons, bl_cons]
    rcases Nat.lt_trichotomy x.toNat y.toNat with h | h | h
    · exact .inl (.inl h)
    · rcases bl_tri a b with k | k | k
      · exact .inl (.inr ⟨h, k⟩)
      · exact .inr (.inl (by rw [UInt8.toNat_inj.1 h, k]))
      · exact .inr (.inr (.inr ⟨h.symm, k⟩))
    · exact .inr (.inr (.inl h))
theorem bl_trans : ∀ a b c : List UInt8, Op.bytesLess a b = true → Op.bytesLess b c = true → Op.bytesLess a c = true
  | [], [], _ => fun h _ => by cases h
  | [], _ :: _, [] => fun _ h => by cases h
  | [], _ :: _, _ :: _ => fun _ _ => rfl
  | _ :: _, [], _ => fun h _ => by cases h
  | _ :: _, _ :: _, [] => fun _ h => by cases h
  | x :: a, y :: b, z :: c => fun h1 h2 => by
    rw [bl_cons] at h1 h2 ⊢
    rcases h1 with h1 | ⟨h1, k1⟩
    · rcases h2 with h2 | ⟨h2, k2⟩
      · exact .inl (by omega)
      · exact .inl (by omega)
    · rcases h2 with h2 | ⟨h2, k2⟩
      · exact .inl (by omega)
      · exact .inr ⟨by omega, bl_trans a b c k1 k2⟩
theorem bl_asym {a b : List UInt8} (h : Op.bytesLess a b = true) : Op.bytesLess b a = false := by
  cases h2 : Op.bytesLess b a with
  | false => rfl
  | true =>
    have := bl_trans a b a h h2
    rw [bl_irr] at this
    cases this
/-- A value's place in the order: its kind, its text, its number. -/
def cmp3 (k k' : Int) (t t' : List UInt8) (n n' : Int) : Int := if k < k' then -1 else if k' < k then 1 else if Op.bytesLess t t' then -1 else if Op.bytesLess t' t then 1 else (n - n').sign
theorem sgn3 (n : Int) : (n < 0 ∧ n.sign = -1) ∨ (n = 0 ∧ n.sign = 0) ∨ (0 < n ∧ n.sign = 1) := by
  rcases Int.lt_trichotomy n 0 with h | h | h
  · exact .inl ⟨h, Int.sign_eq_neg_one_of_neg h⟩
  · exact .inr (.inl ⟨h, by rw [h]; rfl⟩)
  · exact .inr (.inr ⟨h, Int.sign_eq_one_of_pos h⟩)
theorem cmp3_bd (k k' : Int) (t t' : List UInt8) (n n' : Int) : -1 ≤ cmp3 k k' t t' n n' ∧ cmp3 k k' t t' n n' ≤ 1 := by
  unfold cmp3
  have := sgn3 (n - n')
  repeat' split
  all_goals omega
theorem cmp3_anti (k k' : Int) (t t' : List UInt8) (n n' : Int) : cmp3 k' k t' t n' n = -cmp3 k k' t t' n n' := by
  unfold cmp3
  have h1 := sgn3 (n - n')
  have h2 := sgn3 (n' - n)
  by_cases a1 : k < k'
  · rw [if_neg (by omega), if_pos a1, if_pos a1]; rfl
  · by_cases a2 : k' < k
    · rw [if_pos a2, if_neg a1, if_pos a2]
    · rw [if_neg a2, if_neg a1, if_neg a1, if_neg a2]
      by_cases b1 : Op.bytesLess t t' = true
      · rw [if_neg (by rw [bl_asym b1]; simp), if_pos b1, if_pos b1]; rfl
      · by_cases b2 : Op.bytesLess t' t = true
        · rw [if_pos b2, if_neg b1, if_pos b2]
        · rw [if_neg b2, if_neg b1, if_neg b1, if_neg b2]
          omega
theorem cmp3_self (k : Int) (t : List UInt8) (n : Int) : cmp3 k k t t n n = 0 := by
  unfold cmp3
  rw [if_neg (by omega), if_neg (by omega), bl_irr, if_neg (by simp), if_neg (by simp), Int.sub_self]
  rfl
/-- The order's first half: it says no more than 0 where one does not stand behind the other. -/
theorem cmp3_le (k k' : Int) (t t' : List UInt8) (n n' : Int) : cmp3 k k' t t' n n' ≤ 0 ↔ k < k' ∨ (k = k' ∧ (Op.bytesLess t t' = true ∨ (t = t' ∧ n ≤ n'))) := by
  unfold cmp3
  have hs := sgn3 (n - n')
  by_cases a1 : k < k'
  · rw [if_pos a1]; exact ⟨fun _ => .inl a1, fun _ => by decide⟩
  · by_cases a2 : k' < k
    · rw [if_neg a1, if_pos a2]
      exact ⟨fun h => absurd h (by decide), fun h => by omega⟩
    · rw [if_neg a1, if_neg a2]
      have ke : k = k' := by omega
      rcases bl_tri t t' with b | b | b
      · rw [if_pos b]; exact ⟨fun _ => .inr ⟨ke, .inl b⟩, fun _ => by decide⟩
      · subst b
        rw [bl_irr, if_neg (by simp), if_neg (by simp)]
        constructor
        · intro h; exact .inr ⟨ke, .inr ⟨rfl, by omega⟩⟩
        · rintro (h | ⟨_, h | ⟨_, h⟩⟩)
          · omega
          · cases h
          · omega
      · rw [if_neg (by rw [bl_asym b]; simp), if_pos b]
        refine ⟨fun h => absurd h (by decide), ?_⟩
        rintro (h | ⟨_, h | ⟨h, _⟩⟩)
        · omega
        · rw [bl_asym b] at h; cases h
        · subst h; rw [bl_irr] at b; cases b
theorem cmp3_trans {k k' k2 : Int} {t t' t2 : List UInt8} {n n' n2 : Int} (h1 : cmp3 k k' t t' n n' ≤ 0) (h2 : cmp3 k' k2 t' t2 n' n2 ≤ 0) : cmp3 k k2 t t2 n n2 ≤ 0 := by
  rw [cmp3_le] at *
  rcases h1 with h1 | ⟨h1, h3⟩
  · exact .inl (by omega)
  · rcases h2 with h2 | ⟨h2, h4⟩
    · exact .inl (by omega)
    · refine .inr ⟨by omega, ?_⟩
      rcases h3 with h3 | ⟨rfl, h3⟩
      · rcases h4 with h4 | ⟨rfl, h4⟩
        · exact .inl (bl_trans _ _ _ h3 h4)
        · exact .inl h3
      · rcases h4 with h4 | ⟨rfl, h4⟩
        · exact .inl h4
        · exact .inr ⟨rfl, by omega⟩
/-- A value's text and number in the order. -/
def keyT (v : Vl) : List UInt8 := if v.k = 2 then (loS v.s).toList else []
def keyN (v : Vl) : Int := if v.k = 1 then V (-18) v.c v.e else if v.k = 3 then (if v.b then V (-18) 1 0 else V (-18) 0 0) else 0
/-- Values of which the order speaks. -/
def Plain (v : Vl) : Prop := rightV v = true ∧ ¬ v.k = 4 ∧ ¬ v.k = 0
theorem cmpS_key (a b : ByteArray) (k : Int) : cmpS a b = cmp3 k k a.toList b.toList 0 0 := by
  unfold cmpS cmp3
  rw [if_neg (Int.lt_irrefl k), if_neg (Int.lt_irrefl k)]
  rcases bl_tri a.toList b.toList with h | h | h
  · rw [if_pos h, if_pos h]
  · rw [h, bl_irr]; simp
  · have h1 := bl_asym h
    have h2 : a.toList ≠ b.toList := fun e => by rw [e, bl_irr] at h; cases h
    rw [h1, h]
    simp [h2]
theorem plain_cmp {a b : Vl} (ha : Plain a) (hb : Plain b) : cmpVV a b = cmp3 a.k b.k (keyT a) (keyT b) (keyN a) (keyN b) := by
  obtain ⟨ra, a4, a0⟩ := ha
  obtain ⟨rb, b4, b0⟩ := hb
  unfold cmpVV
  rw [clean_of ra, clean_of rb]
  have hf : (ferr a b).2 = false := by unfold ferr; rw [if_neg a4, if_neg b4]
  rw [hf, if_neg (by simp)]
  have fe1 : filledV a b = a := if_neg a0
  have fe2 : filledV b a = b := if_neg b0
  rw [fe1, fe2]
  clear fe1 fe2
  unfold cmpK
  by_cases hk : (a.k != b.k) = true
  · rw [if_pos hk]
    have hk' : a.k ≠ b.k := by simpa using hk
    unfold Lib.compareInt cmp3
    by_cases h1 : a.k < b.k
    · rw [if_pos h1, if_pos h1]
    · rw [if_neg h1, if_neg h1, if_pos (show a.k > b.k by omega), if_pos (by omega)]
  · rw [if_neg hk]
    have hk' : a.k = b.k := by simpa using hk
    rcases right_cases ra with rfl | ⟨c, e, rfl, hr⟩ | ⟨s, rfl, hr⟩ | ⟨x, rfl⟩ | ⟨x, rfl, hr⟩
    · exact absurd rfl a0
    · rcases right_cases rb with rfl | ⟨c2, e2, rfl, hr2⟩ | ⟨s2, rfl, hr2⟩ | ⟨x2, rfl⟩ | ⟨x2, rfl, hr2⟩
      · cases hk'
      · have w1 := right_within hr
        have w2 := right_within hr2
        show decI c e c2 e2 = cmp3 1 1 [] [] (V (-18) c e) (V (-18) c2 e2)
        unfold decI
        rw [if_pos ⟨w1, w2⟩]
        rfl
      · cases hk'
      · cases hk'
      · cases hk'
    · rcases right_cases rb with rfl | ⟨c2, e2, rfl, hr2⟩ | ⟨s2, rfl, hr2⟩ | ⟨x2, rfl⟩ | ⟨x2, rfl, hr2⟩
      · cases hk'
      · cases hk'
      · exact cmpS_key _ _ 2
      · cases hk'
      · cases hk'
    · rcases right_cases rb with rfl | ⟨c2, e2, rfl, hr2⟩ | ⟨s2, rfl, hr2⟩ | ⟨x2, rfl⟩ | ⟨x2, rfl, hr2⟩
      · cases hk'
      · cases hk'
      · cases hk'
      · have m : ∀ b : Bool, numV (vB b) = vN (if b then 1 else 0) 0 := fun b => by
          unfold numV
          rw [clean_of (right_B b)]
          cases b <;> rfl
        show decI (numV (vB x)).c (numV (vB x)).e (numV (vB x2)).c (numV (vB x2)).e = cmp3 3 3 [] [] (if x then V (-18) 1 0 else V (-18) 0 0) (if x2 then V (-18) 1 0 else V (-18) 0 0)
        rw [m x, m x2]
        cases x <;> cases x2 <;> rfl
      · cases hk'
    · exact absurd rfl a4
/-- What ValOrder asks. -/
theorem plain_order {a b c : Vl} (ha : Plain a) (hb : Plain b) (hc : Plain c) :
    (-1 ≤ cmpVV a b ∧ cmpVV a b ≤ 1) ∧ cmpVV b a = -cmpVV a b ∧ cmpVV a a = 0 ∧ (cmpVV a b ≤ 0 → cmpVV b c ≤ 0 → cmpVV a c ≤ 0) ∧ (cmpVV a b = 0 → cmpVV b c = 0 → cmpVV a c = 0) := by
  rw [plain_cmp ha hb, plain_cmp hb ha, plain_cmp ha ha, plain_cmp hb hc, plain_cmp ha hc]
  refine ⟨cmp3_bd _ _ _ _ _ _, cmp3_anti _ _ _ _ _ _, cmp3_self _ _ _, fun h1 h2 => cmp3_trans h1 h2, fun h1 h2 => ?_⟩
  have t1 := cmp3_trans (Int.le_of_eq h1) (Int.le_of_eq h2)
  have h1' : cmp3 b.k a.k (keyT b) (keyT a) (keyN b) (keyN a) ≤ 0 := by rw [cmp3_anti]; omega
  have h2' : cmp3 c.k b.k (keyT c) (keyT b) (keyN c) (keyN b) ≤ 0 := by rw [cmp3_anti]; omega
  have t2 := cmp3_trans h2' h1'
  rw [cmp3_anti] at t2
  omega
end Go.Proofs.YtnhflnpjepiceaaGreatDoor
/- val: ValOrder's law. -/
namespace Go.Proofs.YtnhflnpjepiceaaGreatDoor
open Go.RowKit

def oddB (v : Vl) : Bool := !rightV v || (v.k == 4 || v.k == 0)
set_option maxRecDepth 100000 in
set_option maxHeartbeats 2000000 in
theorem odd_any (v : Vl) (hc : I64 v.c) (w : World) : Calls Tryz.prog 42 #[v.v] w fun r w' => r = .returned (.bool (oddB v)) ∧ Below w.heap.size w w' := by
  have HR : ∀ V, Hid (Calls Tryz.prog 9 #[v.v] V fun r w' => r = .returned (.bool (rightV v)) ∧ Below V.heap.size V w') := fun V => vright_any v hc V
  unfold oddB
  obtain ⟨R, hR⟩ : ∃ R, rightV v = R := ⟨_, rfl⟩
  rw [hR] at HR ⊢
  clear hR hc
  obtain ⟨k, c, e, s, b, x⟩ := v
  unfold Vl.v Vl.cells at *
  simp only at HR ⊢
  have h0 := R1.start w #[.int .i64 k, .int .i64 c, .int .i64 e, .string s, .bool b, .int .i64 x]
  cases R
  · go_enter Tryz.func42, Tryz.ntmps42
    go_wp2_with fail
    refine Calls.mono (HR _).out ?_
    rintro _ w1 ⟨rfl, b1⟩
    have h1 := h0.next b1
    clear h0 b1 HR
    go_wp2
    go_ret
    exact ⟨rfl, h1.2⟩
  · cases h4 : (k == 4) with
    | true =>
      go_enter Tryz.func42, Tryz.ntmps42
      go_wp2_with fail
      refine Calls.mono (HR _).out ?_
      rintro _ w1 ⟨rfl, b1⟩
      have h1 := h0.next b1
      obtain ⟨m0, m1, m2, m3, m4, m5⟩ := h1.1.six
      clear h0 b1 HR
      go_wp2
      go_ret
      exact ⟨rfl, h1.2⟩
    | false =>
      cases h5 : (k == 0) with
      | true =>
        go_enter Tryz.func42, Tryz.ntmps42
        go_wp2_with fail
        refine Calls.mono (HR _).out ?_
        rintro _ w1 ⟨rfl, b1⟩
        have h1 := h0.next b1
        obtain ⟨m0, m1, m2, m3, m4, m5⟩ := h1.1.six
        clear h0 b1 HR
        go_wp2
        go_ret
        exact ⟨rfl, h1.2⟩
      | false =>
        go_enter Tryz.func42, Tryz.ntmps42
        go_wp2_with fail
        refine Calls.mono (HR _).out ?_
        rintro _ w1 ⟨rfl, b1⟩
        have h1 := h0.next b1
        obtain ⟨m0, m1, m2, m3, m4, m5⟩ := h1.1.six
        clear h0 b1 HR
        go_wp2
        go_ret
        exact ⟨rfl, h1.2⟩
theorem odd_plain {v : Vl} (h : oddB v = false) : Plain v := by
  unfold oddB at h
  simp at h
  exact ⟨h.1, h.2.1, h.2.2⟩
set_option maxRecDepth 100000 in
set_option maxHeartbeats 8000000 in
theorem order_odd1 (kA cA eA : Int) (sA : ByteArray) (bA : Bool) (xA : Int) (kB cB eB : Int) (sB : ByteArray) (bB : Bool) (xB : Int) (kC cC eC : Int) (sC : ByteArray) (bC : Bool) (xC : Int)
    (OA : ∀ V, Hid (Calls Tryz.prog 42 #[.agg #[.int .i64 kA, .int .i64 cA, .int .i64 eA, .string sA, .bool bA, .int .i64 xA]] V fun r w' => r = .returned (.bool true) ∧ Below V.heap.size V w'))
    (HL : ∀ V, Env V → Hid (Calls Tryz.prog 19 #[] V fun r w' => r = .returned (.bool true) ∧ Below V.heap.size V w')) (w : World) (hE : Env w) :
    Calls Tryz.prog 7 #[.agg #[.int .i64 kA, .int .i64 cA, .int .i64 eA, .string sA, .bool bA, .int .i64 xA], .agg #[.int .i64 kB, .int .i64 cB, .int .i64 eB, .string sB, .bool bB, .int .i64 xB], .agg #[.int .i64 kC, .int .i64 cC, .int .i64 eC, .string sC, .bool bC, .int .i64 xC]] w fun r w' => r = .returned (.bool true) ∧ Below w.heap.size w w' := by
  have h0 := P3.start w #[.int .i64 kA, .int .i64 cA, .int .i64 eA, .string sA, .bool bA, .int .i64 xA] #[.int .i64 kB, .int .i64 cB, .int .i64 eB, .string sB, .bool bB, .int .i64 xB] #[.int .i64 kC, .int .i64 cC, .int .i64 eC, .string sC, .bool bC, .int .i64 xC]
  go_enter Tryz.func7, Tryz.ntmps7
  go_upto_region 1 with fail
  generalize ((w.alloc (.cells #[.int .i64 kA, .int .i64 cA, .int .i64 eA, .string sA, .bool bA, .int .i64 xA] 25)).alloc (.cells #[.int .i64 kB, .int .i64 cB, .int .i64 eB, .string sB, .bool bB, .int .i64 xB] 25)).alloc (.cells #[.int .i64 kC, .int .i64 cC, .int .i64 eC, .string sC, .bool bC, .int .i64 xC] 25) = W at *
  obtain ⟨a0, a1, a2, a3, a4, a5⟩ := h0.1.six
  go_wp2_with fail
  refine Calls.mono (OA _).out ?_
  rintro _ w1 ⟨rfl, b1⟩
  have h1 := h0.next b1
  clear b1 h0 a0 a1 a2 a3 a4 a5 OA
  go_wp2_with fail
  refine Calls.mono (HL _ (hE.next h1.2.2.2)).out ?_
  rintro _ w9 ⟨rfl, b9⟩
  have h9 := h1.next b9
  go_wp2
  go_ret
  exact ⟨rfl, h9.2.2.2⟩
set_option maxRecDepth 100000 in
set_option maxHeartbeats 8000000 in
theorem order_odd2 (kA cA eA : Int) (sA : ByteArray) (bA : Bool) (xA : Int) (kB cB eB : Int) (sB : ByteArray) (bB : Bool) (xB : Int) (kC cC eC : Int) (sC : ByteArray) (bC : Bool) (xC : Int)
    (OA : ∀ V, Hid (Calls Tryz.prog 42 #[.agg #[.int .i64 kA, .int .i64 cA, .int .i64 eA, .string sA, .bool bA, .int .i64 xA]] V fun r w' => r = .returned (.bool false) ∧ Below V.heap.size V w')) (OB : ∀ V, Hid (Calls Tryz.prog 42 #[.agg #[.int .i64 kB, .int .i64 cB, .int .i64 eB, .string sB, .bool bB, .int .i64 xB]] V fun r w' => r = .returned (.bool true) ∧ Below V.heap.size V w'))
    (HL : ∀ V, Env V → Hid (Calls Tryz.prog 19 #[] V fun r w' => r = .returned (.bool true) ∧ Below V.heap.size V w')) (w : World) (hE : Env w) :
    Calls Tryz.prog 7 #[.agg #[.int .i64 kA, .int .i64 cA, .int .i64 eA, .string sA, .bool bA, .int .i64 xA], .agg #[.int .i64 kB, .int .i64 cB, .int .i64 eB, .string sB, .bool bB, .int .i64 xB], .agg #[.int .i64 kC, .int .i64 cC, .int .i64 eC, .string sC, .bool bC, .int .i64 xC]] w fun r w' => r = .returned (.bool true) ∧ Below w.heap.size w w' := by
  have h0 := P3.start w #[.int .i64 kA, .int .i64 cA, .int .i64 eA, .string sA, .bool bA, .int .i64 xA] #[.int .i64 kB, .int .i64 cB, .int .i64 eB, .string sB, .bool bB, .int .i64 xB] #[.int .i64 kC, .int .i64 cC, .int .i64 eC, .string sC, .bool bC, .int .i64 xC]
  go_enter Tryz.func7, Tryz.ntmps7
  go_upto_region 1 with fail
  generalize ((w.alloc (.cells #[.int .i64 kA, .int .i64 cA, .int .i64 eA, .string sA, .bool bA, .int .i64 xA] 25)).alloc (.cells #[.int .i64 kB, .int .i64 cB, .int .i64 eB, .string sB, .bool bB, .int .i64 xB] 25)).alloc (.cells #[.int .i64 kC, .int .i64 cC, .int .i64 eC, .string sC, .bool bC, .int .i64 xC] 25) = W at *
  obtain ⟨a0, a1, a2, a3, a4, a5⟩ := h0.1.six
  go_wp2_with fail
  refine Calls.mono (OA _).out ?_
  rintro _ w1 ⟨rfl, b1⟩
  have h1 := h0.next b1
  clear b1 h0 a0 a1 a2 a3 a4 a5 OA
  obtain ⟨a0, a1, a2, a3, a4, a5⟩ := h1.2.1.six
  go_wp2_with fail
  refine Calls.mono (OB _).out ?_
  rintro _ w2 ⟨rfl, b2⟩
  have h2 := h1.next b2
  clear b2 h1 a0 a1 a2 a3 a4 a5 OB
  go_wp2_with fail
  refine Calls.mono (HL _ (hE.next h2.2.2.2)).out ?_
  rintro _ w9 ⟨rfl, b9⟩
  have h9 := h2.next b9
  go_wp2
  go_ret
  exact ⟨rfl, h9.2.2.2⟩
set_option maxRecDepth 100000 in
set_option maxHeartbeats 8000000 in
theorem order_odd3 (kA cA eA : Int) (sA : ByteArray) (bA : Bool) (xA : Int) (kB cB eB : Int) (sB : ByteArray) (bB : Bool) (xB : Int) (kC cC eC : Int) (sC : ByteArray) (bC : Bool) (xC : Int)
    (OA : ∀ V, Hid (Calls Tryz.prog 42 #[.agg #[.int .i64 kA, .int .i64 cA, .int .i64 eA, .string sA, .bool bA, .int .i64 xA]] V fun r w' => r = .returned (.bool false) ∧ Below V.heap.size V w')) (OB : ∀ V, Hid (Calls Tryz.prog 42 #[.agg #[.int .i64 kB, .int .i64 cB, .int .i64 eB, .string sB, .bool bB, .int .i64 xB]] V fun r w' => r = .returned (.bool false) ∧ Below V.heap.size V w')) (OC : ∀ V, Hid (Calls Tryz.prog 42 #[.agg #[.int .i64 kC, .int .i64 cC, .int .i64 eC, .string sC, .bool bC, .int .i64 xC]] V fun r w' => r = .returned (.bool true) ∧ Below V.heap.size V w'))
    (HL : ∀ V, Env V → Hid (Calls Tryz.prog 19 #[] V fun r w' => r = .returned (.bool true) ∧ Below V.heap.size V w')) (w : World) (hE : Env w) :
    Calls Tryz.prog 7 #[.agg #[.int .i64 kA, .int .i64 cA, .int .i64 eA, .string sA, .bool bA, .int .i64 xA], .agg #[.int .i64 kB, .int .i64 cB, .int .i64 eB, .string sB, .bool bB, .int .i64 xB], .agg #[.int .i64 kC, .int .i64 cC, .int .i64 eC, .string sC, .bool bC, .int .i64 xC]] w fun r w' => r = .returned (.bool true) ∧ Below w.heap.size w w' := by
  have h0 := P3.start w #[.int .i64 kA, .int .i64 cA, .int .i64 eA, .string sA, .bool bA, .int .i64 xA] #[.int .i64 kB, .int .i64 cB, .int .i64 eB, .string sB, .bool bB, .int .i64 xB] #[.int .i64 kC, .int .i64 cC, .int .i64 eC, .string sC, .bool bC, .int .i64 xC]
  go_enter Tryz.func7, Tryz.ntmps7
  go_upto_region 1 with fail
  generalize ((w.alloc (.cells #[.int .i64 kA, .int .i64 cA, .int .i64 eA, .string sA, .bool bA, .int .i64 xA] 25)).alloc (.cells #[.int .i64 kB, .int .i64 cB, .int .i64 eB, .string sB, .bool bB, .int .i64 xB] 25)).alloc (.cells #[.int .i64 kC, .int .i64 cC, .int .i64 eC, .string sC, .bool bC, .int .i64 xC] 25) = W at *
  obtain ⟨a0, a1, a2, a3, a4, a5⟩ := h0.1.six
  go_wp2_with fail
  refine Calls.mono (OA _).out ?_
  rintro _ w1 ⟨rfl, b1⟩
  have h1 := h0.next b1
  clear b1 h0 a0 a1 a2 a3 a4 a5 OA
  obtain ⟨a0, a1, a2, a3, a4, a5⟩ := h1.2.1.six
  go_wp2_with fail
  refine Calls.mono (OB _).out ?_
  rintro _ w2 ⟨rfl, b2⟩
  have h2 := h1.next b2
  clear b2 h1 a0 a1 a2 a3 a4 a5 OB
  obtain ⟨a0, a1, a2, a3, a4, a5⟩ := h2.2.2.1.six
  go_wp2_with fail
  refine Calls.mono (OC _).out ?_
  rintro _ w3 ⟨rfl, b3⟩
  have h3 := h2.next b3
  clear b3 h2 a0 a1 a2 a3 a4 a5 OC
  go_wp2_with fail
  refine Calls.mono (HL _ (hE.next h3.2.2.2)).out ?_
  rintro _ w9 ⟨rfl, b9⟩
  have h9 := h3.next b9
  go_wp2
  go_ret
  exact ⟨rfl, h9.2.2.2⟩
end Go.Proofs.YtnhflnpjepiceaaGreatDoor
/- val: ValOrder's law, one way. -/
namespace Go.Proofs.YtnhflnpjepiceaaGreatDoor
open Go.RowKit

set_option maxRecDepth 100000 in
set_option maxHeartbeats 8000000 in
theorem order_A (kA cA eA : Int) (sA : ByteArray) (bA : Bool) (xA : Int) (kB cB eB : Int) (sB : ByteArray) (bB : Bool) (xB : Int) (kC cC eC : Int) (sC : ByteArray) (bC : Bool) (xC : Int) (x y z : Int)
    (OA : ∀ V, Hid (Calls Tryz.prog 42 #[.agg #[.int .i64 kA, .int .i64 cA, .int .i64 eA, .string sA, .bool bA, .int .i64 xA]] V fun r w' => r = .returned (.bool false) ∧ Below V.heap.size V w')) (OB : ∀ V, Hid (Calls Tryz.prog 42 #[.agg #[.int .i64 kB, .int .i64 cB, .int .i64 eB, .string sB, .bool bB, .int .i64 xB]] V fun r w' => r = .returned (.bool false) ∧ Below V.heap.size V w')) (OC : ∀ V, Hid (Calls Tryz.prog 42 #[.agg #[.int .i64 kC, .int .i64 cC, .int .i64 eC, .string sC, .bool bC, .int .i64 xC]] V fun r w' => r = .returned (.bool false) ∧ Below V.heap.size V w'))
    (CA : ∀ V, Hid (Calls Tryz.prog 36 #[.agg #[.int .i64 kA, .int .i64 cA, .int .i64 eA, .string sA, .bool bA, .int .i64 xA], .agg #[.int .i64 kB, .int .i64 cB, .int .i64 eB, .string sB, .bool bB, .int .i64 xB]] V fun r w' => r = .returned (.int .i64 x) ∧ Below V.heap.size V w')) (CB : ∀ V, Hid (Calls Tryz.prog 36 #[.agg #[.int .i64 kB, .int .i64 cB, .int .i64 eB, .string sB, .bool bB, .int .i64 xB], .agg #[.int .i64 kC, .int .i64 cC, .int .i64 eC, .string sC, .bool bC, .int .i64 xC]] V fun r w' => r = .returned (.int .i64 y) ∧ Below V.heap.size V w')) (CC : ∀ V, Hid (Calls Tryz.prog 36 #[.agg #[.int .i64 kA, .int .i64 cA, .int .i64 eA, .string sA, .bool bA, .int .i64 xA], .agg #[.int .i64 kC, .int .i64 cC, .int .i64 eC, .string sC, .bool bC, .int .i64 xC]] V fun r w' => r = .returned (.int .i64 z) ∧ Below V.heap.size V w')) (CD : ∀ V, Hid (Calls Tryz.prog 36 #[.agg #[.int .i64 kB, .int .i64 cB, .int .i64 eB, .string sB, .bool bB, .int .i64 xB], .agg #[.int .i64 kA, .int .i64 cA, .int .i64 eA, .string sA, .bool bA, .int .i64 xA]] V fun r w' => r = .returned (.int .i64 (-x)) ∧ Below V.heap.size V w')) (CE : ∀ V, Hid (Calls Tryz.prog 36 #[.agg #[.int .i64 kA, .int .i64 cA, .int .i64 eA, .string sA, .bool bA, .int .i64 xA], .agg #[.int .i64 kA, .int .i64 cA, .int .i64 eA, .string sA, .bool bA, .int .i64 xA]] V fun r w' => r = .returned (.int .i64 0) ∧ Below V.heap.size V w')) (hw : wrap64 (-x) = -x) (f1 : decide (x ≤ 0) = false) (f2 : (x == 0) = false)
    (HL : ∀ V, Env V → Hid (Calls Tryz.prog 19 #[] V fun r w' => r = .returned (.bool true) ∧ Below V.heap.size V w')) (w : World) (hE : Env w) :
    Calls Tryz.prog 7 #[.agg #[.int .i64 kA, .int .i64 cA, .int .i64 eA, .string sA, .bool bA, .int .i64 xA], .agg #[.int .i64 kB, .int .i64 cB, .int .i64 eB, .string sB, .bool bB, .int .i64 xB], .agg #[.int .i64 kC, .int .i64 cC, .int .i64 eC, .string sC, .bool bC, .int .i64 xC]] w fun r w' => r = .returned (.bool true) ∧ Below w.heap.size w w' := by
  have h0 := P3.start w #[.int .i64 kA, .int .i64 cA, .int .i64 eA, .string sA, .bool bA, .int .i64 xA] #[.int .i64 kB, .int .i64 cB, .int .i64 eB, .string sB, .bool bB, .int .i64 xB] #[.int .i64 kC, .int .i64 cC, .int .i64 eC, .string sC, .bool bC, .int .i64 xC]
  go_enter Tryz.func7, Tryz.ntmps7
  go_upto_region 1 with fail
  generalize ((w.alloc (.cells #[.int .i64 kA, .int .i64 cA, .int .i64 eA, .string sA, .bool bA, .int .i64 xA] 25)).alloc (.cells #[.int .i64 kB, .int .i64 cB, .int .i64 eB, .string sB, .bool bB, .int .i64 xB] 25)).alloc (.cells #[.int .i64 kC, .int .i64 cC, .int .i64 eC, .string sC, .bool bC, .int .i64 xC] 25) = W at *
  obtain ⟨a0, a1, a2, a3, a4, a5⟩ := h0.1.six
  go_wp2_with fail
  refine Calls.mono (OA _).out ?_
  rintro _ w1 ⟨rfl, b1⟩
  have h1 := h0.next b1
  clear b1 h0 a0 a1 a2 a3 a4 a5 OA
  obtain ⟨a0, a1, a2, a3, a4, a5⟩ := h1.2.1.six
  go_wp2_with fail
  refine Calls.mono (OB _).out ?_
  rintro _ w2 ⟨rfl, b2⟩
  have h2 := h1.next b2
  clear b2 h1 a0 a1 a2 a3 a4 a5 OB
  obtain ⟨a0, a1, a2, a3, a4, a5⟩ := h2.2.2.1.six
  go_wp2_with fail
  refine Calls.mono (OC _).out ?_
  rintro _ w3 ⟨rfl, b3⟩
  have h3 := h2.next b3
  clear b3 h2 a0 a1 a2 a3 a4 a5 OC
  go_upto_region 4 with fail
  have hS : Below w3.heap.size w3 w3.drew := (Below.refl _ w3).drew
  have cAt := fun wx (hx : Below w3.heap.size w3 wx) => h3.next hx
  refine wp_region_M (fun wx : World => Below w3.heap.size w3 wx) (fun j => decide (j < 9)) 12 rfl (by kernel_rfl) ?_
  refine wpM_held 0 (v := .agg #[.int .i64 kA, .int .i64 cA, .int .i64 eA, .string sA, .bool bA, .int .i64 xA]) rfl (by kernel_rfl) (by kernel_rfl) rfl (fun _ _ _ h => h) rfl (by intro wx hx; obtain ⟨z0, z1, z2, z3, z4, z5⟩ := (cAt wx hx).1.six; go_simp <;> rfl) hS ?_
  refine wpM_held 1 (v := .agg #[.int .i64 kB, .int .i64 cB, .int .i64 eB, .string sB, .bool bB, .int .i64 xB]) rfl (by kernel_rfl) (by kernel_rfl) rfl (fun _ _ _ h => h) rfl (by intro wx hx; obtain ⟨z0, z1, z2, z3, z4, z5⟩ := (cAt wx hx).2.1.six; go_simp <;> rfl) hS ?_
  refine wpM_held 3 (v := .agg #[.int .i64 kB, .int .i64 cB, .int .i64 eB, .string sB, .bool bB, .int .i64 xB]) rfl (by kernel_rfl) (by kernel_rfl) rfl (fun _ _ _ h => h) rfl (by intro wx hx; obtain ⟨z0, z1, z2, z3, z4, z5⟩ := (cAt wx hx).2.1.six; go_simp <;> rfl) hS ?_
  refine wpM_held 4 (v := .agg #[.int .i64 kC, .int .i64 cC, .int .i64 eC, .string sC, .bool bC, .int .i64 xC]) rfl (by kernel_rfl) (by kernel_rfl) rfl (fun _ _ _ h => h) rfl (by intro wx hx; obtain ⟨z0, z1, z2, z3, z4, z5⟩ := (cAt wx hx).2.2.1.six; go_simp <;> rfl) hS ?_
  refine wpM_held 6 (v := .agg #[.int .i64 kA, .int .i64 cA, .int .i64 eA, .string sA, .bool bA, .int .i64 xA]) rfl (by kernel_rfl) (by kernel_rfl) rfl (fun _ _ _ h => h) rfl (by intro wx hx; obtain ⟨z0, z1, z2, z3, z4, z5⟩ := (cAt wx hx).1.six; go_simp <;> rfl) hS ?_
  refine wpM_held 7 (v := .agg #[.int .i64 kC, .int .i64 cC, .int .i64 eC, .string sC, .bool bC, .int .i64 xC]) rfl (by kernel_rfl) (by kernel_rfl) rfl (fun _ _ _ h => h) rfl (by intro wx hx; obtain ⟨z0, z1, z2, z3, z4, z5⟩ := (cAt wx hx).2.2.1.six; go_simp <;> rfl) hS ?_
  refine wpM_one 2 rfl (by kernel_rfl) rfl ?_
  go_wp2_with fail
  refine Calls.mono (CA _).out ?_
  rintro _ wa ⟨rfl, lwa⟩
  have hSa : Below w3.heap.size w3 wa := hS.trans (lwa.mono hS.size)
  go_wp2_with fail
  refine ⟨fun _ => hSa, ?_⟩
  refine wpM_one 5 rfl (by kernel_rfl) rfl ?_
  go_wp2_with fail
  refine Calls.mono (CB _).out ?_
  rintro _ wb ⟨rfl, lwb⟩
  have hSb : Below w3.heap.size w3 wb := hSa.trans (lwb.mono hSa.size)
  go_wp2_with fail
  refine ⟨fun _ => hSb, ?_⟩
  refine wpM_one 8 rfl (by kernel_rfl) rfl ?_
  go_wp2_with fail
  refine Calls.mono (CC _).out ?_
  rintro _ wc ⟨rfl, lwc⟩
  have hSc : Below w3.heap.size w3 wc := hSb.trans (lwc.mono hSb.size)
  go_wp2_with fail
  refine ⟨fun _ => hSc, ?_⟩
  refine wpM_one 9 rfl (by kernel_rfl) rfl ?_
  go_wp2_with fail
  refine ⟨fun h => absurd h (by decide), ?_⟩
  refine wpM_one 10 rfl (by kernel_rfl) rfl ?_
  go_wp2_with fail
  refine ⟨fun h => absurd h (by decide), ?_⟩
  refine wpM_one 11 rfl (by kernel_rfl) rfl ?_
  go_wp2_with fail
  refine ⟨fun h => absurd h (by decide), ?_⟩
  refine wpM_done (by kernel_rfl) ?_
  have h4 := h3.next hSc
  clear hS cAt hSa hSb hSc lwa lwb lwc h3 CA CB CC
  obtain ⟨a0, a1, a2, a3, a4, a5⟩ := h4.1.six
  obtain ⟨c0, c1, c2, c3, c4, c5⟩ := h4.2.1.six
  go_wp2_with fail
  refine Calls.mono (CD _).out ?_
  rintro _ w5 ⟨rfl, b5⟩
  have h5 := h4.next b5
  clear b5 h4 a0 a1 a2 a3 a4 a5 c0 c1 c2 c3 c4 c5 CD
  obtain ⟨a0, a1, a2, a3, a4, a5⟩ := h5.1.six
  go_wp2_with fail
  refine Calls.mono (CE _).out ?_
  rintro _ w6 ⟨rfl, b6⟩
  have h6 := h5.next b6
  clear b6 h5 a0 a1 a2 a3 a4 a5 CE
  go_wp2_with fail
  refine Calls.mono (HL _ (hE.next h6.2.2.2)).out ?_
  rintro _ w9 ⟨rfl, b9⟩
  have h9 := h6.next b9
  go_wp2
  go_ret
  exact ⟨rfl, h9.2.2.2⟩
end Go.Proofs.YtnhflnpjepiceaaGreatDoor
/- val: ValOrder's law, one way. -/
namespace Go.Proofs.YtnhflnpjepiceaaGreatDoor
open Go.RowKit

set_option maxRecDepth 100000 in
set_option maxHeartbeats 8000000 in
theorem order_B0 (kA cA eA : Int) (sA : ByteArray) (bA : Bool) (xA : Int) (kB cB eB : Int) (sB : ByteArray) (bB : Bool) (xB : Int) (kC cC eC : Int) (sC : ByteArray) (bC : Bool) (xC : Int) (x y z : Int)
    (OA : ∀ V, Hid (Calls Tryz.prog 42 #[.agg #[.int .i64 kA, .int .i64 cA, .int .i64 eA, .string sA, .bool bA, .int .i64 xA]] V fun r w' => r = .returned (.bool false) ∧ Below V.heap.size V w')) (OB : ∀ V, Hid (Calls Tryz.prog 42 #[.agg #[.int .i64 kB, .int .i64 cB, .int .i64 eB, .string sB, .bool bB, .int .i64 xB]] V fun r w' => r = .returned (.bool false) ∧ Below V.heap.size V w')) (OC : ∀ V, Hid (Calls Tryz.prog 42 #[.agg #[.int .i64 kC, .int .i64 cC, .int .i64 eC, .string sC, .bool bC, .int .i64 xC]] V fun r w' => r = .returned (.bool false) ∧ Below V.heap.size V w'))
    (CA : ∀ V, Hid (Calls Tryz.prog 36 #[.agg #[.int .i64 kA, .int .i64 cA, .int .i64 eA, .string sA, .bool bA, .int .i64 xA], .agg #[.int .i64 kB, .int .i64 cB, .int .i64 eB, .string sB, .bool bB, .int .i64 xB]] V fun r w' => r = .returned (.int .i64 x) ∧ Below V.heap.size V w')) (CB : ∀ V, Hid (Calls Tryz.prog 36 #[.agg #[.int .i64 kB, .int .i64 cB, .int .i64 eB, .string sB, .bool bB, .int .i64 xB], .agg #[.int .i64 kC, .int .i64 cC, .int .i64 eC, .string sC, .bool bC, .int .i64 xC]] V fun r w' => r = .returned (.int .i64 y) ∧ Below V.heap.size V w')) (CC : ∀ V, Hid (Calls Tryz.prog 36 #[.agg #[.int .i64 kA, .int .i64 cA, .int .i64 eA, .string sA, .bool bA, .int .i64 xA], .agg #[.int .i64 kC, .int .i64 cC, .int .i64 eC, .string sC, .bool bC, .int .i64 xC]] V fun r w' => r = .returned (.int .i64 z) ∧ Below V.heap.size V w')) (CD : ∀ V, Hid (Calls Tryz.prog 36 #[.agg #[.int .i64 kB, .int .i64 cB, .int .i64 eB, .string sB, .bool bB, .int .i64 xB], .agg #[.int .i64 kA, .int .i64 cA, .int .i64 eA, .string sA, .bool bA, .int .i64 xA]] V fun r w' => r = .returned (.int .i64 (-x)) ∧ Below V.heap.size V w')) (CE : ∀ V, Hid (Calls Tryz.prog 36 #[.agg #[.int .i64 kA, .int .i64 cA, .int .i64 eA, .string sA, .bool bA, .int .i64 xA], .agg #[.int .i64 kA, .int .i64 cA, .int .i64 eA, .string sA, .bool bA, .int .i64 xA]] V fun r w' => r = .returned (.int .i64 0) ∧ Below V.heap.size V w')) (hw : wrap64 (-x) = -x) (f1 : decide (x ≤ 0) = true) (f3 : decide (y ≤ 0) = false) (f2 : (x == 0) = true) (f4 : (y == 0) = false)
    (HL : ∀ V, Env V → Hid (Calls Tryz.prog 19 #[] V fun r w' => r = .returned (.bool true) ∧ Below V.heap.size V w')) (w : World) (hE : Env w) :
    Calls Tryz.prog 7 #[.agg #[.int .i64 kA, .int .i64 cA, .int .i64 eA, .string sA, .bool bA, .int .i64 xA], .agg #[.int .i64 kB, .int .i64 cB, .int .i64 eB, .string sB, .bool bB, .int .i64 xB], .agg #[.int .i64 kC, .int .i64 cC, .int .i64 eC, .string sC, .bool bC, .int .i64 xC]] w fun r w' => r = .returned (.bool true) ∧ Below w.heap.size w w' := by
  have h0 := P3.start w #[.int .i64 kA, .int .i64 cA, .int .i64 eA, .string sA, .bool bA, .int .i64 xA] #[.int .i64 kB, .int .i64 cB, .int .i64 eB, .string sB, .bool bB, .int .i64 xB] #[.int .i64 kC, .int .i64 cC, .int .i64 eC, .string sC, .bool bC, .int .i64 xC]
  go_enter Tryz.func7, Tryz.ntmps7
  go_upto_region 1 with fail
  generalize ((w.alloc (.cells #[.int .i64 kA, .int .i64 cA, .int .i64 eA, .string sA, .bool bA, .int .i64 xA] 25)).alloc (.cells #[.int .i64 kB, .int .i64 cB, .int .i64 eB, .string sB, .bool bB, .int .i64 xB] 25)).alloc (.cells #[.int .i64 kC, .int .i64 cC, .int .i64 eC, .string sC, .bool bC, .int .i64 xC] 25) = W at *
  obtain ⟨a0, a1, a2, a3, a4, a5⟩ := h0.1.six
  go_wp2_with fail
  refine Calls.mono (OA _).out ?_
  rintro _ w1 ⟨rfl, b1⟩
  have h1 := h0.next b1
  clear b1 h0 a0 a1 a2 a3 a4 a5 OA
  obtain ⟨a0, a1, a2, a3, a4, a5⟩ := h1.2.1.six
  go_wp2_with fail
  refine Calls.mono (OB _).out ?_
  rintro _ w2 ⟨rfl, b2⟩
  have h2 := h1.next b2
  clear b2 h1 a0 a1 a2 a3 a4 a5 OB
  obtain ⟨a0, a1, a2, a3, a4, a5⟩ := h2.2.2.1.six
  go_wp2_with fail
  refine Calls.mono (OC _).out ?_
  rintro _ w3 ⟨rfl, b3⟩
  have h3 := h2.next b3
  clear b3 h2 a0 a1 a2 a3 a4 a5 OC
  go_upto_region 4 with fail
  have hS : Below w3.heap.size w3 w3.drew := (Below.refl _ w3).drew
  have cAt := fun wx (hx : Below w3.heap.size w3 wx) => h3.next hx
  refine wp_region_M (fun wx : World => Below w3.heap.size w3 wx) (fun j => decide (j < 9)) 12 rfl (by kernel_rfl) ?_
  refine wpM_held 0 (v := .agg #[.int .i64 kA, .int .i64 cA, .int .i64 eA, .string sA, .bool bA, .int .i64 xA]) rfl (by kernel_rfl) (by kernel_rfl) rfl (fun _ _ _ h => h) rfl (by intro wx hx; obtain ⟨z0, z1, z2, z3, z4, z5⟩ := (cAt wx hx).1.six; go_simp <;> rfl) hS ?_
  refine wpM_held 1 (v := .agg #[.int .i64 kB, .int .i64 cB, .int .i64 eB, .string sB, .bool bB, .int .i64 xB]) rfl (by kernel_rfl) (by kernel_rfl) rfl (fun _ _ _ h => h) rfl (by intro wx hx; obtain ⟨z0, z1, z2, z3, z4, z5⟩ := (cAt wx hx).2.1.six; go_simp <;> rfl) hS ?_
  refine wpM_held 3 (v := .agg #[.int .i64 kB, .int .i64 cB, .int .i64 eB, .string sB, .bool bB, .int .i64 xB]) rfl (by kernel_rfl) (by kernel_rfl) rfl (fun _ _ _ h => h) rfl (by intro wx hx; obtain ⟨z0, z1, z2, z3, z4, z5⟩ := (cAt wx hx).2.1.six; go_simp <;> rfl) hS ?_
  refine wpM_held 4 (v := .agg #[.int .i64 kC, .int .i64 cC, .int .i64 eC, .string sC, .bool bC, .int .i64 xC]) rfl (by kernel_rfl) (by kernel_rfl) rfl (fun _ _ _ h => h) rfl (by intro wx hx; obtain ⟨z0, z1, z2, z3, z4, z5⟩ := (cAt wx hx).2.2.1.six; go_simp <;> rfl) hS ?_
  refine wpM_held 6 (v := .agg #[.int .i64 kA, .int .i64 cA, .int .i64 eA, .string sA, .bool bA, .int .i64 xA]) rfl (by kernel_rfl) (by kernel_rfl) rfl (fun _ _ _ h => h) rfl (by intro wx hx; obtain ⟨z0, z1, z2, z3, z4, z5⟩ := (cAt wx hx).1.six; go_simp <;> rfl) hS ?_
  refine wpM_held 7 (v := .agg #[.int .i64 kC, .int .i64 cC, .int .i64 eC, .string sC, .bool bC, .int .i64 xC]) rfl (by kernel_rfl) (by kernel_rfl) rfl (fun _ _ _ h => h) rfl (by intro wx hx; obtain ⟨z0, z1, z2, z3, z4, z5⟩ := (cAt wx hx).2.2.1.six; go_simp <;> rfl) hS ?_
  refine wpM_one 2 rfl (by kernel_rfl) rfl ?_
  go_wp2_with fail
  refine Calls.mono (CA _).out ?_
  rintro _ wa ⟨rfl, lwa⟩
  have hSa : Below w3.heap.size w3 wa := hS.trans (lwa.mono hS.size)
  go_wp2_with fail
  refine ⟨fun _ => hSa, ?_⟩
  refine wpM_one 5 rfl (by kernel_rfl) rfl ?_
  go_wp2_with fail
  refine Calls.mono (CB _).out ?_
  rintro _ wb ⟨rfl, lwb⟩
  have hSb : Below w3.heap.size w3 wb := hSa.trans (lwb.mono hSa.size)
  go_wp2_with fail
  refine ⟨fun _ => hSb, ?_⟩
  refine wpM_one 8 rfl (by kernel_rfl) rfl ?_
  go_wp2_with fail
  refine Calls.mono (CC _).out ?_
  rintro _ wc ⟨rfl, lwc⟩
  have hSc : Below w3.heap.size w3 wc := hSb.trans (lwc.mono hSb.size)
  go_wp2_with fail
  refine ⟨fun _ => hSc, ?_⟩
  refine wpM_one 9 rfl (by kernel_rfl) rfl ?_
  go_wp2_with fail
  refine ⟨fun h => absurd h (by decide), ?_⟩
  refine wpM_one 10 rfl (by kernel_rfl) rfl ?_
  go_wp2_with fail
  refine ⟨fun h => absurd h (by decide), ?_⟩
  refine wpM_one 11 rfl (by kernel_rfl) rfl ?_
  go_wp2_with fail
  refine ⟨fun h => absurd h (by decide), ?_⟩
  refine wpM_done (by kernel_rfl) ?_
  have h4 := h3.next hSc
  clear hS cAt hSa hSb hSc lwa lwb lwc h3 CA CB CC
  obtain ⟨a0, a1, a2, a3, a4, a5⟩ := h4.1.six
  obtain ⟨c0, c1, c2, c3, c4, c5⟩ := h4.2.1.six
  go_wp2_with fail
  refine Calls.mono (CD _).out ?_
  rintro _ w5 ⟨rfl, b5⟩
  have h5 := h4.next b5
  clear b5 h4 a0 a1 a2 a3 a4 a5 c0 c1 c2 c3 c4 c5 CD
  obtain ⟨a0, a1, a2, a3, a4, a5⟩ := h5.1.six
  go_wp2_with fail
  refine Calls.mono (CE _).out ?_
  rintro _ w6 ⟨rfl, b6⟩
  have h6 := h5.next b6
  clear b6 h5 a0 a1 a2 a3 a4 a5 CE
  go_wp2_with fail
  refine Calls.mono (HL _ (hE.next h6.2.2.2)).out ?_
  rintro _ w9 ⟨rfl, b9⟩
  have h9 := h6.next b9
  go_wp2
  go_ret
  exact ⟨rfl, h9.2.2.2⟩
end Go.Proofs.YtnhflnpjepiceaaGreatDoor
/- val: ValOrder's law, one way. -/
namespace Go.Proofs.YtnhflnpjepiceaaGreatDoor
open Go.RowKit

set_option maxRecDepth 100000 in
set_option maxHeartbeats 8000000 in
theorem order_B1 (kA cA eA : Int) (sA : ByteArray) (bA : Bool) (xA : Int) (kB cB eB : Int) (sB : ByteArray) (bB : Bool) (xB : Int) (kC cC eC : Int) (sC : ByteArray) (bC : Bool) (xC : Int) (x y z : Int)
    (OA : ∀ V, Hid (Calls Tryz.prog 42 #[.agg #[.int .i64 kA, .int .i64 cA, .int .i64 eA, .string sA, .bool bA, .int .i64 xA]] V fun r w' => r = .returned (.bool false) ∧ Below V.heap.size V w')) (OB : ∀ V, Hid (Calls Tryz.prog 42 #[.agg #[.int .i64 kB, .int .i64 cB, .int .i64 eB, .string sB, .bool bB, .int .i64 xB]] V fun r w' => r = .returned (.bool false) ∧ Below V.heap.size V w')) (OC : ∀ V, Hid (Calls Tryz.prog 42 #[.agg #[.int .i64 kC, .int .i64 cC, .int .i64 eC, .string sC, .bool bC, .int .i64 xC]] V fun r w' => r = .returned (.bool false) ∧ Below V.heap.size V w'))
    (CA : ∀ V, Hid (Calls Tryz.prog 36 #[.agg #[.int .i64 kA, .int .i64 cA, .int .i64 eA, .string sA, .bool bA, .int .i64 xA], .agg #[.int .i64 kB, .int .i64 cB, .int .i64 eB, .string sB, .bool bB, .int .i64 xB]] V fun r w' => r = .returned (.int .i64 x) ∧ Below V.heap.size V w')) (CB : ∀ V, Hid (Calls Tryz.prog 36 #[.agg #[.int .i64 kB, .int .i64 cB, .int .i64 eB, .string sB, .bool bB, .int .i64 xB], .agg #[.int .i64 kC, .int .i64 cC, .int .i64 eC, .string sC, .bool bC, .int .i64 xC]] V fun r w' => r = .returned (.int .i64 y) ∧ Below V.heap.size V w')) (CC : ∀ V, Hid (Calls Tryz.prog 36 #[.agg #[.int .i64 kA, .int .i64 cA, .int .i64 eA, .string sA, .bool bA, .int .i64 xA], .agg #[.int .i64 kC, .int .i64 cC, .int .i64 eC, .string sC, .bool bC, .int .i64 xC]] V fun r w' => r = .returned (.int .i64 z) ∧ Below V.heap.size V w')) (CD : ∀ V, Hid (Calls Tryz.prog 36 #[.agg #[.int .i64 kB, .int .i64 cB, .int .i64 eB, .string sB, .bool bB, .int .i64 xB], .agg #[.int .i64 kA, .int .i64 cA, .int .i64 eA, .string sA, .bool bA, .int .i64 xA]] V fun r w' => r = .returned (.int .i64 (-x)) ∧ Below V.heap.size V w')) (CE : ∀ V, Hid (Calls Tryz.prog 36 #[.agg #[.int .i64 kA, .int .i64 cA, .int .i64 eA, .string sA, .bool bA, .int .i64 xA], .agg #[.int .i64 kA, .int .i64 cA, .int .i64 eA, .string sA, .bool bA, .int .i64 xA]] V fun r w' => r = .returned (.int .i64 0) ∧ Below V.heap.size V w')) (hw : wrap64 (-x) = -x) (f1 : decide (x ≤ 0) = true) (f3 : decide (y ≤ 0) = false) (f2 : (x == 0) = false)
    (HL : ∀ V, Env V → Hid (Calls Tryz.prog 19 #[] V fun r w' => r = .returned (.bool true) ∧ Below V.heap.size V w')) (w : World) (hE : Env w) :
    Calls Tryz.prog 7 #[.agg #[.int .i64 kA, .int .i64 cA, .int .i64 eA, .string sA, .bool bA, .int .i64 xA], .agg #[.int .i64 kB, .int .i64 cB, .int .i64 eB, .string sB, .bool bB, .int .i64 xB], .agg #[.int .i64 kC, .int .i64 cC, .int .i64 eC, .string sC, .bool bC, .int .i64 xC]] w fun r w' => r = .returned (.bool true) ∧ Below w.heap.size w w' := by
  have h0 := P3.start w #[.int .i64 kA, .int .i64 cA, .int .i64 eA, .string sA, .bool bA, .int .i64 xA] #[.int .i64 kB, .int .i64 cB, .int .i64 eB, .string sB, .bool bB, .int .i64 xB] #[.int .i64 kC, .int .i64 cC, .int .i64 eC, .string sC, .bool bC, .int .i64 xC]
  go_enter Tryz.func7, Tryz.ntmps7
  go_upto_region 1 with fail
  generalize ((w.alloc (.cells #[.int .i64 kA, .int .i64 cA, .int .i64 eA, .string sA, .bool bA, .int .i64 xA] 25)).alloc (.cells #[.int .i64 kB, .int .i64 cB, .int .i64 eB, .string sB, .bool bB, .int .i64 xB] 25)).alloc (.cells #[.int .i64 kC, .int .i64 cC, .int .i64 eC, .string sC, .bool bC, .int .i64 xC] 25) = W at *
  obtain ⟨a0, a1, a2, a3, a4, a5⟩ := h0.1.six
  go_wp2_with fail
  refine Calls.mono (OA _).out ?_
  rintro _ w1 ⟨rfl, b1⟩
  have h1 := h0.next b1
  clear b1 h0 a0 a1 a2 a3 a4 a5 OA
  obtain ⟨a0, a1, a2, a3, a4, a5⟩ := h1.2.1.six
  go_wp2_with fail
  refine Calls.mono (OB _).out ?_
  rintro _ w2 ⟨rfl, b2⟩
  have h2 := h1.next b2
  clear b2 h1 a0 a1 a2 a3 a4 a5 OB
  obtain ⟨a0, a1, a2, a3, a4, a5⟩ := h2.2.2.1.six
  go_wp2_with fail
  refine Calls.mono (OC _).out ?_
  rintro _ w3 ⟨rfl, b3⟩
  have h3 := h2.next b3
  clear b3 h2 a0 a1 a2 a3 a4 a5 OC
  go_upto_region 4 with fail
  have hS : Below w3.heap.size w3 w3.drew := (Below.refl _ w3).drew
  have cAt := fun wx (hx : Below w3.heap.size w3 wx) => h3.next hx
  refine wp_region_M (fun wx : World => Below w3.heap.size w3 wx) (fun j => decide (j < 9)) 12 rfl (by kernel_rfl) ?_
  refine wpM_held 0 (v := .agg #[.int .i64 kA, .int .i64 cA, .int .i64 eA, .string sA, .bool bA, .int .i64 xA]) rfl (by kernel_rfl) (by kernel_rfl) rfl (fun _ _ _ h => h) rfl (by intro wx hx; obtain ⟨z0, z1, z2, z3, z4, z5⟩ := (cAt wx hx).1.six; go_simp <;> rfl) hS ?_
  refine wpM_held 1 (v := .agg #[.int .i64 kB, .int .i64 cB, .int .i64 eB, .string sB, .bool bB, .int .i64 xB]) rfl (by kernel_rfl) (by kernel_rfl) rfl (fun _ _ _ h => h) rfl (by intro wx hx; obtain ⟨z0, z1, z2, z3, z4, z5⟩ := (cAt wx hx).2.1.six; go_simp <;> rfl) hS ?_
  refine wpM_held 3 (v := .agg #[.int .i64 kB, .int .i64 cB, .int .i64 eB, .string sB, .bool bB, .int .i64 xB]) rfl (by kernel_rfl) (by kernel_rfl) rfl (fun _ _ _ h => h) rfl (by intro wx hx; obtain ⟨z0, z1, z2, z3, z4, z5⟩ := (cAt wx hx).2.1.six; go_simp <;> rfl) hS ?_
  refine wpM_held 4 (v := .agg #[.int .i64 kC, .int .i64 cC, .int .i64 eC, .string sC, .bool bC, .int .i64 xC]) rfl (by kernel_rfl) (by kernel_rfl) rfl (fun _ _ _ h => h) rfl (by intro wx hx; obtain ⟨z0, z1, z2, z3, z4, z5⟩ := (cAt wx hx).2.2.1.six; go_simp <;> rfl) hS ?_
  refine wpM_held 6 (v := .agg #[.int .i64 kA, .int .i64 cA, .int .i64 eA, .string sA, .bool bA, .int .i64 xA]) rfl (by kernel_rfl) (by kernel_rfl) rfl (fun _ _ _ h => h) rfl (by intro wx hx; obtain ⟨z0, z1, z2, z3, z4, z5⟩ := (cAt wx hx).1.six; go_simp <;> rfl) hS ?_
  refine wpM_held 7 (v := .agg #[.int .i64 kC, .int .i64 cC, .int .i64 eC, .string sC, .bool bC, .int .i64 xC]) rfl (by kernel_rfl) (by kernel_rfl) rfl (fun _ _ _ h => h) rfl (by intro wx hx; obtain ⟨z0, z1, z2, z3, z4, z5⟩ := (cAt wx hx).2.2.1.six; go_simp <;> rfl) hS ?_
  refine wpM_one 2 rfl (by kernel_rfl) rfl ?_
  go_wp2_with fail
  refine Calls.mono (CA _).out ?_
  rintro _ wa ⟨rfl, lwa⟩
  have hSa : Below w3.heap.size w3 wa := hS.trans (lwa.mono hS.size)
  go_wp2_with fail
  refine ⟨fun _ => hSa, ?_⟩
  refine wpM_one 5 rfl (by kernel_rfl) rfl ?_
  go_wp2_with fail
  refine Calls.mono (CB _).out ?_
  rintro _ wb ⟨rfl, lwb⟩
  have hSb : Below w3.heap.size w3 wb := hSa.trans (lwb.mono hSa.size)
  go_wp2_with fail
  refine ⟨fun _ => hSb, ?_⟩
  refine wpM_one 8 rfl (by kernel_rfl) rfl ?_
  go_wp2_with fail
  refine Calls.mono (CC _).out ?_
  rintro _ wc ⟨rfl, lwc⟩
  have hSc : Below w3.heap.size w3 wc := hSb.trans (lwc.mono hSb.size)
  go_wp2_with fail
  refine ⟨fun _ => hSc, ?_⟩
  refine wpM_one 9 rfl (by kernel_rfl) rfl ?_
  go_wp2_with fail
  refine ⟨fun h => absurd h (by decide), ?_⟩
  refine wpM_one 10 rfl (by kernel_rfl) rfl ?_
  go_wp2_with fail
  refine ⟨fun h => absurd h (by decide), ?_⟩
  refine wpM_one 11 rfl (by kernel_rfl) rfl ?_
  go_wp2_with fail
  refine ⟨fun h => absurd h (by decide), ?_⟩
  refine wpM_done (by kernel_rfl) ?_
  have h4 := h3.next hSc
  clear hS cAt hSa hSb hSc lwa lwb lwc h3 CA CB CC
  obtain ⟨a0, a1, a2, a3, a4, a5⟩ := h4.1.six
  obtain ⟨c0, c1, c2, c3, c4, c5⟩ := h4.2.1.six
  go_wp2_with fail
  refine Calls.mono (CD _).out ?_
  rintro _ w5 ⟨rfl, b5⟩
  have h5 := h4.next b5
  clear b5 h4 a0 a1 a2 a3 a4 a5 c0 c1 c2 c3 c4 c5 CD
  obtain ⟨a0, a1, a2, a3, a4, a5⟩ := h5.1.six
  go_wp2_with fail
  refine Calls.mono (CE _).out ?_
  rintro _ w6 ⟨rfl, b6⟩
  have h6 := h5.next b6
  clear b6 h5 a0 a1 a2 a3 a4 a5 CE
  go_wp2_with fail
  refine Calls.mono (HL _ (hE.next h6.2.2.2)).out ?_
  rintro _ w9 ⟨rfl, b9⟩
  have h9 := h6.next b9
  go_wp2
  go_ret
  exact ⟨rfl, h9.2.2.2⟩
end Go.Proofs.YtnhflnpjepiceaaGreatDoor
/- val: ValOrder's law, one way. -/
namespace Go.Proofs.YtnhflnpjepiceaaGreatDoor
open Go.RowKit

set_option maxRecDepth 100000 in
set_option maxHeartbeats 8000000 in
theorem order_C1 (kA cA eA : Int) (sA : ByteArray) (bA : Bool) (xA : Int) (kB cB eB : Int) (sB : ByteArray) (bB : Bool) (xB : Int) (kC cC eC : Int) (sC : ByteArray) (bC : Bool) (xC : Int) (x y z : Int)
    (OA : ∀ V, Hid (Calls Tryz.prog 42 #[.agg #[.int .i64 kA, .int .i64 cA, .int .i64 eA, .string sA, .bool bA, .int .i64 xA]] V fun r w' => r = .returned (.bool false) ∧ Below V.heap.size V w')) (OB : ∀ V, Hid (Calls Tryz.prog 42 #[.agg #[.int .i64 kB, .int .i64 cB, .int .i64 eB, .string sB, .bool bB, .int .i64 xB]] V fun r w' => r = .returned (.bool false) ∧ Below V.heap.size V w')) (OC : ∀ V, Hid (Calls Tryz.prog 42 #[.agg #[.int .i64 kC, .int .i64 cC, .int .i64 eC, .string sC, .bool bC, .int .i64 xC]] V fun r w' => r = .returned (.bool false) ∧ Below V.heap.size V w'))
    (CA : ∀ V, Hid (Calls Tryz.prog 36 #[.agg #[.int .i64 kA, .int .i64 cA, .int .i64 eA, .string sA, .bool bA, .int .i64 xA], .agg #[.int .i64 kB, .int .i64 cB, .int .i64 eB, .string sB, .bool bB, .int .i64 xB]] V fun r w' => r = .returned (.int .i64 x) ∧ Below V.heap.size V w')) (CB : ∀ V, Hid (Calls Tryz.prog 36 #[.agg #[.int .i64 kB, .int .i64 cB, .int .i64 eB, .string sB, .bool bB, .int .i64 xB], .agg #[.int .i64 kC, .int .i64 cC, .int .i64 eC, .string sC, .bool bC, .int .i64 xC]] V fun r w' => r = .returned (.int .i64 y) ∧ Below V.heap.size V w')) (CC : ∀ V, Hid (Calls Tryz.prog 36 #[.agg #[.int .i64 kA, .int .i64 cA, .int .i64 eA, .string sA, .bool bA, .int .i64 xA], .agg #[.int .i64 kC, .int .i64 cC, .int .i64 eC, .string sC, .bool bC, .int .i64 xC]] V fun r w' => r = .returned (.int .i64 z) ∧ Below V.heap.size V w')) (CD : ∀ V, Hid (Calls Tryz.prog 36 #[.agg #[.int .i64 kB, .int .i64 cB, .int .i64 eB, .string sB, .bool bB, .int .i64 xB], .agg #[.int .i64 kA, .int .i64 cA, .int .i64 eA, .string sA, .bool bA, .int .i64 xA]] V fun r w' => r = .returned (.int .i64 (-x)) ∧ Below V.heap.size V w')) (CE : ∀ V, Hid (Calls Tryz.prog 36 #[.agg #[.int .i64 kA, .int .i64 cA, .int .i64 eA, .string sA, .bool bA, .int .i64 xA], .agg #[.int .i64 kA, .int .i64 cA, .int .i64 eA, .string sA, .bool bA, .int .i64 xA]] V fun r w' => r = .returned (.int .i64 0) ∧ Below V.heap.size V w')) (hw : wrap64 (-x) = -x) (f1 : decide (x ≤ 0) = true) (f3 : decide (y ≤ 0) = true) (f5 : decide (0 < z) = false) (f2 : (x == 0) = false)
    (HL : ∀ V, Env V → Hid (Calls Tryz.prog 19 #[] V fun r w' => r = .returned (.bool true) ∧ Below V.heap.size V w')) (w : World) (hE : Env w) :
    Calls Tryz.prog 7 #[.agg #[.int .i64 kA, .int .i64 cA, .int .i64 eA, .string sA, .bool bA, .int .i64 xA], .agg #[.int .i64 kB, .int .i64 cB, .int .i64 eB, .string sB, .bool bB, .int .i64 xB], .agg #[.int .i64 kC, .int .i64 cC, .int .i64 eC, .string sC, .bool bC, .int .i64 xC]] w fun r w' => r = .returned (.bool true) ∧ Below w.heap.size w w' := by
  have h0 := P3.start w #[.int .i64 kA, .int .i64 cA, .int .i64 eA, .string sA, .bool bA, .int .i64 xA] #[.int .i64 kB, .int .i64 cB, .int .i64 eB, .string sB, .bool bB, .int .i64 xB] #[.int .i64 kC, .int .i64 cC, .int .i64 eC, .string sC, .bool bC, .int .i64 xC]
  go_enter Tryz.func7, Tryz.ntmps7
  go_upto_region 1 with fail
  generalize ((w.alloc (.cells #[.int .i64 kA, .int .i64 cA, .int .i64 eA, .string sA, .bool bA, .int .i64 xA] 25)).alloc (.cells #[.int .i64 kB, .int .i64 cB, .int .i64 eB, .string sB, .bool bB, .int .i64 xB] 25)).alloc (.cells #[.int .i64 kC, .int .i64 cC, .int .i64 eC, .string sC, .bool bC, .int .i64 xC] 25) = W at *
  obtain ⟨a0, a1, a2, a3, a4, a5⟩ := h0.1.six
  go_wp2_with fail
  refine Calls.mono (OA _).out ?_
  rintro _ w1 ⟨rfl, b1⟩
  have h1 := h0.next b1
  clear b1 h0 a0 a1 a2 a3 a4 a5 OA
  obtain ⟨a0, a1, a2, a3, a4, a5⟩ := h1.2.1.six
  go_wp2_with fail
  refine Calls.mono (OB _).out ?_
  rintro _ w2 ⟨rfl, b2⟩
  have h2 := h1.next b2
  clear b2 h1 a0 a1 a2 a3 a4 a5 OB
  obtain ⟨a0, a1, a2, a3, a4, a5⟩ := h2.2.2.1.six
  go_wp2_with fail
  refine Calls.mono (OC _).out ?_
  rintro _ w3 ⟨rfl, b3⟩
  have h3 := h2.next b3
  clear b3 h2 a0 a1 a2 a3 a4 a5 OC
  go_upto_region 4 with fail
  have hS : Below w3.heap.size w3 w3.drew := (Below.refl _ w3).drew
  have cAt := fun wx (hx : Below w3.heap.size w3 wx) => h3.next hx
  refine wp_region_M (fun wx : World => Below w3.heap.size w3 wx) (fun j => decide (j < 9)) 12 rfl (by kernel_rfl) ?_
  refine wpM_held 0 (v := .agg #[.int .i64 kA, .int .i64 cA, .int .i64 eA, .string sA, .bool bA, .int .i64 xA]) rfl (by kernel_rfl) (by kernel_rfl) rfl (fun _ _ _ h => h) rfl (by intro wx hx; obtain ⟨z0, z1, z2, z3, z4, z5⟩ := (cAt wx hx).1.six; go_simp <;> rfl) hS ?_
  refine wpM_held 1 (v := .agg #[.int .i64 kB, .int .i64 cB, .int .i64 eB, .string sB, .bool bB, .int .i64 xB]) rfl (by kernel_rfl) (by kernel_rfl) rfl (fun _ _ _ h => h) rfl (by intro wx hx; obtain ⟨z0, z1, z2, z3, z4, z5⟩ := (cAt wx hx).2.1.six; go_simp <;> rfl) hS ?_
  refine wpM_held 3 (v := .agg #[.int .i64 kB, .int .i64 cB, .int .i64 eB, .string sB, .bool bB, .int .i64 xB]) rfl (by kernel_rfl) (by kernel_rfl) rfl (fun _ _ _ h => h) rfl (by intro wx hx; obtain ⟨z0, z1, z2, z3, z4, z5⟩ := (cAt wx hx).2.1.six; go_simp <;> rfl) hS ?_
  refine wpM_held 4 (v := .agg #[.int .i64 kC, .int .i64 cC, .int .i64 eC, .string sC, .bool bC, .int .i64 xC]) rfl (by kernel_rfl) (by kernel_rfl) rfl (fun _ _ _ h => h) rfl (by intro wx hx; obtain ⟨z0, z1, z2, z3, z4, z5⟩ := (cAt wx hx).2.2.1.six; go_simp <;> rfl) hS ?_
  refine wpM_held 6 (v := .agg #[.int .i64 kA, .int .i64 cA, .int .i64 eA, .string sA, .bool bA, .int .i64 xA]) rfl (by kernel_rfl) (by kernel_rfl) rfl (fun _ _ _ h => h) rfl (by intro wx hx; obtain ⟨z0, z1, z2, z3, z4, z5⟩ := (cAt wx hx).1.six; go_simp <;> rfl) hS ?_
  refine wpM_held 7 (v := .agg #[.int .i64 kC, .int .i64 cC, .int .i64 eC, .string sC, .bool bC, .int .i64 xC]) rfl (by kernel_rfl) (by kernel_rfl) rfl (fun _ _ _ h => h) rfl (by intro wx hx; obtain ⟨z0, z1, z2, z3, z4, z5⟩ := (cAt wx hx).2.2.1.six; go_simp <;> rfl) hS ?_
  refine wpM_one 2 rfl (by kernel_rfl) rfl ?_
  go_wp2_with fail
  refine Calls.mono (CA _).out ?_
  rintro _ wa ⟨rfl, lwa⟩
  have hSa : Below w3.heap.size w3 wa := hS.trans (lwa.mono hS.size)
  go_wp2_with fail
  refine ⟨fun _ => hSa, ?_⟩
  refine wpM_one 5 rfl (by kernel_rfl) rfl ?_
  go_wp2_with fail
  refine Calls.mono (CB _).out ?_
  rintro _ wb ⟨rfl, lwb⟩
  have hSb : Below w3.heap.size w3 wb := hSa.trans (lwb.mono hSa.size)
  go_wp2_with fail
  refine ⟨fun _ => hSb, ?_⟩
  refine wpM_one 8 rfl (by kernel_rfl) rfl ?_
  go_wp2_with fail
  refine Calls.mono (CC _).out ?_
  rintro _ wc ⟨rfl, lwc⟩
  have hSc : Below w3.heap.size w3 wc := hSb.trans (lwc.mono hSb.size)
  go_wp2_with fail
  refine ⟨fun _ => hSc, ?_⟩
  refine wpM_one 9 rfl (by kernel_rfl) rfl ?_
  go_wp2_with fail
  refine ⟨fun h => absurd h (by decide), ?_⟩
  refine wpM_one 10 rfl (by kernel_rfl) rfl ?_
  go_wp2_with fail
  refine ⟨fun h => absurd h (by decide), ?_⟩
  refine wpM_one 11 rfl (by kernel_rfl) rfl ?_
  go_wp2_with fail
  refine ⟨fun h => absurd h (by decide), ?_⟩
  refine wpM_done (by kernel_rfl) ?_
  have h4 := h3.next hSc
  clear hS cAt hSa hSb hSc lwa lwb lwc h3 CA CB CC
  obtain ⟨a0, a1, a2, a3, a4, a5⟩ := h4.1.six
  obtain ⟨c0, c1, c2, c3, c4, c5⟩ := h4.2.1.six
  go_wp2_with fail
  refine Calls.mono (CD _).out ?_
  rintro _ w5 ⟨rfl, b5⟩
  have h5 := h4.next b5
  clear b5 h4 a0 a1 a2 a3 a4 a5 c0 c1 c2 c3 c4 c5 CD
  obtain ⟨a0, a1, a2, a3, a4, a5⟩ := h5.1.six
  go_wp2_with fail
  refine Calls.mono (CE _).out ?_
  rintro _ w6 ⟨rfl, b6⟩
  have h6 := h5.next b6
  clear b6 h5 a0 a1 a2 a3 a4 a5 CE
  go_wp2_with fail
  refine Calls.mono (HL _ (hE.next h6.2.2.2)).out ?_
  rintro _ w9 ⟨rfl, b9⟩
  have h9 := h6.next b9
  go_wp2
  go_ret
  exact ⟨rfl, h9.2.2.2⟩
end Go.Proofs.YtnhflnpjepiceaaGreatDoor
/- val: ValOrder's law, one way. -/
namespace Go.Proofs.YtnhflnpjepiceaaGreatDoor
open Go.RowKit

set_option maxRecDepth 100000 in
set_option maxHeartbeats 8000000 in
theorem order_C2 (kA cA eA : Int) (sA : ByteArray) (bA : Bool) (xA : Int) (kB cB eB : Int) (sB : ByteArray) (bB : Bool) (xB : Int) (kC cC eC : Int) (sC : ByteArray) (bC : Bool) (xC : Int) (x y z : Int)
    (OA : ∀ V, Hid (Calls Tryz.prog 42 #[.agg #[.int .i64 kA, .int .i64 cA, .int .i64 eA, .string sA, .bool bA, .int .i64 xA]] V fun r w' => r = .returned (.bool false) ∧ Below V.heap.size V w')) (OB : ∀ V, Hid (Calls Tryz.prog 42 #[.agg #[.int .i64 kB, .int .i64 cB, .int .i64 eB, .string sB, .bool bB, .int .i64 xB]] V fun r w' => r = .returned (.bool false) ∧ Below V.heap.size V w')) (OC : ∀ V, Hid (Calls Tryz.prog 42 #[.agg #[.int .i64 kC, .int .i64 cC, .int .i64 eC, .string sC, .bool bC, .int .i64 xC]] V fun r w' => r = .returned (.bool false) ∧ Below V.heap.size V w'))
    (CA : ∀ V, Hid (Calls Tryz.prog 36 #[.agg #[.int .i64 kA, .int .i64 cA, .int .i64 eA, .string sA, .bool bA, .int .i64 xA], .agg #[.int .i64 kB, .int .i64 cB, .int .i64 eB, .string sB, .bool bB, .int .i64 xB]] V fun r w' => r = .returned (.int .i64 x) ∧ Below V.heap.size V w')) (CB : ∀ V, Hid (Calls Tryz.prog 36 #[.agg #[.int .i64 kB, .int .i64 cB, .int .i64 eB, .string sB, .bool bB, .int .i64 xB], .agg #[.int .i64 kC, .int .i64 cC, .int .i64 eC, .string sC, .bool bC, .int .i64 xC]] V fun r w' => r = .returned (.int .i64 y) ∧ Below V.heap.size V w')) (CC : ∀ V, Hid (Calls Tryz.prog 36 #[.agg #[.int .i64 kA, .int .i64 cA, .int .i64 eA, .string sA, .bool bA, .int .i64 xA], .agg #[.int .i64 kC, .int .i64 cC, .int .i64 eC, .string sC, .bool bC, .int .i64 xC]] V fun r w' => r = .returned (.int .i64 z) ∧ Below V.heap.size V w')) (CD : ∀ V, Hid (Calls Tryz.prog 36 #[.agg #[.int .i64 kB, .int .i64 cB, .int .i64 eB, .string sB, .bool bB, .int .i64 xB], .agg #[.int .i64 kA, .int .i64 cA, .int .i64 eA, .string sA, .bool bA, .int .i64 xA]] V fun r w' => r = .returned (.int .i64 (-x)) ∧ Below V.heap.size V w')) (CE : ∀ V, Hid (Calls Tryz.prog 36 #[.agg #[.int .i64 kA, .int .i64 cA, .int .i64 eA, .string sA, .bool bA, .int .i64 xA], .agg #[.int .i64 kA, .int .i64 cA, .int .i64 eA, .string sA, .bool bA, .int .i64 xA]] V fun r w' => r = .returned (.int .i64 0) ∧ Below V.heap.size V w')) (hw : wrap64 (-x) = -x) (f1 : decide (x ≤ 0) = true) (f3 : decide (y ≤ 0) = true) (f5 : decide (0 < z) = false) (f2 : (x == 0) = true) (f4 : (y == 0) = false)
    (HL : ∀ V, Env V → Hid (Calls Tryz.prog 19 #[] V fun r w' => r = .returned (.bool true) ∧ Below V.heap.size V w')) (w : World) (hE : Env w) :
    Calls Tryz.prog 7 #[.agg #[.int .i64 kA, .int .i64 cA, .int .i64 eA, .string sA, .bool bA, .int .i64 xA], .agg #[.int .i64 kB, .int .i64 cB, .int .i64 eB, .string sB, .bool bB, .int .i64 xB], .agg #[.int .i64 kC, .int .i64 cC, .int .i64 eC, .string sC, .bool bC, .int .i64 xC]] w fun r w' => r = .returned (.bool true) ∧ Below w.heap.size w w' := by
  have h0 := P3.start w #[.int .i64 kA, .int .i64 cA, .int .i64 eA, .string sA, .bool bA, .int .i64 xA] #[.int .i64 kB, .int .i64 cB, .int .i64 eB, .string sB, .bool bB, .int .i64 xB] #[.int .i64 kC, .int .i64 cC, .int .i64 eC, .string sC, .bool bC, .int .i64 xC]
  go_enter Tryz.func7, Tryz.ntmps7
  go_upto_region 1 with fail
  generalize ((w.alloc (.cells #[.int .i64 kA, .int .i64 cA, .int .i64 eA, .string sA, .bool bA, .int .i64 xA] 25)).alloc (.cells #[.int .i64 kB, .int .i64 cB, .int .i64 eB, .string sB, .bool bB, .int .i64 xB] 25)).alloc (.cells #[.int .i64 kC, .int .i64 cC, .int .i64 eC, .string sC, .bool bC, .int .i64 xC] 25) = W at *
  obtain ⟨a0, a1, a2, a3, a4, a5⟩ := h0.1.six
  go_wp2_with fail
  refine Calls.mono (OA _).out ?_
  rintro _ w1 ⟨rfl, b1⟩
  have h1 := h0.next b1
  clear b1 h0 a0 a1 a2 a3 a4 a5 OA
  obtain ⟨a0, a1, a2, a3, a4, a5⟩ := h1.2.1.six
  go_wp2_with fail
  refine Calls.mono (OB _).out ?_
  rintro _ w2 ⟨rfl, b2⟩
  have h2 := h1.next b2
  clear b2 h1 a0 a1 a2 a3 a4 a5 OB
  obtain ⟨a0, a1, a2, a3, a4, a5⟩ := h2.2.2.1.six
  go_wp2_with fail
  refine Calls.mono (OC _).out ?_
  rintro _ w3 ⟨rfl, b3⟩
  have h3 := h2.next b3
  clear b3 h2 a0 a1 a2 a3 a4 a5 OC
  go_upto_region 4 with fail
  have hS : Below w3.heap.size w3 w3.drew := (Below.refl _ w3).drew
  have cAt := fun wx (hx : Below w3.heap.size w3 wx) => h3.next hx
  refine wp_region_M (fun wx : World => Below w3.heap.size w3 wx) (fun j => decide (j < 9)) 12 rfl (by kernel_rfl) ?_
  refine wpM_held 0 (v := .agg #[.int .i64 kA, .int .i64 cA, .int .i64 eA, .string sA, .bool bA, .int .i64 xA]) rfl (by kernel_rfl) (by kernel_rfl) rfl (fun _ _ _ h => h) rfl (by intro wx hx; obtain ⟨z0, z1, z2, z3, z4, z5⟩ := (cAt wx hx).1.six; go_simp <;> rfl) hS ?_
  refine wpM_held 1 (v := .agg #[.int .i64 kB, .int .i64 cB, .int .i64 eB, .string sB, .bool bB, .int .i64 xB]) rfl (by kernel_rfl) (by kernel_rfl) rfl (fun _ _ _ h => h) rfl (by intro wx hx; obtain ⟨z0, z1, z2, z3, z4, z5⟩ := (cAt wx hx).2.1.six; go_simp <;> rfl) hS ?_
  refine wpM_held 3 (v := .agg #[.int .i64 kB, .int .i64 cB, .int .i64 eB, .string sB, .bool bB, .int .i64 xB]) rfl (by kernel_rfl) (by kernel_rfl) rfl (fun _ _ _ h => h) rfl (by intro wx hx; obtain ⟨z0, z1, z2, z3, z4, z5⟩ := (cAt wx hx).2.1.six; go_simp <;> rfl) hS ?_
  refine wpM_held 4 (v := .agg #[.int .i64 kC, .int .i64 cC, .int .i64 eC, .string sC, .bool bC, .int .i64 xC]) rfl (by kernel_rfl) (by kernel_rfl) rfl (fun _ _ _ h => h) rfl (by intro wx hx; obtain ⟨z0, z1, z2, z3, z4, z5⟩ := (cAt wx hx).2.2.1.six; go_simp <;> rfl) hS ?_
  refine wpM_held 6 (v := .agg #[.int .i64 kA, .int .i64 cA, .int .i64 eA, .string sA, .bool bA, .int .i64 xA]) rfl (by kernel_rfl) (by kernel_rfl) rfl (fun _ _ _ h => h) rfl (by intro wx hx; obtain ⟨z0, z1, z2, z3, z4, z5⟩ := (cAt wx hx).1.six; go_simp <;> rfl) hS ?_
  refine wpM_held 7 (v := .agg #[.int .i64 kC, .int .i64 cC, .int .i64 eC, .string sC, .bool bC, .int .i64 xC]) rfl (by kernel_rfl) (by kernel_rfl) rfl (fun _ _ _ h => h) rfl (by intro wx hx; obtain ⟨z0, z1, z2, z3, z4, z5⟩ := (cAt wx hx).2.2.1.six; go_simp <;> rfl) hS ?_
  refine wpM_one 2 rfl (by kernel_rfl) rfl ?_
  go_wp2_with fail
  refine Calls.mono (CA _).out ?_
  rintro _ wa ⟨rfl, lwa⟩
  have hSa : Below w3.heap.size w3 wa := hS.trans (lwa.mono hS.size)
  go_wp2_with fail
  refine ⟨fun _ => hSa, ?_⟩
  refine wpM_one 5 rfl (by kernel_rfl) rfl ?_
  go_wp2_with fail
  refine Calls.mono (CB _).out ?_
  rintro _ wb ⟨rfl, lwb⟩
  have hSb : Below w3.heap.size w3 wb := hSa.trans (lwb.mono hSa.size)
  go_wp2_with fail
  refine ⟨fun _ => hSb, ?_⟩
  refine wpM_one 8 rfl (by kernel_rfl) rfl ?_
  go_wp2_with fail
  refine Calls.mono (CC _).out ?_
  rintro _ wc ⟨rfl, lwc⟩
  have hSc : Below w3.heap.size w3 wc := hSb.trans (lwc.mono hSb.size)
  go_wp2_with fail
  refine ⟨fun _ => hSc, ?_⟩
  refine wpM_one 9 rfl (by kernel_rfl) rfl ?_
  go_wp2_with fail
  refine ⟨fun h => absurd h (by decide), ?_⟩
  refine wpM_one 10 rfl (by kernel_rfl) rfl ?_
  go_wp2_with fail
  refine ⟨fun h => absurd h (by decide), ?_⟩
  refine wpM_one 11 rfl (by kernel_rfl) rfl ?_
  go_wp2_with fail
  refine ⟨fun h => absurd h (by decide), ?_⟩
  refine wpM_done (by kernel_rfl) ?_
  have h4 := h3.next hSc
  clear hS cAt hSa hSb hSc lwa lwb lwc h3 CA CB CC
  obtain ⟨a0, a1, a2, a3, a4, a5⟩ := h4.1.six
  obtain ⟨c0, c1, c2, c3, c4, c5⟩ := h4.2.1.six
  go_wp2_with fail
  refine Calls.mono (CD _).out ?_
  rintro _ w5 ⟨rfl, b5⟩
  have h5 := h4.next b5
  clear b5 h4 a0 a1 a2 a3 a4 a5 c0 c1 c2 c3 c4 c5 CD
  obtain ⟨a0, a1, a2, a3, a4, a5⟩ := h5.1.six
  go_wp2_with fail
  refine Calls.mono (CE _).out ?_
  rintro _ w6 ⟨rfl, b6⟩
  have h6 := h5.next b6
  clear b6 h5 a0 a1 a2 a3 a4 a5 CE
  go_wp2_with fail
  refine Calls.mono (HL _ (hE.next h6.2.2.2)).out ?_
  rintro _ w9 ⟨rfl, b9⟩
  have h9 := h6.next b9
  go_wp2
  go_ret
  exact ⟨rfl, h9.2.2.2⟩
end Go.Proofs.YtnhflnpjepiceaaGreatDoor
/- val: ValOrder's law, one way. -/
namespace Go.Proofs.YtnhflnpjepiceaaGreatDoor
open Go.RowKit

set_option maxRecDepth 100000 in
set_option maxHeartbeats 8000000 in
theorem order_C3 (kA cA eA : Int) (sA : ByteArray) (bA : Bool) (xA : Int) (kB cB eB : Int) (sB : ByteArray) (bB : Bool) (xB : Int) (kC cC eC : Int) (sC : ByteArray) (bC : Bool) (xC : Int) (x y z : Int)
    (OA : ∀ V, Hid (Calls Tryz.prog 42 #[.agg #[.int .i64 kA, .int .i64 cA, .int .i64 eA, .string sA, .bool bA, .int .i64 xA]] V fun r w' => r = .returned (.bool false) ∧ Below V.heap.size V w')) (OB : ∀ V, Hid (Calls Tryz.prog 42 #[.agg #[.int .i64 kB, .int .i64 cB, .int .i64 eB, .string sB, .bool bB, .int .i64 xB]] V fun r w' => r = .returned (.bool false) ∧ Below V.heap.size V w')) (OC : ∀ V, Hid (Calls Tryz.prog 42 #[.agg #[.int .i64 kC, .int .i64 cC, .int .i64 eC, .string sC, .bool bC, .int .i64 xC]] V fun r w' => r = .returned (.bool false) ∧ Below V.heap.size V w'))
    (CA : ∀ V, Hid (Calls Tryz.prog 36 #[.agg #[.int .i64 kA, .int .i64 cA, .int .i64 eA, .string sA, .bool bA, .int .i64 xA], .agg #[.int .i64 kB, .int .i64 cB, .int .i64 eB, .string sB, .bool bB, .int .i64 xB]] V fun r w' => r = .returned (.int .i64 x) ∧ Below V.heap.size V w')) (CB : ∀ V, Hid (Calls Tryz.prog 36 #[.agg #[.int .i64 kB, .int .i64 cB, .int .i64 eB, .string sB, .bool bB, .int .i64 xB], .agg #[.int .i64 kC, .int .i64 cC, .int .i64 eC, .string sC, .bool bC, .int .i64 xC]] V fun r w' => r = .returned (.int .i64 y) ∧ Below V.heap.size V w')) (CC : ∀ V, Hid (Calls Tryz.prog 36 #[.agg #[.int .i64 kA, .int .i64 cA, .int .i64 eA, .string sA, .bool bA, .int .i64 xA], .agg #[.int .i64 kC, .int .i64 cC, .int .i64 eC, .string sC, .bool bC, .int .i64 xC]] V fun r w' => r = .returned (.int .i64 z) ∧ Below V.heap.size V w')) (CD : ∀ V, Hid (Calls Tryz.prog 36 #[.agg #[.int .i64 kB, .int .i64 cB, .int .i64 eB, .string sB, .bool bB, .int .i64 xB], .agg #[.int .i64 kA, .int .i64 cA, .int .i64 eA, .string sA, .bool bA, .int .i64 xA]] V fun r w' => r = .returned (.int .i64 (-x)) ∧ Below V.heap.size V w')) (CE : ∀ V, Hid (Calls Tryz.prog 36 #[.agg #[.int .i64 kA, .int .i64 cA, .int .i64 eA, .string sA, .bool bA, .int .i64 xA], .agg #[.int .i64 kA, .int .i64 cA, .int .i64 eA, .string sA, .bool bA, .int .i64 xA]] V fun r w' => r = .returned (.int .i64 0) ∧ Below V.heap.size V w')) (hw : wrap64 (-x) = -x) (f1 : decide (x ≤ 0) = true) (f3 : decide (y ≤ 0) = true) (f5 : decide (0 < z) = false) (f2 : (x == 0) = true) (f4 : (y == 0) = true) (f6 : (z != 0) = false)
    (HL : ∀ V, Env V → Hid (Calls Tryz.prog 19 #[] V fun r w' => r = .returned (.bool true) ∧ Below V.heap.size V w')) (w : World) (hE : Env w) :
    Calls Tryz.prog 7 #[.agg #[.int .i64 kA, .int .i64 cA, .int .i64 eA, .string sA, .bool bA, .int .i64 xA], .agg #[.int .i64 kB, .int .i64 cB, .int .i64 eB, .string sB, .bool bB, .int .i64 xB], .agg #[.int .i64 kC, .int .i64 cC, .int .i64 eC, .string sC, .bool bC, .int .i64 xC]] w fun r w' => r = .returned (.bool true) ∧ Below w.heap.size w w' := by
  have h0 := P3.start w #[.int .i64 kA, .int .i64 cA, .int .i64 eA, .string sA, .bool bA, .int .i64 xA] #[.int .i64 kB, .int .i64 cB, .int .i64 eB, .string sB, .bool bB, .int .i64 xB] #[.int .i64 kC, .int .i64 cC, .int .i64 eC, .string sC, .bool bC, .int .i64 xC]
  go_enter Tryz.func7, Tryz.ntmps7
  go_upto_region 1 with fail
  generalize ((w.alloc (.cells #[.int .i64 kA, .int .i64 cA, .int .i64 eA, .string sA, .bool bA, .int .i64 xA] 25)).alloc (.cells #[.int .i64 kB, .int .i64 cB, .int .i64 eB, .string sB, .bool bB, .int .i64 xB] 25)).alloc (.cells #[.int .i64 kC, .int .i64 cC, .int .i64 eC, .string sC, .bool bC, .int .i64 xC] 25) = W at *
  obtain ⟨a0, a1, a2, a3, a4, a5⟩ := h0.1.six
  go_wp2_with fail
  refine Calls.mono (OA _).out ?_
  rintro _ w1 ⟨rfl, b1⟩
  have h1 := h0.next b1
  clear b1 h0 a0 a1 a2 a3 a4 a5 OA
  obtain ⟨a0, a1, a2, a3, a4, a5⟩ := h1.2.1.six
  go_wp2_with fail
  refine Calls.mono (OB _).out ?_
  rintro _ w2 ⟨rfl, b2⟩
  have h2 := h1.next b2
  clear b2 h1 a0 a1 a2 a3 a4 a5 OB
  obtain ⟨a0, a1, a2, a3, a4, a5⟩ := h2.2.2.1.six
  go_wp2_with fail
  refine Calls.mono (OC _).out ?_
  rintro _ w3 ⟨rfl, b3⟩
  have h3 := h2.next b3
  clear b3 h2 a0 a1 a2 a3 a4 a5 OC
  go_upto_region 4 with fail
  have hS : Below w3.heap.size w3 w3.drew := (Below.refl _ w3).drew
  have cAt := fun wx (hx : Below w3.heap.size w3 wx) => h3.next hx
  refine wp_region_M (fun wx : World => Below w3.heap.size w3 wx) (fun j => decide (j < 9)) 12 rfl (by kernel_rfl) ?_
  refine wpM_held 0 (v := .agg #[.int .i64 kA, .int .i64 cA, .int .i64 eA, .string sA, .bool bA, .int .i64 xA]) rfl (by kernel_rfl) (by kernel_rfl) rfl (fun _ _ _ h => h) rfl (by intro wx hx; obtain ⟨z0, z1, z2, z3, z4, z5⟩ := (cAt wx hx).1.six; go_simp <;> rfl) hS ?_
  refine wpM_held 1 (v := .agg #[.int .i64 kB, .int .i64 cB, .int .i64 eB, .string sB, .bool bB, .int .i64 xB]) rfl (by kernel_rfl) (by kernel_rfl) rfl (fun _ _ _ h => h) rfl (by intro wx hx; obtain ⟨z0, z1, z2, z3, z4, z5⟩ := (cAt wx hx).2.1.six; go_simp <;> rfl) hS ?_
  refine wpM_held 3 (v := .agg #[.int .i64 kB, .int .i64 cB, .int .i64 eB, .string sB, .bool bB, .int .i64 xB]) rfl (by kernel_rfl) (by kernel_rfl) rfl (fun _ _ _ h => h) rfl (by intro wx hx; obtain ⟨z0, z1, z2, z3, z4, z5⟩ := (cAt wx hx).2.1.six; go_simp <;> rfl) hS ?_
  refine wpM_held 4 (v := .agg #[.int .i64 kC, .int .i64 cC, .int .i64 eC, .string sC, .bool bC, .int .i64 xC]) rfl (by kernel_rfl) (by kernel_rfl) rfl (fun _ _ _ h => h) rfl (by intro wx hx; obtain ⟨z0, z1, z2, z3, z4, z5⟩ := (cAt wx hx).2.2.1.six; go_simp <;> rfl) hS ?_
  refine wpM_held 6 (v := .agg #[.int .i64 kA, .int .i64 cA, .int .i64 eA, .string sA, .bool bA, .int .i64 xA]) rfl (by kernel_rfl) (by kernel_rfl) rfl (fun _ _ _ h => h) rfl (by intro wx hx; obtain ⟨z0, z1, z2, z3, z4, z5⟩ := (cAt wx hx).1.six; go_simp <;> rfl) hS ?_
  refine wpM_held 7 (v := .agg #[.int .i64 kC, .int .i64 cC, .int .i64 eC, .string sC, .bool bC, .int .i64 xC]) rfl (by kernel_rfl) (by kernel_rfl) rfl (fun _ _ _ h => h) rfl (by intro wx hx; obtain ⟨z0, z1, z2, z3, z4, z5⟩ := (cAt wx hx).2.2.1.six; go_simp <;> rfl) hS ?_
  refine wpM_one 2 rfl (by kernel_rfl) rfl ?_
  go_wp2_with fail
  refine Calls.mono (CA _).out ?_
  rintro _ wa ⟨rfl, lwa⟩
  have hSa : Below w3.heap.size w3 wa := hS.trans (lwa.mono hS.size)
  go_wp2_with fail
  refine ⟨fun _ => hSa, ?_⟩
  refine wpM_one 5 rfl (by kernel_rfl) rfl ?_
  go_wp2_with fail
  refine Calls.mono (CB _).out ?_
  rintro _ wb ⟨rfl, lwb⟩
  have hSb : Below w3.heap.size w3 wb := hSa.trans (lwb.mono hSa.size)
  go_wp2_with fail
  refine ⟨fun _ => hSb, ?_⟩
  refine wpM_one 8 rfl (by kernel_rfl) rfl ?_
  go_wp2_with fail
  refine Calls.mono (CC _).out ?_
  rintro _ wc ⟨rfl, lwc⟩
  have hSc : Below w3.heap.size w3 wc := hSb.trans (lwc.mono hSb.size)
  go_wp2_with fail
  refine ⟨fun _ => hSc, ?_⟩
  refine wpM_one 9 rfl (by kernel_rfl) rfl ?_
  go_wp2_with fail
  refine ⟨fun h => absurd h (by decide), ?_⟩
  refine wpM_one 10 rfl (by kernel_rfl) rfl ?_
  go_wp2_with fail
  refine ⟨fun h => absurd h (by decide), ?_⟩
  refine wpM_one 11 rfl (by kernel_rfl) rfl ?_
  go_wp2_with fail
  refine ⟨fun h => absurd h (by decide), ?_⟩
  refine wpM_done (by kernel_rfl) ?_
  have h4 := h3.next hSc
  clear hS cAt hSa hSb hSc lwa lwb lwc h3 CA CB CC
  obtain ⟨a0, a1, a2, a3, a4, a5⟩ := h4.1.six
  obtain ⟨c0, c1, c2, c3, c4, c5⟩ := h4.2.1.six
  go_wp2_with fail
  refine Calls.mono (CD _).out ?_
  rintro _ w5 ⟨rfl, b5⟩
  have h5 := h4.next b5
  clear b5 h4 a0 a1 a2 a3 a4 a5 c0 c1 c2 c3 c4 c5 CD
  obtain ⟨a0, a1, a2, a3, a4, a5⟩ := h5.1.six
  go_wp2_with fail
  refine Calls.mono (CE _).out ?_
  rintro _ w6 ⟨rfl, b6⟩
  have h6 := h5.next b6
  clear b6 h5 a0 a1 a2 a3 a4 a5 CE
  go_wp2_with fail
  refine Calls.mono (HL _ (hE.next h6.2.2.2)).out ?_
  rintro _ w9 ⟨rfl, b9⟩
  have h9 := h6.next b9
  go_wp2
  go_ret
  exact ⟨rfl, h9.2.2.2⟩
end Go.Proofs.YtnhflnpjepiceaaGreatDoor
/- val: ValOrder's law, whole. -/
namespace Go.Proofs.YtnhflnpjepiceaaGreatDoor
open Go.RowKit

theorem vorder_any (a b c : Vl) (ha : I64 a.c) (hb : I64 b.c) (hc : I64 c.c) (w : World) (hE : Env w) : Calls Tryz.prog 7 #[a.v, b.v, c.v] w fun r w' => r = .returned (.bool true) ∧ Below w.heap.size w w' := by
  have OA : ∀ V, Hid (Calls Tryz.prog 42 #[a.v] V fun r w' => r = .returned (.bool (oddB a)) ∧ Below V.heap.size V w') := fun V => odd_any a ha V
  have OB : ∀ V, Hid (Calls Tryz.prog 42 #[b.v] V fun r w' => r = .returned (.bool (oddB b)) ∧ Below V.heap.size V w') := fun V => odd_any b hb V
  have OC : ∀ V, Hid (Calls Tryz.prog 42 #[c.v] V fun r w' => r = .returned (.bool (oddB c)) ∧ Below V.heap.size V w') := fun V => odd_any c hc V
  have HL : ∀ V, Env V → Hid (Calls Tryz.prog 19 #[] V fun r w' => r = .returned (.bool true) ∧ Below V.heap.size V w') := fun V hV => valive_any V hV
  cases oa : oddB a with
  | true => rw [oa] at OA; exact order_odd1 a.k a.c a.e a.s a.b a.x b.k b.c b.e b.s b.b b.x c.k c.c c.e c.s c.b c.x OA HL w hE
  | false =>
    rw [oa] at OA
    cases ob : oddB b with
    | true => rw [ob] at OB; exact order_odd2 a.k a.c a.e a.s a.b a.x b.k b.c b.e b.s b.b b.x c.k c.c c.e c.s c.b c.x OA OB HL w hE
    | false =>
      rw [ob] at OB
      cases oc : oddB c with
      | true => rw [oc] at OC; exact order_odd3 a.k a.c a.e a.s a.b a.x b.k b.c b.e b.s b.b b.x c.k c.c c.e c.s c.b c.x OA OB OC HL w hE
      | false =>
        rw [oc] at OC
        obtain ⟨bd, h1, h2, h3, h4⟩ := plain_order (odd_plain oa) (odd_plain ob) (odd_plain oc)
        have CA : ∀ V, Hid (Calls Tryz.prog 36 #[a.v, b.v] V fun r w' => r = .returned (.int .i64 (cmpVV a b)) ∧ Below V.heap.size V w') := fun V => vcmp_any a b ha hb V
        have CB : ∀ V, Hid (Calls Tryz.prog 36 #[b.v, c.v] V fun r w' => r = .returned (.int .i64 (cmpVV b c)) ∧ Below V.heap.size V w') := fun V => vcmp_any b c hb hc V
        have CC : ∀ V, Hid (Calls Tryz.prog 36 #[a.v, c.v] V fun r w' => r = .returned (.int .i64 (cmpVV a c)) ∧ Below V.heap.size V w') := fun V => vcmp_any a c ha hc V
        have CD : ∀ V, Hid (Calls Tryz.prog 36 #[b.v, a.v] V fun r w' => r = .returned (.int .i64 (-cmpVV a b)) ∧ Below V.heap.size V w') := fun V => by rw [← h1]; exact vcmp_any b a hb ha V
        have CE : ∀ V, Hid (Calls Tryz.prog 36 #[a.v, a.v] V fun r w' => r = .returned (.int .i64 0) ∧ Below V.heap.size V w') := fun V => by rw [← h2]; exact vcmp_any a a ha ha V
        clear h1 h2
        generalize cmpVV a b = x at *
        generalize cmpVV b c = y at *
        generalize cmpVV a c = z at *
        have hw : wrap64 (-x) = -x := by unfold wrap64; omega
        by_cases x1 : x ≤ 0
        · have f1 : decide (x ≤ 0) = true := decide_eq_true x1
          by_cases y1 : y ≤ 0
          · have f3 : decide (y ≤ 0) = true := decide_eq_true y1
            have f5 : decide (0 < z) = false := decide_eq_false (by have := h3 x1 y1; omega)
            by_cases x0 : x = 0
            · have f2 : (x == 0) = true := by simpa using x0
              by_cases y0 : y = 0
              · exact order_C3 a.k a.c a.e a.s a.b a.x b.k b.c b.e b.s b.b b.x c.k c.c c.e c.s c.b c.x x y z OA OB OC CA CB CC CD CE hw f1 f3 f5 f2 (by simpa using y0) (by simpa using h4 x0 y0) HL w hE
              · exact order_C2 a.k a.c a.e a.s a.b a.x b.k b.c b.e b.s b.b b.x c.k c.c c.e c.s c.b c.x x y z OA OB OC CA CB CC CD CE hw f1 f3 f5 f2 (by simpa using y0) HL w hE
            · exact order_C1 a.k a.c a.e a.s a.b a.x b.k b.c b.e b.s b.b b.x c.k c.c c.e c.s c.b c.x x y z OA OB OC CA CB CC CD CE hw f1 f3 f5 (by simpa using x0) HL w hE
          · have f3 : decide (y ≤ 0) = false := decide_eq_false y1
            by_cases x0 : x = 0
            · exact order_B0 a.k a.c a.e a.s a.b a.x b.k b.c b.e b.s b.b b.x c.k c.c c.e c.s c.b c.x x y z OA OB OC CA CB CC CD CE hw f1 f3 (by simpa using x0) (by simp; omega) HL w hE
            · exact order_B1 a.k a.c a.e a.s a.b a.x b.k b.c b.e b.s b.b b.x c.k c.c c.e c.s c.b c.x x y z OA OB OC CA CB CC CD CE hw f1 f3 (by simpa using x0) HL w hE
        · exact order_A a.k a.c a.e a.s a.b a.x b.k b.c b.e b.s b.b b.x c.k c.c c.e c.s c.b c.x x y z OA OB OC CA CB CC CD CE hw (decide_eq_false x1) (by simp; omega) HL w hE
end Go.Proofs.YtnhflnpjepiceaaGreatDoor
