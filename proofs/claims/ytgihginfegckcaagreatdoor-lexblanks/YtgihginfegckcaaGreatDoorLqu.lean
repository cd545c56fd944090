import Derived.Test.YtgihginfegckcaaGreatDoorLsm
/- lex's quoted: where a quoted text ends. -/
namespace Go.Proofs.YtgihginfegckcaaGreatDoor
open Go.RowKit

/-- How many signs go up to the quote that ends. -/
def qEnd (c : UInt8) : List UInt8 → Option Nat
  | [] => none
  | a :: r => if a = c then (match r with
      | [] => some 1
      | b :: r' => if b = c then (qEnd c r').map (· + 2) else some 1) else (qEnd c r).map (· + 1)
def quotedN (l : List UInt8) : Nat := match l with
  | [] => 0
  | c :: r => match qEnd c r with
    | none => 0
    | some k => k + 1
def restQ (c : UInt8) (l : List UInt8) (k : Nat) : Nat := match qEnd c (l.drop k) with
  | none => 0
  | some j => k + j
theorem qEnd_other {c a : UInt8} {r : List UInt8} (h : a ≠ c) : qEnd c (a :: r) = (qEnd c r).map (· + 1) := by
  rw [qEnd.eq_def]; simp only [if_neg h]
theorem qEnd_two {c : UInt8} {r : List UInt8} : qEnd c (c :: c :: r) = (qEnd c r).map (· + 2) := by
  rw [qEnd.eq_def]; simp
theorem qEnd_end {c : UInt8} {r : List UInt8} (h : ∀ b r', r = b :: r' → b ≠ c) : qEnd c (c :: r) = some 1 := by
  rw [qEnd.eq_def]
  cases r with
  | nil => simp
  | cons b r' => simp [h b r' rfl]
theorem quotedN_eq (c : UInt8) (r : List UInt8) : quotedN (c :: r) = restQ c (c :: r) 1 := by
  unfold quotedN restQ
  simp only [List.drop_succ_cons, List.drop_zero]
  cases qEnd c r <;> simp [Nat.add_comm]
theorem restQ_other {c : UInt8} {l : List UInt8} {k : Nat} (h : k < (bs l).size) (hc : (bs l)[k] ≠ c) : restQ c l k = restQ c l (k + 1) := by
  unfold restQ
  rw [drop_step l k h, qEnd_other hc]
  cases qEnd c (l.drop (k + 1)) <;> simp <;> omega
theorem restQ_two {c : UInt8} {l : List UInt8} {k : Nat} (h : k + 1 < (bs l).size) (hc : (bs l)[k] = c) (hd : (bs l)[k + 1] = c) : restQ c l k = restQ c l (k + 2) := by
  unfold restQ
  rw [drop_step l k (by omega), hc, drop_step l (k + 1) h, hd, qEnd_two]
  cases qEnd c (l.drop (k + 1 + 1)) <;> simp <;> omega
theorem restQ_end {c : UInt8} {l : List UInt8} {k : Nat} (h : k < (bs l).size) (hc : (bs l)[k] = c) (hd : ∀ h' : k + 1 < (bs l).size, (bs l)[k + 1] ≠ c) : restQ c l k = k + 1 := by
  unfold restQ
  rw [drop_step l k h, hc, qEnd_end]
  intro b r' e
  by_cases h' : k + 1 < (bs l).size
  · rw [drop_step l (k + 1) h'] at e
    have := hd h'
    intro hb
    exact this ((List.cons.inj e).1.trans hb)
  · have : l.drop (k + 1) = [] := List.drop_eq_nil_of_le (by rw [bs_size] at h'; omega)
    rw [this] at e; cases e
theorem restQ_none {c : UInt8} {l : List UInt8} : restQ c l (bs l).size = 0 := by
  unfold restQ
  rw [List.drop_eq_nil_of_le (by rw [bs_size]; omega)]
  rfl
theorem toNat_eqI {a b : UInt8} : ((a.toNat : Int) == (b.toNat : Int)) = decide (a = b) := by
  by_cases h : a = b
  · subst h; simp
  · rw [decide_eq_false h]
    refine beq_eq_false_iff_ne.2 (fun e => h (UInt8.toNat_inj.1 (by omega)))
set_option maxRecDepth 100000 in
set_option maxHeartbeats 1000000 in
theorem quoted_raw (l : List UInt8) (c : UInt8) (q : Nat) (h0 : 0 < (bs l).size) (hg : (bs l)[0]'h0 = c) (hsz : (bs l).size ≤ 140737488351232) (HQ : Hid (q = restQ c l 1)) (w : World) :
    Calls Tryz.prog 18 #[.string (bs l)] w fun e w' => e = .returned (.int .i64 ((q : Nat) : Int)) ∧ w' = w := by
  have h1 : 1 ≤ (bs l).size := h0
  obtain ⟨x, hx⟩ : ∃ x : Int, (((bs l)[0]'h0).toNat : Int) = x := ⟨_, rfl⟩
  have HX : Hid ((c.toNat : Int) = x) := by show _ = _; rw [← hx, hg]
  clear hg
  go_enter Tryz.func18, Tryz.ntmps18
  go_wp2
  clear hx
  go_loopw [4] (fun v4 wr => ∃ k : Nat, 1 ≤ k ∧ k ≤ (bs l).size ∧ v4 = .int .i64 (k : Int) ∧ Hid (q = restQ c l k) ∧ w = wr) (fun v4 _ => (bs l).size - (intOf v4).toNat)
  case atStart => exact ⟨1, by omega, h1, rfl, HQ, rfl⟩
  case round =>
    clear HQ
    obtain ⟨k, hk1, hk, rfl, HQ, rfl⟩ := hrel
    by_cases hlt : k < (bs l).size
    · have HK : Hid (k < (bs l).size) := hlt
      have hlt := hlt
      obtain ⟨y, hy⟩ : ∃ y : Int, (((bs l)[k]'hlt).toNat : Int) = y := ⟨_, rfl⟩
      have hyx : (y == x) = decide ((bs l)[k]'hlt = c) := by rw [← hy, ← HX.out]; exact toNat_eqI
      by_cases hc : (bs l)[k]'hlt = c
      · rw [decide_eq_true hc] at hyx
        have HC : Hid ((bs l)[k]'hlt = c) := hc
        clear hc
        have e1 : wrap64 ((k : Int) + 1) = ((k + 1 : Nat) : Int) := by unfold wrap64; omega
        by_cases h2 : k + 1 < (bs l).size
        · have hne : (((k : Int) + 1) == ((bs l).size : Int)) = false := beq_eq_false_iff_ne.2 (by omega)
          obtain ⟨z, hz⟩ : ∃ z : Int, (((bs l)[k + 1]'h2).toNat : Int) = z := ⟨_, rfl⟩
          have hzx : (z == x) = decide ((bs l)[k + 1]'h2 = c) := by rw [← hz, ← HX.out]; exact toNat_eqI
          by_cases hd : (bs l)[k + 1]'h2 = c
          · rw [decide_eq_true hd] at hzx
            have HN : Hid (q = restQ c l (k + 2)) := by show _ = _; rw [HQ.out, restQ_two h2 HC.out hd]
            clear hd HC HQ
            go_wp2
            go_roundw
            case rel => exact ⟨k + 2, by omega, by omega, by go_num, HN, trivial⟩
            case measure => have := HK.out; simp [intOf]; omega
          · rw [decide_eq_false hd] at hzx
            have HN : Hid (q = k + 1) := by show _ = _; rw [HQ.out, restQ_end hlt HC.out (fun _ => hd)]
            clear hd HC HQ
            go_wp2
            go_ret
            exact ⟨by rw [HN.out]; rfl, rfl⟩
        · have hne : (((k : Int) + 1) == ((bs l).size : Int)) = true := by simp; omega
          have HN : Hid (q = k + 1) := by show _ = _; rw [HQ.out, restQ_end hlt HC.out (fun h => absurd h h2)]
          clear HC HQ
          go_wp2
          go_ret
          exact ⟨by rw [HN.out]; rfl, rfl⟩
      · rw [decide_eq_false hc] at hyx
        have HN : Hid (q = restQ c l (k + 1)) := by show _ = _; rw [HQ.out, restQ_other hlt hc]
        clear hc HQ
        go_wp2
        go_roundw
        case rel => exact ⟨k + 1, by omega, HK.out, by go_num, HN, trivial⟩
        case measure => have := HK.out; simp [intOf]; omega
    · obtain rfl : k = (bs l).size := by omega
      have HN : Hid (q = 0) := by show _ = _; rw [HQ.out, restQ_none]
      clear HQ
      go_wp2
      go_ret
      exact ⟨by rw [HN.out]; rfl, rfl⟩
theorem quoted_any (c : UInt8) (r : List UInt8) (hl : (c :: r).length ≤ 140737488351232) (w : World) :
    Calls Tryz.prog 18 #[.string (bs (c :: r))] w fun e w' => e = .returned (.int .i64 ((quotedN (c :: r) : Nat) : Int)) ∧ w' = w :=
  quoted_raw (c :: r) c _ (by rw [bs_size]; simp) rfl (by rw [bs_size]; exact hl) (quotedN_eq c r) w
end Go.Proofs.YtgihginfegckcaaGreatDoor
