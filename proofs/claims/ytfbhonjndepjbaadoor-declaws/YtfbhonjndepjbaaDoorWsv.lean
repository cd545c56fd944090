/- sum, less, product: what they answer. -/
import Derived.Test.YtfbhonjndepjbaaDoorWsu
namespace Go.Proofs.YtfbhonjndepjbaaDoor
open Go.RowKit

theorem wayR_some {x : Wd} (h : x.n < M128) (he : EOk x) : WayR (some x) (.returned (.tuple #[x.val, .bool true])) := ⟨x, true, rfl, h, he.1, he.2, rfl⟩
theorem wayR_none : WayR none (.returned (.tuple #[.agg #[.bool false, .int .u64 0, .int .u64 0, .int .i64 0], .bool false])) := ⟨⟨false, 0, 0⟩, false, rfl, by decide, by decide, by decide, rfl⟩
theorem low_val (x : Wd) (t : Int) (h : x.n < M128) (he : EOk x) (ht : -9223372036854775808 ≤ t) :
    (lowW x t = none ∧ ∀ w, Calls Tryd.prog 71 #[x.val, .int .i64 t] w fun r w' => r = .returned (.tuple #[.agg #[.bool false, .int .u64 0, .int .u64 0, .int .i64 0], .bool false]) ∧ Below w.heap.size w w') ∨
    ∃ y, lowW x t = some y ∧ ∀ w, Calls Tryd.prog 71 #[x.val, .int .i64 t] w fun r w' => r = .returned (.tuple #[y.val, .bool true]) ∧ Below w.heap.size w w' := by
  have := lowered_any x t h he.2 he.1 ht
  cases hl : lowW x t with
  | none => rw [hl] at this; exact Or.inl ⟨rfl, this⟩
  | some y => rw [hl] at this; exact Or.inr ⟨y, rfl, this⟩
theorem sum_any (a b : Wd) (ha : a.n < M128) (hb : b.n < M128) (ea : EOk a) (eb : EOk b) (w : World) :
    Calls Tryd.prog 43 #[a.val, b.val] w fun r w' => WayR (sumW a b) r ∧ Below w.heap.size w w' := by
  have hza := zero_W a
  have hzb := zero_W b
  unfold sumW
  by_cases ha0 : a.n = 0
  · rw [decide_eq_true ha0] at hza
    rw [if_pos ha0]
    refine (sum_a0 a.neg b.neg _ _ _ _ a.e b.e hza w).mono ?_
    rintro r w' ⟨rfl, hB⟩
    exact ⟨wayR_some hb eb, hB⟩
  · rw [decide_eq_false ha0] at hza
    rw [if_neg ha0]
    by_cases hb0 : b.n = 0
    · rw [decide_eq_true hb0] at hzb
      rw [if_pos hb0]
      refine (sum_b0 a.neg b.neg _ _ _ _ a.e b.e hza hzb w).mono ?_
      rintro r w' ⟨rfl, hB⟩
      exact ⟨wayR_some ha ea, hB⟩
    · rw [decide_eq_false hb0] at hzb
      rw [if_neg hb0]
      rcases low_val a b.e ha ea eb.1 with ⟨hl, hla⟩ | ⟨a', hl, hla⟩
      · rw [hl]
        simp only
        rcases low_val b 0 hb eb (by omega) with ⟨_, hlb⟩ | ⟨y, _, hlb⟩
        · refine (sum_f1 a.neg b.neg _ _ _ _ a.e b.e false false 0 0 0 hza hzb hla hlb w).mono ?_
          rintro r w' ⟨rfl, hB⟩
          exact ⟨wayR_none, hB⟩
        · refine (sum_f1 a.neg b.neg _ _ _ _ a.e b.e y.neg true _ _ y.e hza hzb hla hlb w).mono ?_
          rintro r w' ⟨rfl, hB⟩
          exact ⟨wayR_none, hB⟩
      · rw [hl]
        simp only
        obtain ⟨p1, p2, p3, p4, p5⟩ := lowW_some hl ha
        have ea' : EOk a' := by unfold EOk at *; omega
        rcases low_val b a'.e hb eb ea'.1 with ⟨hl2, hlb⟩ | ⟨b', hl2, hlb⟩
        · rw [hl2]
          simp only
          refine (sum_f2 a.neg b.neg _ _ _ _ a.e b.e a'.neg _ _ a'.e hza hzb hla hlb w).mono ?_
          rintro r w' ⟨rfl, hB⟩
          exact ⟨wayR_none, hB⟩
        · rw [hl2]
          simp only
          obtain ⟨q1, q2, q3, q4, q5⟩ := lowW_some hl2 hb
          have eb' : EOk b' := by unfold EOk at *; omega
          unfold addW
          by_cases hs : a'.neg = b'.neg
          · rw [if_pos hs]
            have t1 := add64 (a'.n % 18446744073709551616) (b'.n % 18446744073709551616) 0 (by omega)
            have t2 := add64 (a'.n / 18446744073709551616) (b'.n / 18446744073709551616) ((a'.n % 18446744073709551616 + b'.n % 18446744073709551616 + 0) / 18446744073709551616) (by omega)
            unfold M128 at p1 q1
            have hlb' : ∀ w, Calls Tryd.prog 71 #[b.val, .int .i64 a'.e] w fun r w' => r = .returned (.tuple #[wv a'.neg (b'.n / 18446744073709551616) (b'.n % 18446744073709551616) b'.e, .bool true]) ∧ Below w.heap.size w w' := by rw [hs]; exact hlb
            refine (sum_ad a.neg b.neg _ _ _ _ a.e b.e a'.neg _ _ _ _ _ _ _ _ a'.e b'.e hza hzb hla hlb' t1 t2 w).mono ?_
            rintro r w' ⟨rfl, hB⟩
            refine ⟨?_, hB⟩
            have e1 : (a'.n % 18446744073709551616 + b'.n % 18446744073709551616 + 0) % 18446744073709551616 = ((a'.n + b'.n) % 340282366920938463463374607431768211456) % 18446744073709551616 := by omega
            have e2 : (a'.n / 18446744073709551616 + b'.n / 18446744073709551616 + (a'.n % 18446744073709551616 + b'.n % 18446744073709551616 + 0) / 18446744073709551616) % 18446744073709551616 = ((a'.n + b'.n) % 340282366920938463463374607431768211456) / 18446744073709551616 := by omega
            rw [e1, e2]
            refine ⟨⟨a'.neg, (a'.n + b'.n) % 340282366920938463463374607431768211456, a'.e⟩, decide (a'.n + b'.n < M128), ?_, ?_, ea'.1, ea'.2, ?_⟩
            · congr 4
              unfold M128
              by_cases hc : a'.n + b'.n < 340282366920938463463374607431768211456
              · rw [show (a'.n / 18446744073709551616 + b'.n / 18446744073709551616 + (a'.n % 18446744073709551616 + b'.n % 18446744073709551616 + 0) / 18446744073709551616) / 18446744073709551616 = 0 by omega]
                simp [hc]
              · rw [show (a'.n / 18446744073709551616 + b'.n / 18446744073709551616 + (a'.n % 18446744073709551616 + b'.n % 18446744073709551616 + 0) / 18446744073709551616) / 18446744073709551616 = 1 by omega]
                simp [hc]
            · show (a'.n + b'.n) % 340282366920938463463374607431768211456 < M128
              unfold M128; omega
            · by_cases hc : a'.n + b'.n < M128
              · rw [if_pos hc, decide_eq_true hc]
                simp only [if_true]
                unfold M128 at hc
                rw [Nat.mod_eq_of_lt hc]
              · rw [if_neg hc, decide_eq_false hc]
                simp
          · rw [if_neg hs]
            have hd := diff_any a' b' p1 q1
            have hdn : (diffW a' b').n < M128 ∧ EOk (diffW a' b') := by
              unfold diffW EOk at *
              split <;> (simp only; omega)
            cases hna : a'.neg <;> cases hnb : b'.neg
            · exact absurd (hna.trans hnb.symm) hs
            · unfold Wd.val at hla hlb hd
              rw [hna] at hla hd
              rw [hnb] at hlb hd
              refine (sum_ft a.neg b.neg _ _ _ _ a.e b.e _ _ _ _ _ _ _ a'.e b'.e _ hza hzb hla hlb hd w).mono ?_
              rintro r w' ⟨rfl, hB⟩
              exact ⟨wayR_some hdn.1 hdn.2, hB⟩
            · unfold Wd.val at hla hlb hd
              rw [hna] at hla hd
              rw [hnb] at hlb hd
              refine (sum_tf a.neg b.neg _ _ _ _ a.e b.e _ _ _ _ _ _ _ a'.e b'.e _ hza hzb hla hlb hd w).mono ?_
              rintro r w' ⟨rfl, hB⟩
              exact ⟨wayR_some hdn.1 hdn.2, hB⟩
            · exact absurd (hna.trans hnb.symm) hs
set_option maxRecDepth 100000 in
set_option maxHeartbeats 600000 in
theorem product_raw (an bn : Bool) (ah al bh bl H L : Nat) (ae be ee : Int) (m : ∀ w, Calls Tryd.prog 84 #[.int .u64 (al : Int), .int .u64 (bl : Int)] w fun e w' => e = .returned (.tuple #[.int .u64 (H : Int), .int .u64 (L : Int)]) ∧ w' = w) (he : wrap64 (ae + be) = ee) (w : World) :
    Calls Tryd.prog 52 #[wv an ah al ae, wv bn bh bl be] w fun r w' => r = .returned (.tuple #[wv (an != bn) H L ee, .bool true]) ∧ Below w.heap.size w w' := by
  unfold wv
  have HE : Hid (wrap64 (ae + be) = ee) := he
  clear he
  go_enter Tryd.func52, Tryd.ntmps52
  go_wp2_with fail
  refine (m _).mono ?_
  rintro _ w1 ⟨rfl, hw1⟩
  rw [hw1]
  clear hw1 w1
  go_wp2
  try rw [HE.out]
  refine bodyPost_ret (ret_two rfl (g := w.heap.size + 2) rfl rfl (load57 (three_rows w _ _ _ _ 59 59 59 (Below.refl _ _)).2.2.1 rfl)) rfl ⟨rfl, ?_⟩
  exact (((Below.refl _ w).alloc (Nat.le_refl _) _).alloc (by simp) _).alloc (by simp; omega) _
theorem product_any (a b : Wd) (ha : a.n < 18446744073709551616) (hb : b.n < 18446744073709551616) (ea : -1000 ≤ a.e ∧ a.e ≤ 1000) (eb : -1000 ≤ b.e ∧ b.e ≤ 1000) (w : World) :
    Calls Tryd.prog 52 #[a.val, b.val] w fun r w' => WayR (some (prodW a b)) r ∧ Below w.heap.size w w' := by
  have m := Tryd.bits_Mul64 (a.n % 18446744073709551616) (b.n % 18446744073709551616) (by omega) (by omega)
  rw [show a.n % 18446744073709551616 = a.n by omega, show b.n % 18446744073709551616 = b.n by omega] at m
  have hM : a.n * b.n < M128 := by
    unfold M128
    have := Nat.mul_lt_mul'' ha hb
    omega
  have := product_raw a.neg b.neg (a.n / 18446744073709551616) a.n (b.n / 18446744073709551616) b.n _ _ a.e b.e (a.e + b.e) m (by unfold wrap64; omega) w
  unfold Wd.val
  rw [show a.n % 18446744073709551616 = a.n by omega, show b.n % 18446744073709551616 = b.n by omega]
  refine this.mono ?_
  rintro r w' ⟨rfl, hB⟩
  exact ⟨wayR_some (x := prodW a b) hM ⟨by unfold prodW; simp only; omega, by unfold prodW; simp only; omega⟩, hB⟩
end Go.Proofs.YtfbhonjndepjbaaDoor
