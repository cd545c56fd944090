import Derived.Test.YtfbhonjndepjbaaDoorWrsM
import Derived.Test.YtfbhonjndepjbaaDoorWalM
/- remainder and Mod of any two numbers. -/
namespace Go.Proofs.YtfbhonjndepjbaaDoor
open Go.RowKit

theorem val_lo (y : Wd) (h : y.n < 18446744073709551616) : y.val = .agg #[.bool y.neg, .int .u64 ((0 : Nat) : Int), .int .u64 (y.n : Int), .int .i64 y.e] := by
  rw [Wd.val_eq]
  unfold Wd.cells
  rw [show y.n / 18446744073709551616 = 0 by omega, show y.n % 18446744073709551616 = y.n by omega]
theorem way_some (x : Wd) (h : x.n < M128) (e1 : -9223372036854775808 ≤ x.e) (e2 : x.e ≤ 9223372036854775807) : WayR (some x) (.returned (.tuple #[x.val, .bool true])) := ⟨x, true, rfl, h, e1, e2, rfl⟩
theorem way_none : WayR none (.returned (.tuple #[.agg #[.bool false, .int .u64 0, .int .u64 0, .int .i64 0], .bool false])) := ⟨⟨false, 0, 0⟩, false, rfl, by decide, by decide, by decide, rfl⟩
theorem remainder_any (a b : Wd) (ha : a.n < 18446744073709551616) (hb : b.n < 18446744073709551616) (hb0 : b.n ≠ 0) (ea : -400 ≤ a.e ∧ a.e ≤ 400) (eb : -400 ≤ b.e ∧ b.e ≤ 400) (w : World) :
    Calls Tryd.prog 60 #[a.val, b.val] w fun r w' => WayR (remW a b) r ∧ Below w.heap.size w w' := by
  have m128 : (18446744073709551616 : Nat) < M128 := by decide
  have haM : a.n < M128 := Nat.lt_trans ha m128
  have hbM : b.n < M128 := Nat.lt_trans hb m128
  have hL := fun w => lowered_any b a.e hbM (by omega) (by omega) (by omega) w
  have hza := fun w => zero_W a w
  rw [val_lo a ha] at hza ⊢
  rw [val_lo b hb] at hL ⊢
  unfold remW
  have hbe : ∀ x y : Bool, (x == y) = false → ¬ x = y := fun x y h e => by rw [e] at h; simp at h
  cases hl : lowW b a.e with
  | none =>
    rw [hl] at hL
    simp only
    refine rem_walk a.neg b.neg false a.neg 0 a.n 0 b.n 0 0 0 a.n a.e b.e 0 a.e false (decide (a.n = 0)) _ hL (.inr ⟨.inl rfl, rfl, rfl, rfl, rfl⟩) hza ?_ w
    by_cases h0 : a.n = 0
    · rw [if_pos (.inl h0), decide_eq_true h0, ← val_lo a ha]
      exact .inl ⟨rfl, way_some a haM (by omega) (by omega)⟩
    · rw [decide_eq_false h0]
      cases hs : (a.neg == b.neg)
      · rw [if_neg (by rintro (h | h); exact h0 h; exact hbe _ _ hs h)]
        exact .inr (.inr (.inl ⟨rfl, rfl, rfl, way_none⟩))
      · rw [if_pos (.inr (by simpa using hs)), ← val_lo a ha]
        exact .inr (.inl ⟨rfl, rfl, way_some a haM (by omega) (by omega)⟩)
  | some b' =>
    rw [hl] at hL
    obtain ⟨c1, c2, c3, c4, c5⟩ := lowW_some hl hbM
    have hb0' : b'.n ≠ 0 := by
      unfold lowW at hl
      split at hl
      · cases hl; exact hb0
      · split at hl
        · cases hl
          exact Nat.mul_ne_zero hb0 (Nat.pos_iff_ne_zero.1 (Nat.pow_pos (by decide)))
        · cases hl
    have hbE : -400 ≤ b'.e := by rcases c4 with h | h <;> omega
    simp only
    have hLv : pairV (some b') = .tuple #[b'.val, .bool true] := rfl
    rw [hLv] at hL
    by_cases h64 : b'.n < 18446744073709551616
    · rw [if_pos h64]
      have hL2 := hL
      rw [val_lo b' h64] at hL2
      obtain ⟨k, hk⟩ : ∃ k : Nat, a.e - b'.e = (k : Int) := ⟨(a.e - b'.e).toNat, by omega⟩
      have hkk : (a.e - b'.e).toNat = k := by omega
      rw [hkk]
      have hR := fun w => restOf_any a.neg b'.neg 0 0 a.n b'.n a.e b'.e k hk (by omega) (by omega) h64 w
      have hrl : a.n * 10 ^ k % b'.n < b'.n := Nat.mod_lt _ (by omega)
      obtain ⟨r, hre⟩ : ∃ r, a.n * 10 ^ k % b'.n = r := ⟨_, rfl⟩
      rw [hre] at hR hrl ⊢
      have hzr := fun w => zero_W ⟨a.neg, r, b'.e⟩ w
      have hrv : Wd.val ⟨a.neg, r, b'.e⟩ = .agg #[.bool a.neg, .int .u64 ((0 : Nat) : Int), .int .u64 (r : Int), .int .i64 b'.e] := val_lo ⟨a.neg, r, b'.e⟩ (by show r < _; omega)
      rw [hrv] at hzr
      have hrM : r < M128 := by omega
      have hsum := fun w => sum_any ⟨a.neg, r, b'.e⟩ b' hrM c1 ⟨by show _ ≤ b'.e; omega, by show b'.e ≤ _; omega⟩ ⟨by omega, by omega⟩ w
      rw [hrv, val_lo b' h64] at hsum
      have hway := way_some ⟨a.neg, r, b'.e⟩ hrM (by show _ ≤ b'.e; omega) (by show b'.e ≤ _; omega)
      rw [hrv] at hway
      refine rem_walk a.neg b.neg b'.neg a.neg 0 a.n 0 b.n 0 b'.n 0 r a.e b.e b'.e b'.e true (decide (r = 0)) _ hL2 (.inl ⟨rfl, rfl, hR⟩) hzr ?_ w
      by_cases h0 : r = 0
      · rw [if_pos (.inl h0), decide_eq_true h0]
        exact .inl ⟨rfl, hway⟩
      · rw [decide_eq_false h0]
        cases hs : (a.neg == b.neg)
        · rw [if_neg (by rintro (h | h); exact h0 h; exact hbe _ _ hs h)]
          exact .inr (.inr (.inr ⟨rfl, rfl, rfl, hsum⟩))
        · rw [if_pos (.inr (by simpa using hs))]
          exact .inr (.inl ⟨rfl, rfl, hway⟩)
    · rw [if_neg h64]
      have hph : (((b'.n / 18446744073709551616 : Nat) : Int) == 0) = false := by
        have : 1 ≤ b'.n / 18446744073709551616 := (Nat.le_div_iff_mul_le (by decide)).2 (by omega)
        rw [beq_eq_false_iff_ne]
        omega
      rw [Wd.val_eq] at hL
      unfold Wd.cells at hL
      have hsum := fun w => sum_any a b' haM c1 ⟨by omega, by omega⟩ ⟨by omega, by omega⟩ w
      rw [val_lo a ha, Wd.val_eq b'] at hsum
      unfold Wd.cells at hsum
      have hway := way_some a haM (by omega) (by omega)
      rw [val_lo a ha] at hway
      refine rem_walk a.neg b.neg b'.neg a.neg 0 a.n 0 b.n (b'.n / 18446744073709551616) (b'.n % 18446744073709551616) 0 a.n a.e b.e b'.e a.e true (decide (a.n = 0)) _ hL (.inr ⟨.inr ⟨rfl, hph⟩, rfl, rfl, rfl, rfl⟩) hza ?_ w
      by_cases h0 : a.n = 0
      · rw [if_pos (.inl h0), decide_eq_true h0]
        exact .inl ⟨rfl, hway⟩
      · rw [decide_eq_false h0]
        cases hs : (a.neg == b.neg)
        · rw [if_neg (by rintro (h | h); exact h0 h; exact hbe _ _ hs h)]
          exact .inr (.inr (.inr ⟨rfl, rfl, rfl, hsum⟩))
        · rw [if_pos (.inr (by simpa using hs))]
          exact .inr (.inl ⟨rfl, rfl, hway⟩)
/-- What Mod answers. -/
def modD (c e d f : Int) : Value := if (-18 ≤ e ∧ e ≤ 18) ∧ (-18 ≤ f ∧ f ≤ 18) then (if d = 0 then divV else decV (tell (modI (V (-18) c e) (V (-18) d f)) (-18))) else argV
theorem modD_form (c e d f : Int) : ∃ p q v, modD c e d f = .tuple #[.agg #[.int .i64 p, .int .i64 q], .int .i64 v] := by
  unfold modD
  split
  · split
    · exact ⟨0, 0, 31, rfl⟩
    · exact decV_form _
  · exact ⟨0, 0, 1, rfl⟩
theorem pmod_any (c e d f : Int) (hc : I64 c) (hd : I64 d) (w : World) : Calls Tryd.prog 20 #[.agg #[.int .i64 c, .int .i64 e], .agg #[.int .i64 d, .int .i64 f]] w fun r w' => r = .returned (modD c e d f) ∧ Below w.heap.size w w' := by
  obtain ⟨p, q, v, hv⟩ := modD_form c e d f
  rw [hv]
  refine op_20 c e d f p q v (fun w => ?_) w
  have hv2 : modD c e d f = .tuple #[dv p q, .int .i64 v] := hv
  show Calls Tryd.prog 55 #[.func (.func 60) #[] #[], dv c e, dv d f] w fun r w' => r = .returned (.tuple #[dv p q, .int .i64 v]) ∧ _
  rw [← hv2]
  unfold modD
  by_cases he : within e
  · by_cases hf : within f
    · rw [if_pos ⟨he, hf⟩]
      by_cases h0 : d = 0
      · rw [if_pos h0]
        exact divided_zero 60 c e d f hc he hd hf ((dec_zero d f).2 h0) w
      · rw [if_neg h0]
        obtain ⟨a1, a2, a3, a4⟩ := dec_bounds hc he
        obtain ⟨b1, b2, b3, b4⟩ := dec_bounds hd hf
        have sa := sh_dec c e he.1 he.2 hc.1 hc.2
        have sb := sh_dec d f hf.1 hf.2 hd.1 hd.2
        have hz : (decW d f).n ≠ 0 := fun h => h0 ((dec_zero d f).1 h)
        have h := divided_ok51 c e d f (remW (decW c e) (decW d f)) hc he hd hf hz (fun w => remainder_any _ _ a1 b1 hz ⟨by have := sa.lo; omega, by have := sa.hi; omega⟩ ⟨by have := sb.lo; omega, by have := sb.hi; omega⟩ w) w
        rw [told_rem _ _ sa sb hz, VW_dec' c e he, VW_dec' d f hf] at h
        exact h
    · rw [if_neg (fun h => hf h.2)]
      exact divided_bad2 60 c e d f hc he hf w
  · rw [if_neg (fun h => he h.1)]
    exact divided_bad1 60 c e d f he w
end Go.Proofs.YtfbhonjndepjbaaDoor
