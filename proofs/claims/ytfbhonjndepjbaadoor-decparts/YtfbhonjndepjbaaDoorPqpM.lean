import Derived.Test.YtfbhonjndepjbaaDoorWddM
import Derived.Test.YtfbhonjndepjbaaDoorWpo
/- Pure: what the document's power is told as: the program's. -/
namespace Go.Proofs.YtfbhonjndepjbaaDoor

/-- Powers of what doesn't end in a nought don't either. -/
theorem odd_pow {v : Nat} (h : v % 2 ≠ 0) : ∀ k, v ^ k % 2 ≠ 0
  | 0 => by simp
  | k + 1 => by
    have := odd_pow h k
    rw [Nat.pow_succ, Nat.mul_mod]
    have h1 : v ^ k % 2 = 1 := by omega
    have h2 : v % 2 = 1 := by omega
    rw [h1, h2]; decide
theorem mod5_mul {a b : Nat} (ha : a % 5 ≠ 0) (hb : b % 5 ≠ 0) : a * b % 5 ≠ 0 := by
  rw [Nat.mul_mod]
  have h1 : a % 5 = 1 ∨ a % 5 = 2 ∨ a % 5 = 3 ∨ a % 5 = 4 := by omega
  have h2 : b % 5 = 1 ∨ b % 5 = 2 ∨ b % 5 = 3 ∨ b % 5 = 4 := by omega
  rcases h1 with h1 | h1 | h1 | h1 <;> rcases h2 with h2 | h2 | h2 | h2 <;> rw [h1, h2] <;> decide
theorem five_pow {v : Nat} (h : v % 5 ≠ 0) : ∀ k, v ^ k % 5 ≠ 0
  | 0 => by simp
  | k + 1 => by rw [Nat.pow_succ]; exact mod5_mul (five_pow h k) h
theorem ten_pow {v : Nat} (h : v % 10 ≠ 0) (k : Nat) : v ^ k % 10 ≠ 0 := by
  by_cases h2 : v % 2 = 0
  · have := five_pow (v := v) (by omega) k; omega
  · have := odd_pow (v := v) h2 k; omega
theorem strip_ex : ∀ n : Nat, n ≠ 0 → ∃ u z : Nat, n = u * 10 ^ z ∧ u % 10 ≠ 0 := by
  intro n
  induction n using Nat.strongRecOn with
  | ind n ih =>
    intro hn
    by_cases h : n % 10 = 0
    · obtain ⟨u, z, h1, h2⟩ := ih (n / 10) (by omega) (by omega)
      refine ⟨u, z + 1, ?_, h2⟩
      rw [Nat.pow_succ, ← Nat.mul_assoc, ← h1]; omega
    · exact ⟨n, 0, by simp, h⟩
theorem strip_uni : ∀ (z z' u u' : Nat), u * 10 ^ z = u' * 10 ^ z' → u % 10 ≠ 0 → u' % 10 ≠ 0 → u = u' ∧ z = z'
  | 0, 0, u, u', h, _, _ => by simpa using h
  | 0, z' + 1, u, u', h, h1, _ => by
    rw [Nat.pow_succ, ← Nat.mul_assoc] at h
    simp at h; omega
  | z + 1, 0, u, u', h, _, h2 => by
    rw [Nat.pow_succ, ← Nat.mul_assoc] at h
    simp at h; omega
  | z + 1, z' + 1, u, u', h, h1, h2 => by
    rw [Nat.pow_succ, Nat.pow_succ, ← Nat.mul_assoc, ← Nat.mul_assoc] at h
    obtain ⟨a, b⟩ := strip_uni z z' u u' (by omega) h1 h2
    exact ⟨a, by omega⟩
theorem le_of_strip {u z A : Nat} (h : u * 10 ^ z = 10 ^ A) (hu : u % 10 ≠ 0) : z ≤ A := by
  obtain ⟨u', z', h1, h2⟩ := strip_ex u (by omega)
  apply Nat.le_of_not_lt
  intro hlt
  have h3 : u * 10 ^ (z - A) * 10 ^ A = 1 * 10 ^ A := by
    rw [Nat.mul_assoc, ← Nat.pow_add, show z - A + A = z by omega, h, Nat.one_mul]
  have h4 := Nat.eq_of_mul_eq_mul_right (ten_pos A) h3
  have h5 : 10 ^ (z - A) = 10 ^ (z - A - 1) * 10 := by rw [← Nat.pow_succ]; congr 1; omega
  rw [h5, ← Nat.mul_assoc] at h4
  omega
/-- Two numbers without noughts at their ends that make a power of ten: powers of two and of five. -/
theorem pair_ten : ∀ (A x y : Nat), x * y = 10 ^ A → x % 10 ≠ 0 → y % 10 ≠ 0 → (x = 2 ^ A ∧ y = 5 ^ A) ∨ (x = 5 ^ A ∧ y = 2 ^ A)
  | 0, x, y, h, _, _ => by
    left
    have := Nat.eq_one_of_mul_eq_one_right (m := x) (n := y) (by simpa using h)
    have h2 := Nat.eq_one_of_mul_eq_one_left (m := x) (n := y) (by simpa using h)
    simp [this, h2]
  | A + 1, x, y, h, hx, hy => by
    have key : ∀ x' y' : Nat, x = 2 * x' → y = 5 * y' → x = 2 ^ (A + 1) ∧ y = 5 ^ (A + 1) := by
      intro x' y' e1 e2
      have h' : x' * y' = 10 ^ A := by
        have e : 10 * (x' * y') = 10 * 10 ^ A := by
          rw [Nat.pow_succ] at h
          rw [Nat.mul_comm 10 (10 ^ A), ← h, e1, e2]
          rw [Nat.mul_mul_mul_comm]
        omega
      rcases pair_ten A x' y' h' (by omega) (by omega) with ⟨a, b⟩ | ⟨a, b⟩
      · exact ⟨by rw [e1, a, Nat.pow_succ, Nat.mul_comm], by rw [e2, b, Nat.pow_succ, Nat.mul_comm]⟩
      · cases A with
        | zero => simp at a b; subst a; subst b; exact ⟨by rw [e1], by rw [e2]⟩
        | succ A => rw [Nat.pow_succ] at a; omega
    have key2 : ∀ x' y' : Nat, x = 5 * x' → y = 2 * y' → x = 5 ^ (A + 1) ∧ y = 2 ^ (A + 1) := by
      intro x' y' e1 e2
      have h' : x' * y' = 10 ^ A := by
        have e : 10 * (x' * y') = 10 * 10 ^ A := by
          rw [Nat.pow_succ] at h
          rw [Nat.mul_comm 10 (10 ^ A), ← h, e1, e2]
          rw [Nat.mul_mul_mul_comm]
        omega
      rcases pair_ten A x' y' h' (by omega) (by omega) with ⟨a, b⟩ | ⟨a, b⟩
      · cases A with
        | zero => simp at a b; subst a; subst b; exact ⟨by rw [e1], by rw [e2]⟩
        | succ A => rw [Nat.pow_succ] at a; omega
      · exact ⟨by rw [e1, a, Nat.pow_succ, Nat.mul_comm], by rw [e2, b, Nat.pow_succ, Nat.mul_comm]⟩
    have h2 : x % 2 = 0 ∨ y % 2 = 0 := by
      by_cases a : x % 2 = 0
      · left; exact a
      · by_cases b : y % 2 = 0
        · right; exact b
        · exfalso
          have c : x * y % 2 = 1 := by rw [Nat.mul_mod, show x % 2 = 1 by omega, show y % 2 = 1 by omega]
          rw [h, Nat.pow_succ] at c
          omega
    have h5 : x % 5 = 0 ∨ y % 5 = 0 := by
      by_cases a : x % 5 = 0
      · left; exact a
      · by_cases b : y % 5 = 0
        · right; exact b
        · exfalso
          have c := mod5_mul a b
          rw [h, Nat.pow_succ] at c
          omega
    rcases h2 with h2 | h2
    · left; exact key (x / 2) (y / 5) (by omega) (by omega)
    · right; exact key2 (x / 5) (y / 2) (by omega) (by omega)
theorem quot_mod : ∀ (b n : Nat) (e : Int) (m : Nat) (f : Int), n % 10 ≠ 0 → (n % 2 = 0 → b % 2 ≠ 0) → (n % 5 = 0 → b % 5 ≠ 0) → quotL b n e = some (m, f) → m % 10 ≠ 0 := by
  intro b
  induction b using Nat.strongRecOn with
  | ind b ih =>
    intro n e m f hn i2 i5 h
    rw [quotL.eq_def] at h
    by_cases hb : b ≤ 1
    · rw [if_pos hb] at h
      cases h; exact hn
    · rw [if_neg hb] at h
      by_cases h10 : b % 10 = 0
      · rw [if_pos h10] at h
        exact ih (b / 10) (by omega) n _ m f hn (by omega) (by omega) h
      · rw [if_neg h10] at h
        by_cases h2 : b % 2 = 0
        · rw [if_pos h2] at h
          split at h
          · exact ih (b / 2) (by omega) (n * 5) _ m f (by omega) (by omega) (by omega) h
          · cases h
        · rw [if_neg h2] at h
          by_cases h5 : b % 5 = 0
          · rw [if_pos h5] at h
            split at h
            · exact ih (b / 5) (by omega) (n * 2) _ m f (by omega) (by omega) (by omega) h
            · cases h
          · rw [if_neg h5] at h; cases h
def negK (b : Bool) (k : Nat) : Bool := b && (k % 2 == 1)
theorem negK_succ (b : Bool) (k : Nat) : (negK b k != b) = negK b (k + 1) := by
  unfold negK
  rcases Nat.mod_two_eq_zero_or_one k with h | h
  · have : (k + 1) % 2 = 1 := by omega
    rw [h, this]; cases b <;> rfl
  · have : (k + 1) % 2 = 0 := by omega
    rw [h, this]; cases b <;> rfl
theorem powW_some (x : Wd) : ∀ k, x.n ^ k < M128 → powW x k = some ⟨negK x.neg k, x.n ^ k, x.e * k⟩
  | 0, _ => by simp [powW, oneW, negK]
  | k + 1, h => by
    have hk : x.n ^ k < M128 := by
      rcases Nat.eq_zero_or_pos x.n with h0 | h0
      · rw [h0]
        cases k with
        | zero => decide
        | succ k => rw [Nat.pow_succ]; simp [M128]
      · have := Nat.pow_le_pow_right (n := x.n) h0 (show k ≤ k + 1 by omega)
        omega
    show (powW x k).bind (stepW x) = _
    rw [powW_some x k hk]
    show stepW x _ = _
    unfold stepW
    rw [Nat.pow_succ] at h ⊢
    simp only
    rw [if_pos h, negK_succ]
    congr 2
    rw [Int.natCast_add, Int.mul_add]; simp
theorem powW_none (x : Wd) : ∀ k, ¬ x.n ^ k < M128 → powW x k = none
  | 0, h => by exact absurd (by decide : (1 : Nat) < M128) (by simpa using h)
  | k + 1, h => by
    show (powW x k).bind (stepW x) = _
    by_cases hk : x.n ^ k < M128
    · rw [powW_some x k hk]
      show stepW x _ = _
      unfold stepW
      rw [Nat.pow_succ] at h
      simp only
      rw [if_neg h]
    · rw [powW_none x k hk]; rfl
theorem pow_sign (c : Int) (hc : c ≠ 0) : ∀ k : Nat, decide (c ^ k < 0) = negK (decide (c < 0)) k
  | 0 => by simp [negK]
  | k + 1 => by
    rw [← negK_succ, ← pow_sign c hc k, Int.pow_succ]
    have hk : c ^ k ≠ 0 := Int.pow_ne_zero hc
    by_cases h1 : c < 0
    · by_cases h2 : c ^ k < 0
      · have := Int.mul_pos_of_neg_of_neg h2 h1
        rw [decide_eq_true h1, decide_eq_true h2, decide_eq_false (by omega)]; rfl
      · have := Int.mul_neg_of_pos_of_neg (show 0 < c ^ k by omega) h1
        rw [decide_eq_true h1, decide_eq_false h2, decide_eq_true this]; rfl
    · by_cases h2 : c ^ k < 0
      · have := Int.mul_neg_of_neg_of_pos h2 (show 0 < c by omega)
        rw [decide_eq_false h1, decide_eq_true h2, decide_eq_true this]; rfl
      · have := Int.mul_pos (show 0 < c ^ k by omega) (show 0 < c by omega)
        rw [decide_eq_false h1, decide_eq_false h2, decide_eq_false (by omega)]; rfl
/-- A number as a factor n times, n no less than 0. -/
theorem pow_up (c e : Int) (k : Nat) : toldW (powW (decW c e) k) = tell (c ^ k) (e * k) := by
  by_cases hc : c = 0
  · subst hc
    have d0 : decW 0 e = ⟨false, 0, 0⟩ := by unfold decW shortW numW; simp
    rw [d0]
    cases k with
    | zero => simp [powW, oneW, toldW, tell]
    | succ k =>
      rw [powW_some _ _ (by rw [Nat.pow_succ]; simp [M128])]
      rw [Int.pow_succ, Nat.pow_succ]
      simp [toldW, tell, tellW_zero]
  · obtain ⟨j, a1, a2, a3, a4, _, a6⟩ := strip_of c e hc
    generalize decW c e = y at *
    have hv : tell (c ^ k) (e * k) = tellW (negK (decide (c < 0)) k) (y.n ^ k) (y.e * k) := by
      unfold tell
      rw [pow_sign c hc k, Int.natAbs_pow, a1, Nat.mul_pow, ← Nat.pow_mul]
      have := tellW_pow (negK (decide (c < 0)) k) (y.n ^ k) (y.e * k) (j * k)
      rw [← this]
      congr 1
      rw [a2, Int.natCast_mul, Int.add_mul]; omega
    rw [hv]
    by_cases hk : y.n ^ k < M128
    · rw [powW_some y k hk, ← a4]; rfl
    · rw [powW_none y k hk]
      have hbig : 9223372036854775808 < y.n ^ k := by unfold M128 at hk; omega
      rw [tellW_big _ _ _ ?_ hbig]
      · rfl
      · rcases a6 with h | h
        · exact Or.inl (ten_pow h k)
        · cases k with
          | zero => simp at hbig
          | succ k =>
            right
            have : (1 : Int) ≤ ((k + 1 : Nat) : Int) := by omega
            have h3 := Int.mul_le_mul_of_nonneg_left this (show (0 : Int) ≤ y.e by omega)
            omega
end Go.Proofs.YtfbhonjndepjbaaDoor
/- Pure: powers below 0: what the document tells is what the program tells. -/
namespace Go.Proofs.YtfbhonjndepjbaaDoor

/-- What Pow answers below 0, by the program. -/
def downP (y : Wd) (k : Nat) : Option (Int × Int) := toldW ((quotW oneW y).bind fun f => if f.n < 18446744073709551616 then powW f k else none)
/-- And by the document: u is the power's number without noughts, E its exponent. -/
def downD (sg : Bool) (u : Nat) (E : Int) : Option (Int × Int) := if 10 ^ 60 ≤ u then none else if 10 ^ 200 % u = 0 then tellW sg (10 ^ 200 / u) (-E - 200) else none
theorem quot_one (y : Wd) : quotW oneW y = (quotL y.n 1 (0 - y.e)).map fun p => ⟨y.neg, p.1, p.2⟩ := by
  unfold quotW oneW
  simp
theorem pow_down (c e : Int) (hc : c ≠ 0) (hc2 : c.natAbs ≤ 9223372036854775808) (k : Nat) (hk : 1 ≤ k) (u z : Nat) (hu : c.natAbs ^ k = u * 10 ^ z) (hu10 : u % 10 ≠ 0) :
    downP (decW c e) k = downD (negK (decide (c < 0)) k) u (e * k + z) := by
  obtain ⟨k1, a1, a2, a3, a4, _, a6⟩ := strip_of c e hc
  unfold downP
  rw [quot_one]
  generalize decW c e = y at *
  have hyc : y.n ≤ c.natAbs := by rw [a1]; exact Nat.le_mul_of_pos_right _ (ten_pos _)
  have hu2 : y.n ^ k * 10 ^ (k1 * k) = u * 10 ^ z := by rw [← hu, a1, Nat.mul_pow, ← Nat.pow_mul]
  have h64 : (2 : Nat) ^ 64 = 18446744073709551616 := by decide
  cases hq : quotL y.n 1 (0 - y.e) with
  | some p =>
    obtain ⟨m, f⟩ := p
    obtain ⟨t, b1, b2, b3⟩ := quot_val 64 y.n 1 _ m f (by omega) (by omega) hq
    have hm10 := quot_mod y.n 1 _ m f (by decide) (by intro h; cases h) (by intro h; cases h) hq
    rw [Nat.one_mul] at b3
    have hmk := ten_pow hm10 k
    have hP : toldW (((some (⟨y.neg, m, f⟩ : Wd))).bind fun f => if f.n < 18446744073709551616 then powW f k else none) = tellW (negK (decide (c < 0)) k) (m ^ k) (f * k) := by
      have hmm : m ≤ m ^ k := Nat.le_self_pow (by omega) m
      show toldW (if m < 18446744073709551616 then powW ⟨y.neg, m, f⟩ k else none) = _
      by_cases h1 : m < 18446744073709551616
      · rw [if_pos h1]
        by_cases h2 : m ^ k < M128
        · rw [powW_some ⟨y.neg, m, f⟩ k h2, a4]; rfl
        · rw [powW_none ⟨y.neg, m, f⟩ k h2, tellW_big _ _ _ (Or.inl hmk) (by unfold M128 at h2; omega)]; rfl
      · rw [if_neg h1, tellW_big _ _ _ (Or.inl hmk) (by omega)]; rfl
    show toldW (((some (⟨y.neg, m, f⟩ : Wd))).bind fun f => if f.n < 18446744073709551616 then powW f k else none) = _
    rw [hP]
    have hT : m ^ k * u * 10 ^ z = 10 ^ (t * k + k1 * k) := by
      rw [Nat.mul_assoc, ← hu2, ← Nat.mul_assoc, ← Nat.mul_pow, ← b3, ← Nat.pow_mul, ← Nat.pow_add]
    have hmu : m ^ k * u % 10 ≠ 0 ∨ m ^ k * u % 10 = 0 := by omega
    obtain ⟨A, hA, hzA⟩ : ∃ A, m ^ k * u = 10 ^ A ∧ A + z = t * k + k1 * k := by
      have hz : z ≤ t * k + k1 * k := by
        obtain ⟨w, v, hw, hw10⟩ := strip_ex (m ^ k * u) (by intro h; rw [h] at hT; have := ten_pos (t * k + k1 * k); omega)
        rw [hw, Nat.mul_assoc, ← Nat.pow_add] at hT
        have := le_of_strip hT hw10
        omega
      refine ⟨t * k + k1 * k - z, ?_, by omega⟩
      apply Nat.eq_of_mul_eq_mul_right (ten_pos z)
      rw [hT, ← Nat.pow_add]; congr 1; omega
    have hEx : f * k = -(e * k + z) - A := by
      have : ((A : Int) + z) = t * k + k1 * k := by exact_mod_cast hzA
      rw [b1, a2, Int.sub_mul, Int.sub_mul, Int.add_mul]; omega
    have hD : ∀ hA200 : A ≤ 200, 10 ^ 200 % u = 0 ∧ tellW (negK (decide (c < 0)) k) (10 ^ 200 / u) (-(e * k + z) - 200) = tellW (negK (decide (c < 0)) k) (m ^ k) (f * k) := by
      intro hA200
      have hu0 : 0 < u := by omega
      have e1 : 10 ^ 200 = m ^ k * 10 ^ (200 - A) * u := by
        rw [Nat.mul_right_comm, hA, ← Nat.pow_add]; congr 1; omega
      rw [e1, Nat.mul_mod_left, Nat.mul_div_cancel _ hu0]
      refine ⟨rfl, ?_⟩
      rw [← tellW_pow _ (m ^ k) (f * k) (200 - A), hEx]
      congr 1; omega
    unfold downD
    have c60 : (10 : Nat) ^ 60 = 1000000000000000000000000000000000000000000000000000000000000 := by decide
    rcases pair_ten A (m ^ k) u hA hmk hu10 with ⟨p1, p2⟩ | ⟨p1, p2⟩
    · by_cases hA85 : A ≤ 85
      · obtain ⟨d1, d2⟩ := hD (by omega)
        have : 5 ^ A ≤ 5 ^ 85 := Nat.pow_le_pow_right (by decide) hA85
        have c5 : (5 : Nat) ^ 85 = 258493941422821148397315216271863391739316284656524658203125 := by decide
        rw [if_neg (by omega), if_pos d1, d2]
      · have : 5 ^ 86 ≤ 5 ^ A := Nat.pow_le_pow_right (by decide) (by omega)
        have c5 : (5 : Nat) ^ 86 = 1292469707114105741986576081359316958696581423282623291015625 := by decide
        have : 2 ^ 86 ≤ 2 ^ A := Nat.pow_le_pow_right (by decide) (by omega)
        have c2 : (2 : Nat) ^ 86 = 77371252455336267181195264 := by decide
        rw [if_pos (by omega), tellW_big _ _ _ (Or.inl hmk) (by omega)]
    · by_cases hA199 : A ≤ 199
      · obtain ⟨d1, d2⟩ := hD (by omega)
        have : 2 ^ A ≤ 2 ^ 199 := Nat.pow_le_pow_right (by decide) hA199
        have c2 : (2 : Nat) ^ 199 = 803469022129495137770981046170581301261101496891396417650688 := by decide
        rw [if_neg (by omega), if_pos d1, d2]
      · have : 2 ^ 200 ≤ 2 ^ A := Nat.pow_le_pow_right (by decide) (by omega)
        have c2 : (2 : Nat) ^ 200 = 1606938044258990275541962092341162602522202993782792835301376 := by decide
        have : 5 ^ 86 ≤ 5 ^ A := Nat.pow_le_pow_right (by decide) (by omega)
        have c5 : (5 : Nat) ^ 86 = 1292469707114105741986576081359316958696581423282623291015625 := by decide
        rw [if_pos (by omega), tellW_big _ _ _ (Or.inl hmk) (by omega)]
  | none =>
    show none = _
    unfold downD
    split
    · rfl
    · split
      · rename_i hd
        cases ht : tellW (negK (decide (c < 0)) k) (10 ^ 200 / u) (-(e * k + z) - 200) with
        | none => rfl
        | some p =>
          exfalso
          obtain ⟨C, E⟩ := p
          have hu0 : 0 < u := by omega
          have hqu : 10 ^ 200 / u * u = 10 ^ 200 := Nat.div_mul_cancel (Nat.dvd_of_mod_eq_zero hd)
          have hq0 : 10 ^ 200 / u ≠ 0 := by intro h; rw [h] at hqu; have := ten_pos 200; omega
          obtain ⟨_, _, hC0, _, c1, c2, _, i, j, c3, _⟩ := tellW_some ht hq0
          generalize 10 ^ 200 / u = q at *
          -- |C| u 10^j = 10^(200 + i)
          have hB0 : C.natAbs * u * 10 ^ j = 10 ^ (200 + i) := by
            rw [Nat.mul_right_comm, ← c3, Nat.mul_right_comm, hqu, ← Nat.pow_add]
          obtain ⟨C', r, hC', hC10⟩ := strip_ex C.natAbs (by omega)
          have hB1 : C' * u * 10 ^ (r + j) = 10 ^ (200 + i) := by
            rw [← hB0, hC', Nat.pow_add]
            simp only [Nat.mul_assoc, Nat.mul_left_comm, Nat.mul_comm]
          obtain ⟨B, hB⟩ : ∃ B, C' * u = 10 ^ B := by
            obtain ⟨w, v, hw, hw10⟩ := strip_ex (C' * u) (by
              intro h; rw [h] at hB1; have := ten_pos (200 + i); omega)
            have hB2 := hB1
            rw [hw, Nat.mul_assoc, ← Nat.pow_add] at hB2
            have hle := le_of_strip hB2 hw10
            refine ⟨200 + i - (r + j), ?_⟩
            apply Nat.eq_of_mul_eq_mul_right (ten_pos (r + j))
            rw [hB1, ← Nat.pow_add]; congr 1; omega
          -- y.n = v 10^s, v^k = u
          obtain ⟨v, s, hv, hv10⟩ := strip_ex y.n a3
          have hvk : v ^ k = u := by
            have h1 : v ^ k * 10 ^ (s * k + k1 * k) = u * 10 ^ z := by
              rw [← hu2, hv, Nat.mul_pow, ← Nat.pow_mul, Nat.mul_assoc, ← Nat.pow_add]
            exact (strip_uni _ _ _ _ h1 (ten_pow hv10 k) hu10).1
          have hvd : v ∣ 10 ^ B := by
            rw [← hB, ← hvk]
            obtain ⟨k', rfl⟩ : ∃ k', k = k' + 1 := ⟨k - 1, by omega⟩
            exact ⟨C' * v ^ k', by rw [Nat.pow_succ]; simp only [Nat.mul_left_comm, Nat.mul_comm]⟩
          obtain ⟨Z0, hZ0⟩ := hvd
          obtain ⟨Z, r2, hZ, hZ10⟩ := strip_ex Z0 (by intro h; rw [h] at hZ0; have := ten_pos B; omega)
          have hZv : Z * v * 10 ^ r2 = 10 ^ B := by rw [hZ0, hZ]; simp only [Nat.mul_assoc, Nat.mul_comm]
          obtain ⟨D, hD⟩ : ∃ D, Z * v = 10 ^ D := by
            obtain ⟨w, v2, hw, hw10⟩ := strip_ex (Z * v) (by
              intro h; rw [h] at hZv; have := ten_pos B; omega)
            have h2 := hZv
            rw [hw, Nat.mul_assoc, ← Nat.pow_add] at h2
            have hle := le_of_strip h2 hw10
            refine ⟨B - r2, ?_⟩
            apply Nat.eq_of_mul_eq_mul_right (ten_pos r2)
            rw [hZv, ← Nat.pow_add]; congr 1; omega
          have hZk : Z ^ k = C' := by
            have h1 : Z ^ k * u = 10 ^ (D * k) := by rw [← hvk, ← Nat.mul_pow, hD, ← Nat.pow_mul]
            have h2 : Z ^ k * 10 ^ B = C' * 10 ^ (D * k) := by
              rw [← hB, ← h1]; simp only [Nat.mul_assoc, Nat.mul_left_comm, Nat.mul_comm]
            exact (strip_uni _ _ _ _ h2 (ten_pow hZ10 k) hC10).1
          have hZle : Z ≤ 9223372036854775808 := by
            have h1 : Z ≤ Z ^ k := Nat.le_self_pow (by omega) Z
            have h2 : C' ≤ C.natAbs := by rw [hC']; exact Nat.le_mul_of_pos_right _ (ten_pos _)
            omega
          obtain ⟨m, f, hmf, _⟩ := quot_found Z (0 - y.e - ((D + s : Nat) : Int)) hZle y.n 1 (0 - y.e) (D + s) 0 (by omega) (by omega) (Nat.coprime_one_left _) (by
            rw [Nat.one_mul, Nat.pow_zero, Nat.mul_one, hv, ← Nat.mul_assoc, hD, ← Nat.pow_add]) (by omega)
          rw [hq] at hmf; cases hmf
      · rfl
end Go.Proofs.YtfbhonjndepjbaaDoor
/- dec: power of a factor that is too great: nothing. -/
namespace Go.Proofs.YtfbhonjndepjbaaDoor
open Go.RowKit

set_option maxRecDepth 100000 in
set_option maxHeartbeats 4000000 in
theorem power_big (xn : Bool) (hi m : Nat) (xe : Int) (hh : ¬ hi = 0) (n : Int) (hn : 0 < n) (w : World) :
    Calls Tryd.prog 63 #[.agg #[.bool xn, .int .u64 (hi : Int), .int .u64 m, .int .i64 xe], .int .i64 n] w fun r w' => WayR none r ∧ Below w.heap.size w w' := by
  have HN : ∀ V, Hid (Calls Tryd.prog 62 #[.int .i64 1, .int .i64 0] V fun r w' => r = .returned (.agg #[.bool false, .int .u64 0, .int .u64 1, .int .i64 0]) ∧ Below V.heap.size V w') := fun V => number_any 1 0 (by decide) (by decide) V
  have hh2 : ((hi : Int) == 0) = false := by simp; omega
  have r0 := (Row.new w 59 #[.bool xn, .int .u64 (hi : Int), .int .u64 m, .int .i64 xe]).alloc (.cells #[.bool false, .int .u64 0, .int .u64 0, .int .i64 0] 59)
  have r1 := Row.new1 w (.cells #[.bool xn, .int .u64 (hi : Int), .int .u64 m, .int .i64 xe] 59) 59 #[.bool false, .int .u64 0, .int .u64 0, .int .i64 0]
  have b0 : Below w.heap.size w ((w.alloc (.cells #[.bool xn, .int .u64 (hi : Int), .int .u64 m, .int .i64 xe] 59)).alloc (.cells #[.bool false, .int .u64 0, .int .u64 0, .int .i64 0] 59)) := ((Below.refl _ w).alloc (Nat.le_refl _) _).alloc (by simp) _
  have hs0 : ((w.alloc (.cells #[.bool xn, .int .u64 (hi : Int), .int .u64 m, .int .i64 xe] 59)).alloc (.cells #[.bool false, .int .u64 0, .int .u64 0, .int .i64 0] 59)).heap.size = w.heap.size + 2 := by simp
  clear hh
  go_enter Tryd.func63, Tryd.ntmps63
  go_upto_region 1 with fail
  generalize (w.alloc (.cells #[.bool xn, .int .u64 (hi : Int), .int .u64 m, .int .i64 xe] 59)).alloc (.cells #[.bool false, .int .u64 0, .int .u64 0, .int .i64 0] 59) = W at *
  have hW2 : w.heap.size + 1 < W.heap.size := by omega
  clear hs0
  have hS : Below W.heap.size W W.drew := (Below.refl _ W).drew
  have ca := fun wx (hx : Below W.heap.size W wx) => (r0.below hx r0.lt).four
  refine wp_region_M (fun wx : World => Below W.heap.size W wx) (fun j => decide (j < 6)) 7 rfl (by kernel_rfl) ?_
  refine wpM_held 1 (v := ?_) rfl (by kernel_rfl) (by kernel_rfl) rfl (fun _ _ _ h => h) rfl (by intro wx hx; go_simp <;> rfl) hS ?_
  refine wpM_held 2 (v := .int .u64 (hi : Int)) rfl (by kernel_rfl) (by kernel_rfl) rfl (fun _ _ _ h => h) rfl (by intro wx hx; obtain ⟨z0, z1, z2, z3⟩ := ca wx hx; go_simp <;> rfl) hS ?_
  refine wpM_held 3 (v := .bool false) rfl (by kernel_rfl) (by kernel_rfl) rfl (fun _ _ _ h => h) rfl (by intro wx hx; go_simp) hS ?_
  refine wpM_two 0 4 rfl rfl (by kernel_rfl) rfl rfl ?_ ?_
  · go_wp2_with fail
    refine Calls.mono (HN _).out ?_
    rintro _ w1 ⟨rfl, b1⟩
    have hS1 : Below W.heap.size W w1 := hS.trans (b1.mono hS.size)
    go_wp2_with fail
    refine ⟨fun _ => hS1, ?_⟩
    refine wpM_one 4 rfl (by kernel_rfl) rfl ?_
    go_wp2_with fail
    refine ⟨fun _ => hS1.alloc hS1.size _, ?_⟩
    refine wpM_one 5 rfl (by kernel_rfl) rfl ?_
    go_wp2_with fail
    refine ⟨fun _ => hS1.alloc hS1.size _, ?_⟩
    refine wpM_one 6 rfl (by kernel_rfl) rfl ?_
    go_wp2_with fail
    refine ⟨fun h => absurd h (by decide), ?_⟩
    refine wpM_done (by kernel_rfl) ?_
    have hP : PW w (w1.alloc (.cells #[.bool false, .int .u64 0, .int .u64 1, .int .i64 0] 59)) w1.heap.size #[.bool xn, .int .u64 (hi : Int), .int .u64 m, .int .i64 xe] oneW.cells :=
      ⟨(r0.below hS1 r0.lt).alloc _, (r1.below hS1 r1.lt).alloc _, Row.new w1 59 _, by have := hS1.size; omega, (b0.trans (hS1.mono (by omega))).alloc (by have := hS1.size; omega) _⟩
    generalize w1.heap.size = K at *
    generalize w1.alloc (.cells #[.bool false, .int .u64 0, .int .u64 1, .int .i64 0] 59) = W5 at *
    clear hS ca hS1 b1 r0 r1 b0 HN
    go_wp2_with fail
    refine wp_loop_rounds 1 ?_
    rw [rounds_succ]
    obtain ⟨t0, t1, t2, t3⟩ := hP.2.1.four
    have tf := hP.2.1.frozen
    have tl := hP.2.1.lt
    have hR := Row.set4 hP.2.1 (.bool false) (.int .u64 0) (.int .u64 0) (.int .i64 0)
    have hB := below_set (below_set (below_set (below_set hP.2.2.2.2 (B := w.heap.size + 1) 0 (.bool false) (by omega)) (B := w.heap.size + 1) 1 (.int .u64 0) (by omega)) (B := w.heap.size + 1) 2 (.int .u64 0) (by omega)) (B := w.heap.size + 1) 3 (.int .i64 0) (by omega)
    clear hP
    go_wp2
    exact bodyPost_ret (ret_two (x := .bool false) rfl (g := w.heap.size + 1) rfl rfl (load57 hR rfl)) rfl ⟨⟨⟨false, 0, 0⟩, false, rfl, by decide, by decide, by decide, rfl⟩, hB⟩
  · go_wp2_with fail
    have hSa : Below W.heap.size W (W.drew.alloc (.cells #[.bool false, .int .u64 0, .int .u64 0, .int .i64 0] 59)) := hS.alloc hS.size _
    have ka : Row (W.drew.alloc (.cells #[.bool false, .int .u64 0, .int .u64 0, .int .i64 0] 59)) W.heap.size 59 #[.bool false, .int .u64 0, .int .u64 0, .int .i64 0] := Row.new W.drew 59 _
    refine ⟨fun _ => hSa, ?_⟩
    refine wpM_one 0 rfl (by kernel_rfl) rfl ?_
    go_wp2_with fail
    refine Calls.mono (HN _).out ?_
    rintro _ w1 ⟨rfl, b1⟩
    have hS1 : Below W.heap.size W w1 := hSa.trans (b1.mono hSa.size)
    have kb := ka.below b1 ka.lt
    obtain ⟨y0, y1, y2, y3⟩ := kb.four
    have zf := kb.frozen
    have wl := kb.lt
    go_wp2_with fail
    refine ⟨fun _ => hS1, ?_⟩
    refine wpM_one 5 rfl (by kernel_rfl) rfl ?_
    go_wp2_with fail
    have hR5 := Row.set4 kb (.bool false) (.int .u64 0) (.int .u64 1) (.int .i64 0)
    have hB5 := below_set (below_set (below_set (below_set hS1 (B := W.heap.size) 0 (.bool false) (Nat.le_refl _)) (B := W.heap.size) 1 (.int .u64 0) (Nat.le_refl _)) (B := W.heap.size) 2 (.int .u64 1) (Nat.le_refl _)) (B := W.heap.size) 3 (.int .i64 0) (Nat.le_refl _)
    have hP : PW w ((((w1.setCell ⟨W.heap.size, 0, none⟩ (.bool false)).setCell ⟨W.heap.size, 1, none⟩ (.int .u64 0)).setCell ⟨W.heap.size, 2, none⟩ (.int .u64 1)).setCell ⟨W.heap.size, 3, none⟩ (.int .i64 0)) W.heap.size #[.bool xn, .int .u64 (hi : Int), .int .u64 m, .int .i64 xe] oneW.cells :=
      ⟨r0.below hB5 r0.lt, r1.below hB5 r1.lt, hR5, by omega, b0.trans (hB5.mono (by omega))⟩
    refine ⟨fun _ => hB5, ?_⟩
    refine wpM_one 6 rfl (by kernel_rfl) rfl ?_
    go_wp2_with fail
    refine ⟨fun h => absurd h (by decide), ?_⟩
    refine wpM_done (by kernel_rfl) ?_
    clear hS ca hS1 b1 r0 r1 b0 HN hSa ka kb y0 y1 y2 y3 zf wl hR5 hB5
    generalize W.heap.size = K at *
    generalize ((((w1.setCell ⟨K, 0, none⟩ (.bool false)).setCell ⟨K, 1, none⟩ (.int .u64 0)).setCell ⟨K, 2, none⟩ (.int .u64 1)).setCell ⟨K, 3, none⟩ (.int .i64 0)) = W5 at *
    go_wp2_with fail
    refine wp_loop_rounds 1 ?_
    rw [rounds_succ]
    obtain ⟨t0, t1, t2, t3⟩ := hP.2.1.four
    have tf := hP.2.1.frozen
    have tl := hP.2.1.lt
    have hR := Row.set4 hP.2.1 (.bool false) (.int .u64 0) (.int .u64 0) (.int .i64 0)
    have hB := below_set (below_set (below_set (below_set hP.2.2.2.2 (B := w.heap.size + 1) 0 (.bool false) (by omega)) (B := w.heap.size + 1) 1 (.int .u64 0) (by omega)) (B := w.heap.size + 1) 2 (.int .u64 0) (by omega)) (B := w.heap.size + 1) 3 (.int .i64 0) (by omega)
    clear hP
    go_wp2
    exact bodyPost_ret (ret_two (x := .bool false) rfl (g := w.heap.size + 1) rfl rfl (load57 hR rfl)) rfl ⟨⟨⟨false, 0, 0⟩, false, rfl, by decide, by decide, by decide, rfl⟩, hB⟩
end Go.Proofs.YtfbhonjndepjbaaDoor
