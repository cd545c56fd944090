/- What the spending makes: lengths that are right and cost what the first coins of the last row weigh (pure). -/
import Derived.Test.YtiakploggmmklaaPmg
namespace Go.Proofs.Ytiakploggmmklaa

def sumTo (f : Nat → Int) : Nat → Int
  | 0 => 0
  | k + 1 => sumTo f k + f k
theorem sumTo_congr {f g : Nat → Int} : ∀ n, (∀ j, j < n → f j = g j) → sumTo f n = sumTo g n
  | 0, _ => rfl
  | n + 1, h => by rw [sumTo, sumTo, sumTo_congr n (fun j hj => h j (by omega)), h n (by omega)]
theorem sumTo_add (f g : Nat → Int) : ∀ n, sumTo (fun j => f j + g j) n = sumTo f n + sumTo g n
  | 0 => rfl
  | n + 1 => by simp only [sumTo, sumTo_add f g n]; omega
theorem sumTo_sub (f g : Nat → Int) : ∀ n, sumTo (fun j => f j - g j) n = sumTo f n - sumTo g n
  | 0 => rfl
  | n + 1 => by simp only [sumTo, sumTo_sub f g n]; omega
theorem sumTo_part (g : Nat → Int) (s : Nat) : ∀ n, s ≤ n → sumTo (fun j => if j < s then g j else 0) n = sumTo g s
  | 0, h => by
    obtain rfl : s = 0 := by omega
    rfl
  | n + 1, h => by
    by_cases e : s = n + 1
    · subst e
      exact sumTo_congr _ (fun j hj => if_pos hj)
    · rw [sumTo, sumTo_part g s n (by omega), if_neg (by omega)]
      omega
theorem sumTo_const (c : Int) : ∀ n : Nat, sumTo (fun _ => c) n = n * c
  | 0 => by simp [sumTo]
  | n + 1 => by
    rw [sumTo, sumTo_const c n]
    have : ((n + 1 : Nat) : Int) * c = n * c + c := by rw [Int.natCast_add, Int.add_mul]; simp
    omega

def wAt (sl : List Coin) (j : Nat) : Int := (sl[j]?.getD (0, false)).1
theorem wsum_take (sl : List Coin) : ∀ s, s ≤ sl.length → wsum (sl.take s) = sumTo (wAt sl) s
  | 0, _ => rfl
  | s + 1, h => by
    rw [List.take_succ_eq_append_getElem (by omega), wsum_append, wsum_take sl s (by omega), sumTo]
    congr 1
    unfold wAt
    rw [List.getElem?_eq_getElem (by omega)]
    simp [wsum]

def posN (os : List Int) (j : Nat) : Nat := (os[j]?.getD 0).toNat
def lam (os ls : List Int) (j : Nat) : Int := ls[posN os j]?.getD 0
/-- The symbols: each once, each with a place. -/
structure Ords (os : List Int) (N : Nat) : Prop where
  inj : ∀ i j, i < os.length → j < os.length → posN os i = posN os j → i = j
  lt : ∀ j, j < os.length → posN os j < N
theorem spA_ok (os : List Int) (row : List Coin) (ls : List Int) (hO : Ords os ls.length) : ∀ m, m ≤ row.length → ones (row.take m) ≤ os.length →
    (spA os row ls m).2 = ones (row.take m) ∧ (spA os row ls m).1.length = ls.length ∧ (∀ j, j < os.length → lam os (spA os row ls m).1 j = lam os ls j + (if j < ones (row.take m) then 1 else 0)) ∧ (∀ z, (∀ j, j < os.length → posN os j ≠ z) → (spA os row ls m).1[z]?.getD 0 = ls[z]?.getD 0)
  | 0, _, _ => ⟨rfl, rfl, fun j _ => by simp [spA, ones], fun z _ => rfl⟩
  | m + 1, hm, hn => by
    have hlt : m < row.length := by omega
    have e1 : ones (row.take (m + 1)) = ones (row.take m) + (if row[m].2 then 1 else 0) := by
      unfold ones
      rw [List.take_succ_eq_append_getElem hlt, List.countP_append]
      simp
    have e2 : row[m]?.getD (0, false) = row[m] := by rw [List.getElem?_eq_getElem hlt]; rfl
    obtain ⟨i1, i2, i3, i4⟩ := spA_ok os row ls hO m (by omega) (by omega)
    rw [spA, e2, e1]
    by_cases c : row[m].2 = true
    · rw [if_pos c, if_pos c]
      rw [if_pos c] at e1
      refine ⟨by rw [i1], by simp [i2], fun j hj => ?_, fun z hz => ?_⟩
      · have hc : (spA os row ls m).2 < os.length := by omega
        show ((spA os row ls m).1.set (posN os (spA os row ls m).2) _)[posN os j]?.getD 0 = _
        rw [List.getElem?_set]
        by_cases e : j = (spA os row ls m).2
        · rw [if_pos (by rw [e]), if_pos (by rw [i2, ← e]; exact hO.lt j hj)]
          have h3 := i3 j hj
          rw [if_neg (by omega)] at h3
          rw [if_pos (by omega), Option.getD_some, ← e]
          show (spA os row ls m).1[posN os j]?.getD 0 + 1 = _
          unfold lam at h3 ⊢
          omega
        · rw [if_neg (fun h => e (hO.inj _ _ hc hj h).symm)]
          have h3 := i3 j hj
          show lam os (spA os row ls m).1 j = _
          rw [h3]
          congr 1
          by_cases d : j < ones (row.take m)
          · rw [if_pos d, if_pos (by omega)]
          · rw [if_neg d, if_neg (by omega)]
      · have hc : (spA os row ls m).2 < os.length := by omega
        show ((spA os row ls m).1.set (posN os (spA os row ls m).2) _)[z]?.getD 0 = _
        rw [List.getElem?_set, if_neg (hz _ hc)]
        exact i4 z hz
    · have c' : row[m].2 = false := by simpa using c
      rw [if_neg c, if_neg c, Nat.add_zero]
      exact ⟨i1, i2, i3, i4⟩

/-- Behind i rows. -/
structure SpSt (sl : List Coin) (os : List Int) (N limit i : Nat) (ls : List Int) (T S : Nat) : Prop where
  len : ls.length = N
  fit : i < limit → T ≤ (rowN sl (limit - 1 - i)).length
  fin : i = limit → T = 0
  one : i < limit → ones ((rowN sl (limit - 1 - i)).take T) ≤ S
  sn : S ≤ os.length
  top : ∀ j, j < S → lam os ls j = i
  bd : ∀ j, j < os.length → 0 ≤ lam os ls j ∧ lam os ls j ≤ i ∧ (1 ≤ i → 1 ≤ lam os ls j)
  out : ∀ z, (∀ j, j < os.length → posN os j ≠ z) → ls[z]?.getD 0 = 0
  kraft : 2 * sumTo (fun j => (2 : Int) ^ (limit - (lam os ls j).toNat)) os.length = 2 * 2 ^ limit + T * 2 ^ (limit - i)
  cost : sumTo (fun j => wAt sl j * lam os ls j) os.length + (if i < limit then wsum ((rowN sl (limit - 1 - i)).take T) else 0) = wsum ((rowN sl (limit - 1)).take (2 * os.length - 2))
theorem two_pow (limit : Nat) (h : 1 ≤ limit) : 2 * 2 ^ (limit - 1) = 2 ^ limit := by
  obtain ⟨q, rfl⟩ : ∃ q, limit = q + 1 := ⟨limit - 1, by omega⟩
  rw [Nat.add_sub_cancel, Nat.pow_succ, Nat.mul_comm]
theorem sp_start {sl : List Coin} {os : List Int} {limit : Nat} (ls : List Int) (h : Sing sl) (hsl : sl.length = os.length) (hz : ∀ z : Nat, ls[z]?.getD 0 = 0) (h1 : 1 ≤ limit) (h2 : 2 ≤ os.length) (hlim : os.length ≤ 2 ^ limit) : SpSt sl os ls.length limit 0 ls (2 * os.length - 2) os.length := by
  have hl0 : ∀ j, lam os ls j = 0 := fun j => hz _
  have hlong := row_long sl (limit - 1) 2 (by omega) (by rw [hsl, two_pow limit h1]; exact hlim)
  refine ⟨rfl, fun _ => by rw [Nat.sub_zero]; omega, fun e => by omega, fun _ => ?_, Nat.le_refl _, fun j _ => hl0 j, fun j _ => by rw [hl0]; omega, fun z _ => hz z, ?_, ?_⟩
  · rw [Nat.sub_zero]
    have := row_all h (by omega) (limit - 1) (by omega)
    rw [hsl] at this
    omega
  · rw [sumTo_congr (g := fun _ => (2 : Int) ^ limit) _ (fun j _ => by rw [hl0]; rfl), sumTo_const, Nat.sub_zero]
    generalize (2 : Int) ^ limit = P
    rw [show ((2 * os.length - 2 : Nat) : Int) = 2 * (os.length : Int) - 2 by omega, Int.sub_mul, ← Int.mul_assoc]
    omega
  · rw [if_pos (by omega), Nat.sub_zero, sumTo_congr (g := fun _ => (0 : Int)) _ (fun j _ => by rw [hl0]; simp), sumTo_const]
    simp
theorem sp_row {sl : List Coin} {os : List Int} {N limit i T S : Nat} {ls : List Int} (h : Sing sl) (hsl : sl.length = os.length) (hi : i < limit) (st : SpSt sl os N limit i ls T S) :
    ∃ s y, s + y = T ∧ ones ((rowN sl (limit - 1 - i)).take T) = s ∧ s ≤ os.length ∧ (i + 1 < limit → 2 * y ≤ (rowN sl (limit - 1 - (i + 1))).length ∧ ones ((rowN sl (limit - 1 - (i + 1))).take (2 * y)) ≤ s) ∧ (i + 1 = limit → y = 0) ∧
      wsum ((rowN sl (limit - 1 - i)).take T) = sumTo (wAt sl) s + (if i + 1 < limit then wsum ((rowN sl (limit - 1 - (i + 1))).take (2 * y)) else 0) := by
  have hf := st.fit hi
  by_cases c : i + 1 < limit
  · obtain ⟨k, hk⟩ : ∃ k, limit - 1 - i = k + 1 := ⟨limit - 1 - i - 1, by omega⟩
    have hk' : limit - 1 - (i + 1) = k := by omega
    rw [hk] at hf ⊢
    rw [hk']
    obtain ⟨s, y, L⟩ := lvl h k T hf
    refine ⟨s, y, L.sum, L.cnt, by rw [← hsl]; exact L.sn, fun _ => ⟨L.yn, L.mono y (Nat.le_refl _)⟩, fun e => by omega, ?_⟩
    rw [L.wt, wsum_take sl s L.sn, if_pos c]
  · have hk : limit - 1 - i = 0 := by omega
    rw [hk] at hf ⊢
    rw [rowN] at hf ⊢
    refine ⟨T, 0, rfl, ?_, by omega, fun e => by omega, fun _ => rfl, ?_⟩
    · rw [ones_all (fun c hc => h.one c (List.mem_of_mem_take hc)), List.length_take]
      omega
    · rw [wsum_take sl T hf, if_neg c]
      omega
theorem sp_step {sl : List Coin} {os : List Int} {N limit i T S : Nat} {ls : List Int} (h : Sing sl) (hsl : sl.length = os.length) (hO : Ords os N) (hi : i < limit) (st : SpSt sl os N limit i ls T S) (h0 : i = 0 → ones ((rowN sl (limit - 1 - i)).take T) = os.length) :
    ∃ S', SpSt sl os N limit (i + 1) (spA os (rowN sl (limit - 1 - i)) ls T).1 (2 * (T - (spA os (rowN sl (limit - 1 - i)) ls T).2)) S' := by
  obtain ⟨s, y, a1, a2, a3, a4, a5, a6⟩ := sp_row h hsl hi st
  have hf := st.fit hi
  have hone := st.one hi
  have hO' : Ords os ls.length := by rw [st.len]; exact hO
  obtain ⟨b1, b2, b3, b4⟩ := spA_ok os (rowN sl (limit - 1 - i)) ls hO' T hf (by rw [a2]; exact a3)
  rw [a2] at b1 b3 hone
  rw [b1, show T - s = y by omega]
  generalize (spA os (rowN sl (limit - 1 - i)) ls T).1 = ls' at b2 b3 b4
  refine ⟨s, b2.trans st.len, fun c => (a4 c).1, fun e => by rw [a5 e], fun c => (a4 c).2, a3, fun j hj => ?_, fun j hj => ?_, fun z hz => (b4 z hz).trans (st.out z hz), ?_, ?_⟩
  · rw [b3 j (by omega), if_pos hj, st.top j (by omega)]
    simp
  · have c1 := st.bd j hj
    rw [b3 j hj]
    by_cases d : j < s
    · rw [if_pos d]
      omega
    · rw [if_neg d]
      refine ⟨by omega, by omega, fun _ => ?_⟩
      rcases Nat.eq_zero_or_pos i with e | e
      · have := h0 e
        omega
      · have := c1.2.2 e
        omega
  · have hk := st.kraft
    obtain ⟨q, hq⟩ : ∃ q, limit - i = q + 1 := ⟨limit - i - 1, by omega⟩
    have hq' : limit - (i + 1) = q := by omega
    rw [hq] at hk
    rw [hq', sumTo_congr (g := fun j => (2 : Int) ^ (limit - (lam os ls j).toNat) - (if j < s then (2 : Int) ^ q else 0)) _ (fun j hj => ?_), sumTo_sub, sumTo_part _ s _ a3, sumTo_const]
    · rw [Int.pow_succ] at hk
      generalize (2 : Int) ^ q = P at hk ⊢
      generalize sumTo (fun j => (2 : Int) ^ (limit - (lam os ls j).toNat)) os.length = Q at hk ⊢
      have e1 : (T : Int) = s + y := by omega
      rw [e1, Int.add_mul] at hk
      rw [show ((2 * y : Nat) : Int) = 2 * (y : Int) by omega, Int.mul_assoc]
      have e2 : (s : Int) * (P * 2) = 2 * ((s : Int) * P) := by rw [Int.mul_comm P 2, ← Int.mul_assoc, Int.mul_comm (s : Int) 2, Int.mul_assoc]
      have e3 : (y : Int) * (P * 2) = 2 * ((y : Int) * P) := by rw [Int.mul_comm P 2, ← Int.mul_assoc, Int.mul_comm (y : Int) 2, Int.mul_assoc]
      rw [e2, e3] at hk
      omega
    · rw [b3 j hj]
      by_cases d : j < s
      · rw [if_pos d, if_pos d, st.top j (by omega), show ((i : Int) + 1).toNat = i + 1 by omega, Int.toNat_natCast, hq, hq', Int.pow_succ]
        omega
      · rw [if_neg d, if_neg d]
        simp
  · have hc := st.cost
    rw [if_pos hi, a6] at hc
    rw [← hc, sumTo_congr (g := fun j => wAt sl j * lam os ls j + (if j < s then wAt sl j else 0)) _ (fun j hj => ?_), sumTo_add, sumTo_part _ s _ a3]
    · omega
    · rw [b3 j hj, Int.mul_add]
      congr 1
      split <;> simp
/-- All rows are spent. -/
theorem sp_all {sl : List Coin} {os : List Int} {limit : Nat} (ls : List Int) (h : Sing sl) (hsl : sl.length = os.length) (hO : Ords os ls.length) (hz : ∀ z : Nat, ls[z]?.getD 0 = 0) (h1 : 1 ≤ limit) (h2 : 2 ≤ os.length) (hlim : os.length ≤ 2 ^ limit) :
    ∀ i, i ≤ limit → ∃ S, SpSt sl os ls.length limit i (spR sl os ls (2 * os.length - 2) limit i).1 (spR sl os ls (2 * os.length - 2) limit i).2 S
  | 0, _ => ⟨_, sp_start ls h hsl hz h1 h2 hlim⟩
  | i + 1, hi => by
    obtain ⟨S, st⟩ := sp_all ls h hsl hO hz h1 h2 hlim i (by omega)
    refine sp_step h hsl hO (by omega) st (fun e => ?_)
    subst e
    have hlong := row_long sl (limit - 1) 2 (by omega) (by rw [hsl, two_pow limit h1]; exact hlim)
    have := row_all h (by omega) (limit - 1) (by omega)
    rw [hsl] at this
    exact this
end Go.Proofs.Ytiakploggmmklaa
