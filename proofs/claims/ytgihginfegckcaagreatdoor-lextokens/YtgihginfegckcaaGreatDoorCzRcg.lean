import Derived.Test.YtgihginfegckcaaGreatDoorCzRc0
import Derived.Test.YtgihginfegckcaaGreatDoorCzRc1
import Derived.Test.YtgihginfegckcaaGreatDoorCzRc2
import Derived.Test.YtgihginfegckcaaGreatDoorCzRc3
import Derived.Test.YtgihginfegckcaaGreatDoorCzRc4
import Derived.Test.YtgihginfegckcaaGreatDoorCzRc5M
import Derived.Test.YtgihginfegckcaaGreatDoorCzRc5M
/- The document's cell keeps its contract. -/
namespace Go.Proofs.YtgihginfegckcaaGreatDoor
open Go.RowKit

theorem row_take (D : List UInt8) (k : Nat) (h : k < D.length) : rowN (D.take (k + 1)) = rowN (D.take k) * 10 + (D[k].toNat - 48) := by
  rw [List.take_succ_eq_append_getElem h, row_snoc]
theorem row_lt : ∀ (k : Nat) (D : List UInt8), (∀ b ∈ D, b.toNat ≤ 57) → rowN (D.take k) < 10 ^ k
  | 0, D, _ => by simp [rowN]
  | k + 1, D, hD => by
    by_cases h : k < D.length
    · rw [row_take D k h]
      have := row_lt k D hD
      have hb := hD _ (List.getElem_mem h)
      rw [Nat.pow_succ]
      omega
    · have := row_lt k D hD
      rw [List.take_of_length_le (by omega)] at this ⊢
      rw [Nat.pow_succ]
      omega
theorem row_ge (l : List UInt8) : ∀ a : Nat, 1 ≤ a → 1 ≤ l.foldl (fun a b => a * 10 + (b.toNat - 48)) a := by
  induction l with
  | nil => intro a h; exact h
  | cons b l ih => intro a h; rw [List.foldl_cons]; exact ih _ (Nat.le_trans (show 1 ≤ a * 10 by omega) (Nat.le_add_right _ _))
theorem row_pos {D : List UInt8} (h : digitsOk D = true) (hd : ∀ b ∈ D, 48 ≤ b.toNat ∧ b.toNat ≤ 57) : 1 ≤ rowN D := by
  cases D with
  | nil => simp [digitsOk] at h
  | cons b D =>
    have hb := hd b (by simp)
    have hn : b ≠ 48 := by intro e; subst e; simp [digitsOk] at h
    have hn' : b.toNat ≠ 48 := fun e => hn (UInt8.toNat_inj.1 e)
    unfold rowN
    rw [List.foldl_cons]
    exact row_ge D _ (by omega)
theorem pre_headD (m : List UInt8) (c : UInt8) : Lib.hasPrefix m [c] = decide (m.head? = some c) := by
  cases m with
  | nil => simp [Lib.hasPrefix]
  | cons a r =>
    by_cases h : a = c
    · simp [Lib.hasPrefix, h]
    · have h2 : (c == a) = false := beq_eq_false_iff_ne.2 (Ne.symm h)
      simp [Lib.hasPrefix, List.isPrefixOf, h, h2]

theorem bs_get? (l : List UInt8) (k : Nat) : (bs l)[k]? = l[k]? := by
  by_cases h : k < l.length
  · rw [ba_get (by rw [bs_size]; exact h), List.getElem?_eq_getElem h]; rfl
  · rw [List.getElem?_eq_none (by omega)]; simp [bs_size]; omega

theorem plAt_of (l : List UInt8) : PlAt l (if (placeP l).ac then 1 else 0) ((if (placeP l).ac then 1 else 0) + (placeP l).letters.length) ((if (placeP l).ac then 1 else 0) + (placeP l).letters.length + (if (placeP l).ar then 1 else 0)) ((if (placeP l).ac then 1 else 0) + (placeP l).letters.length + (if (placeP l).ar then 1 else 0) + (placeP l).digits.length) (fun k => rowN ((placeP l).digits.take k)) ∧ l.drop (if (placeP l).ac then 1 else 0) = (placeP l).letters ++ behindL (Lib.trimPrefix l [36]) capL ∧ l.drop ((if (placeP l).ac then 1 else 0) + (placeP l).letters.length) = behindL (Lib.trimPrefix l [36]) capL ∧ l.drop ((if (placeP l).ac then 1 else 0) + (placeP l).letters.length + (if (placeP l).ar then 1 else 0)) = (placeP l).digits ++ (placeP l).rest ∧ l.length = (if (placeP l).ac then 1 else 0) + (placeP l).letters.length + (if (placeP l).ar then 1 else 0) + (placeP l).digits.length + (placeP l).rest.length := by
  have a0 : l.drop (if (placeP l).ac then 1 else 0) = Lib.trimPrefix l [36] := by
    have := pre_drop l 0 l 36 rfl
    rw [Nat.zero_add] at this
    exact this
  have a1 := behind_drop l _ capL _ a0
  have a2 := pre_drop l _ _ 36 a1
  have c0 := ahead_place l _ capL _ a0
  have c1 := behind_place l _ capL _ a0
  have c2 := ahead_place l _ digL _ a2
  have c3 := behind_place l _ digL _ a2
  have eL : (placeP l).letters = aheadL (Lib.trimPrefix l [36]) capL := rfl
  have eD : (placeP l).digits = aheadL (Lib.trimPrefix (behindL (Lib.trimPrefix l [36]) capL) [36]) digL := rfl
  have eR : (placeP l).rest = behindL (Lib.trimPrefix (behindL (Lib.trimPrefix l [36]) capL) [36]) digL := rfl
  have eA : (placeP l).ar = Lib.hasPrefix (behindL (Lib.trimPrefix l [36]) capL) [36] := rfl
  rw [← eL] at a1 a2 c0 c1
  rw [← eL, ← eA] at c2 c3
  rw [← eA] at a2
  have d3 : l.drop ((if (placeP l).ac then 1 else 0) + (placeP l).letters.length + (if (placeP l).ar then 1 else 0)) = (placeP l).digits ++ (placeP l).rest := by
    rw [a2, eD, eR, ahead_behind]
  have hlen : l.length = (if (placeP l).ac then 1 else 0) + (placeP l).letters.length + (if (placeP l).ar then 1 else 0) + (placeP l).digits.length + (placeP l).rest.length := by
    have h := congrArg List.length d3
    have hle : (if (placeP l).ac then 1 else 0) + (placeP l).letters.length + (if (placeP l).ar then 1 else 0) ≤ l.length := by
      have h0 := congrArg List.length a1
      have h0' := congrArg List.length a0
      by_cases hs : (placeP l).ar = true
      · rw [if_pos hs]
        rw [eA] at hs
        have : 1 ≤ (behindL (Lib.trimPrefix l [36]) capL).length := by
          cases hb : behindL (Lib.trimPrefix l [36]) capL with
          | nil => rw [hb] at hs; simp [Lib.hasPrefix] at hs
          | cons => simp
        simp at h0
        omega
      · rw [if_neg hs]
        have e1 : (placeP l).letters.length ≤ (Lib.trimPrefix l [36]).length := by rw [eL]; have := ahead_len (Lib.trimPrefix l [36]) capL; omega
        have e2 : (if (placeP l).ac then 1 else 0) ≤ l.length := by
          by_cases hq : (placeP l).ac = true
          · rw [if_pos hq]
            cases l with
            | nil => simp [placeP, Lib.hasPrefix] at hq
            | cons => simp
          · rw [if_neg hq]; omega
        simp at h0'
        omega
    simp at h
    omega
  refine ⟨?_, by rw [a0, eL, ahead_behind], a1, d3, hlen⟩
  generalize (if (placeP l).ac then 1 else 0) = p0 at *
  generalize (if (placeP l).ar then 1 else 0) = s at *
  have hs := bs_size l
  rw [← eD] at c2 c3
  have hdm : ∀ b ∈ (placeP l).digits, 48 ≤ b.toNat ∧ b.toNat ≤ 57 := fun b hb => dig_bounds (ahead_mem (l := Lib.trimPrefix (behindL (Lib.trimPrefix l [36]) capL) [36]) hb)
  generalize (placeP l).letters = L at *
  generalize (placeP l).digits = D at *
  generalize (placeP l).rest = R at *
  refine ⟨by omega, by omega, by omega, ?_, ?_, ?_, ?_, rfl, ?_, ?_⟩
  · intro k h0 h1
    obtain ⟨h, hc⟩ := c0 (k - p0) (by omega)
    have e : p0 + (k - p0) = k := by omega
    simp only [e] at h hc
    refine ⟨by omega, ?_⟩
    rw [cap_bounds] at hc
    have hc2 : 65 ≤ (l[k]).toNat ∧ (l[k]).toNat ≤ 90 := by simpa using hc
    exact hc2
  · intro h hc
    have := c1 (by omega)
    rw [cap_bounds] at this
    have hc' : 65 ≤ (l[p0 + L.length]).toNat ∧ (l[p0 + L.length]).toNat ≤ 90 := hc
    simp only [Bool.and_eq_false_iff, decide_eq_false_iff_not] at this
    omega
  · intro k h0 h1
    obtain ⟨h, hc⟩ := c2 (k - (p0 + L.length + s)) (by omega)
    have e : p0 + L.length + s + (k - (p0 + L.length + s)) = k := by omega
    simp only [e] at h hc
    refine ⟨by omega, ?_⟩
    rw [dig_same] at hc
    exact hc
  · intro h
    have := c3 (by omega)
    rw [dig_same] at this
    exact this
  · intro k h0 h1 h
    have hk : k - (p0 + L.length + s) < D.length := by omega
    rw [row_take D _ hk]
    have e : (bs l)[k] = D[k - (p0 + L.length + s)] := by
      have h2 : l[k]'(by omega) = (D ++ R)[k - (p0 + L.length + s)]'(by simp; omega) := by
        have : (l.drop (p0 + L.length + s))[k - (p0 + L.length + s)]'(by simp; omega) = l[k]'(by omega) := by
          rw [List.getElem_drop]; congr 1; omega
        rw [← this]
        congr 1
      rw [bs_get l k h (by omega), h2, List.getElem_append_left hk]
    rw [e]
  · intro k hk
    have h1 := row_lt k D (fun b hb => (hdm b hb).2)
    have h2 : 10 ^ k ≤ 10 ^ 7 := Nat.pow_le_pow_right (by omega) hk
    omega
theorem cell_keeps : CellC := by
  intro l hl W
  have hsz : (bs l).size ≤ 140737488351232 := by rw [bs_size]; exact hl
  obtain ⟨hP, e0, e1, e2, hlen⟩ := plAt_of l
  have hac : (placeP l).ac = decide (l.head? = some 36) := pre_headD l 36
  have har : (placeP l).ar = decide ((behindL (Lib.trimPrefix l [36]) capL).head? = some 36) := pre_headD _ 36
  have hdm : ∀ b ∈ (placeP l).digits, 48 ≤ b.toNat ∧ b.toNat ≤ 57 := fun b hb => dig_bounds (ahead_mem (l := Lib.trimPrefix (behindL (Lib.trimPrefix l [36]) capL) [36]) hb)
  have hcell : Ending.returned (.tuple #[(cellR l).v, .bool (placeP l).ok, .bool (cellT l)]) = cellE ((colOf (placeP l).letters).getD 0 : Nat) (colOf (placeP l).letters).isSome (rowN (placeP l).digits) (placeP l).ac (placeP l).ar (placeP l).ok := by
    unfold cellE cellR cellT
    cases hk : (placeP l).ok
    · rfl
    · have hr : 1 ≤ rowN (placeP l).digits := row_pos (by unfold Pl.ok at hk; simp only [Bool.and_eq_true] at hk; exact hk.1.2) hdm
      have hrb : rowB (rowN (placeP l).digits : Nat) = decide (((rowN (placeP l).digits : Nat) : Int) ≤ 512) := by
        unfold rowB; rw [decide_eq_true (show (1 : Int) ≤ ((rowN (placeP l).digits : Nat) : Int) by omega)]; rfl
      unfold foundR
      rw [hrb]
      cases (colOf (placeP l).letters).isSome && decide (((rowN (placeP l).digits : Nat) : Int) ≤ 512) <;> rfl
  rw [hcell]
  have hCol : ∀ V, Hid (Calls Tryz.prog 132 #[.string ((bs l).extract (if (placeP l).ac then 1 else 0) ((if (placeP l).ac then 1 else 0) + (placeP l).letters.length))] V fun e w' => e = .returned (.tuple #[.int .i64 ((colOf (placeP l).letters).getD 0 : Nat), .bool (colOf (placeP l).letters).isSome]) ∧ Below V.heap.size V w') := by
    intro V
    have ex : (bs l).extract (if (placeP l).ac then 1 else 0) ((if (placeP l).ac then 1 else 0) + (placeP l).letters.length) = bs (placeP l).letters := by
      refine bs_ext ?_
      rw [Lib.extract_data]
      have : ((bs l).data.toList.drop (if (placeP l).ac then 1 else 0)) = (placeP l).letters ++ behindL (Lib.trimPrefix l [36]) capL := e0
      rw [this]
      simp
    rw [ex]
    exact refCol_any _ V
  have hok : (decide (1 ≤ (if (placeP l).ac then 1 else 0) + (placeP l).letters.length - (if (placeP l).ac then 1 else 0)) && decide ((if (placeP l).ac then 1 else 0) + (placeP l).letters.length - (if (placeP l).ac then 1 else 0) ≤ 3) && decide (1 ≤ (placeP l).digits.length) && decide ((placeP l).digits.length ≤ 7) && decide (¬ (bs l)[(if (placeP l).ac then 1 else 0) + (placeP l).letters.length + (if (placeP l).ar then 1 else 0)]? = some 48) && decide ((if (placeP l).ac then 1 else 0) + (placeP l).letters.length + (if (placeP l).ar then 1 else 0) + (placeP l).digits.length = (bs l).size)) = (placeP l).ok := by
    have h2 : (bs l)[(if (placeP l).ac then 1 else 0) + (placeP l).letters.length + (if (placeP l).ar then 1 else 0)]? = ((placeP l).digits ++ (placeP l).rest).head? := by
      rw [← e2, List.head?_drop]
      exact bs_get? l _
    rw [h2, bs_size, hlen]
    generalize (if (placeP l).ac then 1 else 0) = p0
    generalize (if (placeP l).ar then 1 else 0) = s
    unfold Pl.ok lettersOk digitsOk
    generalize (placeP l).letters = L
    generalize (placeP l).digits = D
    generalize (placeP l).rest = R
    have hR : decide (p0 + L.length + s + D.length = p0 + L.length + s + D.length + R.length) = R.isEmpty := by
      cases R <;> simp
    have hL : decide (1 ≤ p0 + L.length - p0) = !L.isEmpty := by
      cases L <;> simp <;> omega
    rw [hR, hL, show p0 + L.length - p0 = L.length by omega]
    cases D with
    | nil => simp
    | cons d D => simp [Bool.and_assoc]
  have hmm : (if (placeP l).ac then 1 else 0) + (placeP l).letters.length + (if (placeP l).ar then 1 else 0) + (placeP l).digits.length - ((if (placeP l).ac then 1 else 0) + (placeP l).letters.length + (if (placeP l).ar then 1 else 0)) = (placeP l).digits.length := by omega
  have hsz' := bs_size l
  have hq : (fun k => rowN ((placeP l).digits.take k)) (placeP l).digits.length = rowN (placeP l).digits := by simp
  rw [← hq]
  have hb36 : ∀ (k : Nat) (h : k < (bs l).size), ((((bs l)[k]'h).toNat : Int) == 36) = decide ((l.drop k).head? = some 36) := by
    intro k h
    rw [List.head?_drop]
    have hg : l[k]? = some ((bs l)[k]'h) := by
      rw [List.getElem?_eq_getElem (by omega)]; rfl
    rw [hg]
    by_cases e : (bs l)[k]'h = 36
    · rw [e]; rfl
    · rw [decide_eq_false (by simpa using e)]
      refine beq_eq_false_iff_ne.2 (fun h2 => e (UInt8.toNat_inj.1 ?_))
      have : ((bs l)[k]'h).toNat = 36 := by omega
      rw [this]; rfl
  have hd0 := hb36 0
  rw [List.drop_zero, ← hac] at hd0
  have hd1 := hb36 ((if (placeP l).ac then 1 else 0) + (placeP l).letters.length)
  rw [e1, ← har] at hd1
  clear hb36 hac e0 e1 e2 hcell hq hdm
  generalize (fun k => rowN ((placeP l).digits.take k)) = q at *
  generalize ((colOf (placeP l).letters).getD 0 : Nat) = c at *
  generalize (colOf (placeP l).letters).isSome = f at *
  generalize (placeP l).ok = ok at *
  generalize (placeP l).digits.length = m at *
  generalize (placeP l).letters.length = n at *
  by_cases hz : 0 < (bs l).size
  · have hd0 := hd0 hz
    cases hA : (placeP l).ac <;> cases hR : (placeP l).ar <;> rw [hA, hR] at hP hlen hok hmm <;> rw [hA] at hCol hd0 hd1 <;> rw [hR] at hd1 <;> simp only [Bool.false_eq_true, if_false, if_true] at hP hlen hok hmm hCol hd1
    · by_cases h1 : 0 + n < (bs l).size
      · exact cell_fF l (0 + n) _ _ q hsz hz hd0 hP h1 (hd1 h1) rfl c f hCol ok m hmm hok W
      · exact cell_fE l (0 + n) _ _ q hsz hz hd0 hP h1 rfl c f hCol ok m hmm hok W
    · have h1 : 0 + n < (bs l).size := by rw [hsz']; omega
      exact cell_fT l (0 + n) _ _ q hsz hz hd0 hP h1 (hd1 h1) (by omega) c f hCol ok m hmm hok W
    · by_cases h1 : 1 + n < (bs l).size
      · exact cell_tF l (1 + n) _ _ q hsz hz hd0 hP h1 (hd1 h1) rfl c f hCol ok m hmm hok W
      · exact cell_tE l (1 + n) _ _ q hsz hz hd0 hP h1 rfl c f hCol ok m hmm hok W
    · have h1 : 1 + n < (bs l).size := by rw [hsz']; omega
      exact cell_tT l (1 + n) _ _ q hsz hz hd0 hP h1 (hd1 h1) (by omega) c f hCol ok m hmm hok W
  · have hA : (placeP l).ac = false := by
      cases hA : (placeP l).ac
      · rfl
      · rw [hA] at hlen; simp only [if_true] at hlen; omega
    have hR : (placeP l).ar = false := by
      cases hR : (placeP l).ar
      · rfl
      · rw [hR] at hlen; simp only [if_true] at hlen; omega
    rw [hA, hR] at hP hok hmm ⊢
    rw [hA] at hCol
    simp only [Bool.false_eq_true, if_false] at hP hok hmm hCol
    exact cell_fZ l (0 + n) _ _ q (by omega) hP (by omega) rfl c f hCol ok m hmm hok W
end Go.Proofs.YtgihginfegckcaaGreatDoor
