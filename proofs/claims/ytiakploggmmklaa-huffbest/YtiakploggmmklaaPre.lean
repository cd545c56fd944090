/- What number each symbol's code is, and that no code is the beginning of another one. -/
import Derived.Test.YtiakploggmmklaaCod
namespace Go.Proofs.Ytiakploggmmklaa

/-- How many symbols below n have length m. -/
def cntB (zs : List Int) (m n : Nat) : Nat := cnt (zs.take n) m
theorem cntB_succ (zs : List Int) (m n : Nat) (h : n < zs.length) : cntB zs m (n + 1) = cntB zs m n + if zs[n]?.getD 0 = (m : Int) then 1 else 0 := by
  rw [cntB, List.take_succ_eq_append_getElem h, cnt_snoc]
  simp [cntB, h]
theorem cntB_mono (zs : List Int) (m : Nat) {a b : Nat} (h : a ≤ b) : cntB zs m a ≤ cntB zs m b := by
  have e : zs.take a = (zs.take b).take a := by rw [List.take_take, Nat.min_eq_left h]
  rw [cntB, cntB, cnt, cnt, e]
  exact (List.take_sublist _ _).countP_le
theorem cntB_all (zs : List Int) (m : Nat) : cntB zs m zs.length = cnt zs m := by rw [cntB, List.take_length]
theorem cntB_lt (zs : List Int) (m i j : Nat) (hi : i < zs.length) (e : zs[i]?.getD 0 = (m : Int)) (hij : i < j) : cntB zs m i < cntB zs m j := by
  have h1 := cntB_succ zs m i hi
  rw [if_pos e] at h1
  have h2 := cntB_mono zs m (show i + 1 ≤ j from hij)
  omega

/-- One pass: the symbols of length m get numbers in a row. -/
theorem pass_spec (zs : List Int) (m : Nat) (o : List Nat) (b : Nat) (ho : o.length = zs.length) (hb : b + zs.length < 4294967296) (n : Nat) (hn : n ≤ zs.length) :
    ((ofF zs m n).foldl (fun s x => cstep s x.1) (o, b)).2 = b + cntB zs m n ∧
    ∀ i, i < zs.length → ((ofF zs m n).foldl (fun s x => cstep s x.1) (o, b)).1[i]? = if i < n ∧ zs[i]?.getD 0 = (m : Int) then some (b + cntB zs m i) else o[i]? := by
  induction n with
  | zero => exact ⟨by simp [ofF, cntB, cnt], fun i _ => by simp [ofF]⟩
  | succ n ih =>
    obtain ⟨h2, h1⟩ := ih (by omega)
    have hlt : n < zs.length := by omega
    have hc : cntB zs m n ≤ n := by
      have := cnt_le (zs.take n) m
      simp only [cntB]
      simp at this
      omega
    by_cases e : zs[n]?.getD 0 = (m : Int)
    · rw [ofF_yes zs m n hlt e, List.foldl_append]
      have hlen := cfold_length (fun x : Fin zs.length => x.1) (ofF zs m n) (o, b)
      generalize (ofF zs m n).foldl (fun s x => cstep s x.1) (o, b) = s at h1 h2 hlen
      simp only [List.foldl_cons, List.foldl_nil, cstep]
      refine ⟨?_, fun i hi => ?_⟩
      · rw [cntB_succ zs m n hlt, if_pos e, h2, Nat.mod_eq_of_lt (by omega)]
        omega
      · rw [List.getElem?_set]
        by_cases hin : n = i
        · subst hin
          simp only at hlen
          rw [if_pos rfl, if_pos (by omega), if_pos ⟨by omega, e⟩, h2]
        · rw [if_neg hin, h1 i hi]
          by_cases hlt' : i < n ∧ zs[i]?.getD 0 = (m : Int)
          · rw [if_pos hlt', if_pos ⟨by omega, hlt'.2⟩]
          · rw [if_neg hlt', if_neg (fun h => hlt' ⟨by omega, h.2⟩)]
    · rw [ofF_no zs m n e]
      refine ⟨by rw [cntB_succ zs m n hlt, if_neg e, h2]; rfl, fun i hi => ?_⟩
      rw [h1 i hi]
      by_cases hlt' : i < n ∧ zs[i]?.getD 0 = (m : Int)
      · rw [if_pos hlt', if_pos ⟨by omega, hlt'.2⟩]
      · rw [if_neg hlt', if_neg (fun h => hlt' ⟨by
          have h1 := h.1
          have : i ≠ n := fun hin => e (hin ▸ h.2)
          omega, h.2⟩)]

theorem room_mono (zs : List Int) {a b : Nat} (h : a ≤ b) : room zs a ≤ room zs b := by
  induction h with
  | refl => exact Nat.le_refl _
  | step _ ih => rw [room]; omega
theorem sameTab_cnt (zs ys : List Int) (h : sameTab zs ys = true) (i : Nat) (hi : i < 15) : cnt zs (i + 1) = cnt ys (i + 1) := by
  have h1 := List.all_eq_true.1 h i (List.mem_range.2 hi)
  simp only [cntL, List.getD_eq_getElem?_getD, List.getElem?_map, List.getElem?_range hi, Option.map_some, Option.getD_some, beq_iff_eq] at h1
  exact_mod_cast h1
theorem room_same (zs ys : List Int) (h : ∀ i, i < 15 → cnt zs (i + 1) = cnt ys (i + 1)) (k : Nat) (hk : k ≤ 15) : room zs k = room ys k := by
  induction k with
  | zero => rfl
  | succ k ih => rw [room, room, ih (by omega), h k (by omega)]
/-- Right lengths take up the whole room at most. -/
theorem room_right (zs : List Int) (h : rightB zs = true) : room zs 15 ≤ 32768 := by
  simp only [rightB, Bool.or_eq_true, decide_eq_true_eq] at h
  rcases h with (h | h) | h
  · omega
  · rw [room_same zs [] (sameTab_cnt zs [] h) 15 (Nat.le_refl _)]
    decide
  · rw [room_same zs [1] (sameTab_cnt zs [1] h) 15 (Nat.le_refl _)]
    decide

/-- Behind k passes: the next number, and the numbers of all symbols of at most k bits. -/
theorem cstate_spec (zs : List Int) (hl : zs.length ≤ 320) (hr : room zs 15 ≤ 32768) (k : Nat) (hk : k ≤ 15) :
    (cstate zs k).2 * 2 ^ (15 - k) = room zs k ∧ ∀ i m : Nat, i < zs.length → zs[i]?.getD 0 = (m : Int) → 1 ≤ m → m ≤ k → (cstate zs k).1[i]? = some (2 * (cstate zs (m - 1)).2 + cntB zs m i) := by
  induction k with
  | zero => exact ⟨by simp [cstate, room], fun i m _ _ h1 h2 => by omega⟩
  | succ k ih =>
    obtain ⟨h1, h2⟩ := ih (by omega)
    have hb : (cstate zs k).2 ≤ 32768 := by
      have h3 := room_mono zs (show k ≤ 15 by omega)
      have h4 : (cstate zs k).2 ≤ (cstate zs k).2 * 2 ^ (15 - k) := Nat.le_mul_of_pos_right _ (Nat.pow_pos (by omega))
      omega
    have e2 : (cstate zs k).2 * 2 % 4294967296 = 2 * (cstate zs k).2 := by rw [Nat.mod_eq_of_lt (by omega)]; omega
    have hp := pass_spec zs (k + 1) (cstate zs k).1 (2 * (cstate zs k).2) (cstate_length zs k) (by omega) zs.length (Nat.le_refl _)
    rw [cstate, cpass, e2]
    refine ⟨?_, fun i m hi e h3 h4 => ?_⟩
    · rw [hp.1, cntB_all, room, ← h1, show 15 - k = 15 - (k + 1) + 1 by omega, show 14 - k = 15 - (k + 1) by omega, Nat.pow_succ, Nat.add_mul]
      congr 1
      rw [Nat.mul_comm 2, Nat.mul_assoc, Nat.mul_comm 2]
    · rw [hp.2 i hi]
      by_cases hm : m = k + 1
      · subst hm
        rw [if_pos ⟨hi, e⟩, show k + 1 - 1 = k by omega]
      · rw [if_neg (fun h => hm (by have := h.2; rw [e] at this; exact_mod_cast this)), h2 i m hi e h3 (by omega)]

/-- No code is the beginning of another one. -/
theorem prefix_free (zs : List Int) (hl : zs.length ≤ 320) (hr : room zs 15 ≤ 32768) (i k m n ci ck : Nat) (hi : i < zs.length) (hk : k < zs.length) (ei : zs[i]?.getD 0 = (m : Int)) (ek : zs[k]?.getD 0 = (n : Int)) (hne : i ≠ k) (h1 : 1 ≤ m) (hmn : m ≤ n) (hn : n ≤ 15)
    (hci : (codesOf zs)[i]? = some ci) (hck : (codesOf zs)[k]? = some ck) : ck / 2 ^ (n - m) ≠ ci := by
  have si := (cstate_spec zs hl hr 15 (Nat.le_refl _)).2 i m hi ei h1 (by omega)
  have sk := (cstate_spec zs hl hr 15 (Nat.le_refl _)).2 k n hk ek (by omega) hn
  rw [codesOf] at hci hck
  rw [hci] at si
  rw [hck] at sk
  obtain rfl := Option.some.inj si
  obtain rfl := Option.some.inj sk
  by_cases hmn' : m = n
  · subst hmn'
    rw [Nat.sub_self, Nat.pow_zero, Nat.div_one]
    rcases Nat.lt_or_gt_of_ne hne with h | h
    · have := cntB_lt zs m i k hi ei h
      omega
    · have := cntB_lt zs m k i hk ek h
      omega
  · have h3 := (cstate_spec zs hl hr (m - 1) (by omega)).1
    have h4 := (cstate_spec zs hl hr (n - 1) (by omega)).1
    have h5 : cntB zs m i + 1 ≤ cnt zs m := by rw [← cntB_all]; exact cntB_lt zs m i zs.length hi ei hi
    have h6 : room zs m = room zs (m - 1) + cnt zs m * 2 ^ (15 - m) := by
      obtain ⟨p, rfl⟩ : ∃ p, m = p + 1 := ⟨m - 1, by omega⟩
      rw [room, show p + 1 - 1 = p by omega, show 14 - p = 15 - (p + 1) by omega]
    have h7 := room_mono zs (show m ≤ n - 1 by omega)
    rw [show 15 - (m - 1) = 15 - m + 1 by omega, Nat.pow_succ] at h3
    rw [show 15 - (n - 1) = 15 - n + 1 by omega, Nat.pow_succ] at h4
    have hp : (2 : Nat) ^ (15 - m) = 2 ^ (n - m) * 2 ^ (15 - n) := by rw [← Nat.pow_add]; congr 1; omega
    have hpos : 0 < (2 : Nat) ^ (15 - n) := Nat.pow_pos (by omega)
    have hpos2 : 0 < (2 : Nat) ^ (n - m) := Nat.pow_pos (by omega)
    generalize (cstate zs (m - 1)).2 = A at h3
    generalize (cstate zs (n - 1)).2 = B at h4
    generalize cntB zs m i = x at h5
    generalize cntB zs n k = y
    have key : (2 * A + x + 1) * 2 ^ (15 - m) ≤ 2 * B * 2 ^ (15 - n) := by
      have g1 : (2 * A + x + 1) * 2 ^ (15 - m) = A * (2 ^ (15 - m) * 2) + (x + 1) * 2 ^ (15 - m) := by
        rw [Nat.add_assoc, Nat.add_mul]
        congr 1
        rw [Nat.mul_comm 2 A, Nat.mul_assoc, Nat.mul_comm 2]
      have g2 : 2 * B * 2 ^ (15 - n) = B * (2 ^ (15 - n) * 2) := by rw [Nat.mul_comm 2 B, Nat.mul_assoc, Nat.mul_comm 2]
      have g3 : (x + 1) * 2 ^ (15 - m) ≤ cnt zs m * 2 ^ (15 - m) := Nat.mul_le_mul_right _ h5
      rw [g1, g2, h3, h4]
      omega
    rw [hp, ← Nat.mul_assoc] at key
    have key2 : (2 * A + x + 1) * 2 ^ (n - m) ≤ 2 * B := Nat.le_of_mul_le_mul_right key hpos
    have key3 : 2 * A + x + 1 ≤ (2 * B + y) / 2 ^ (n - m) := by
      rw [Nat.le_div_iff_mul_le hpos2]
      omega
    omega
end Go.Proofs.Ytiakploggmmklaa
