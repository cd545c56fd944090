import Derived.Test.YtnblbakjfpfipaaGreatDoorWpc
import Derived.Test.YtnblbakjfpfipaaGreatDoorWpl
import Derived.Lib.SplitLaws
/- Quote. -/
namespace Go.Proofs.YtnblbakjfpfipaaGreatDoor
open Go.RowKit

/-- Each quote twice. -/
def dbl : List UInt8 → List UInt8
  | [] => []
  | b :: r => if b = 39 then 39 :: 39 :: dbl r else b :: dbl r
theorem dbl_none : ∀ (s : List UInt8), (∀ b ∈ s, b ≠ 39) → dbl s = s
  | [], _ => rfl
  | b :: r, h => by
    unfold dbl
    rw [if_neg (h b (by simp)), dbl_none r (fun c hc => h c (by simp [hc]))]
theorem replaceK_dbl : ∀ (s : List UInt8) (k : Nat), s.count 39 ≤ k → Lib.replaceK [39] [39, 39] k s = dbl s
  | [], k, _ => by
    cases k with
    | zero => rfl
    | succ k =>
      unfold Lib.replaceK
      rw [if_pos (by rw [Lib.index_one]; rfl)]
      rfl
  | b :: r, k, hk => by
    by_cases hb : b = 39
    · subst hb
      rw [List.count_cons_self] at hk
      cases k with
      | zero => omega
      | succ k =>
        rw [Lib.replaceK_hit _ _ _ _ 0 (by rw [Lib.index_one]; rfl)]
        unfold dbl
        rw [if_pos rfl]
        simp only [List.take_zero, List.nil_append, List.length_cons, List.length_nil, Nat.zero_add, List.drop_succ_cons, List.drop_zero]
        rw [replaceK_dbl r k (by omega)]
        rfl
    · rw [List.count_cons_of_ne hb] at hk
      have e : dbl (b :: r) = b :: dbl r := by conv => lhs; unfold dbl
                                               rw [if_neg hb]
      rw [e]
      have hi : Lib.indexByte (b :: r) 39 = if Lib.indexByte r 39 == -1 then -1 else Lib.indexByte r 39 + 1 := by
        conv => lhs; unfold Lib.indexByte
        rw [if_neg (by simpa using hb)]
      cases k with
      | zero =>
        have h0 : ∀ c ∈ r, c ≠ 39 := fun c hc e => by
          have := List.count_pos_iff.2 (e ▸ hc)
          omega
        rw [dbl_none r h0]
        rfl
      | succ k =>
        by_cases hm : Lib.indexByte r 39 = -1
        · have h0 : ∀ c ∈ r, c ≠ 39 := fun c hc e => by
            subst e
            obtain ⟨j, hj, hje⟩ := List.getElem_of_mem hc
            exact Lib.indexByte_none hm j (by rw [List.getElem?_eq_getElem hj, hje])
          rw [dbl_none r h0]
          unfold Lib.replaceK
          rw [if_pos (by rw [Lib.index_one, hi, hm]; rfl)]
        · have hge := Lib.indexByte_ge r 39
          obtain ⟨i, hii⟩ : ∃ i : Nat, Lib.indexByte r 39 = i := ⟨(Lib.indexByte r 39).toNat, by omega⟩
          have ih := replaceK_dbl r (k + 1) hk
          rw [Lib.replaceK_hit _ _ _ _ i (by rw [Lib.index_one, hii])] at ih
          rw [Lib.replaceK_hit _ _ _ _ (i + 1) (by rw [Lib.index_one, hi, hii, if_neg (by simp)]; rfl)]
          rw [← ih]
          simp
theorem replaceAll_dbl (s : List UInt8) : Lib.replaceAll s [39] [39, 39] = dbl s := by
  unfold Lib.replaceAll Lib.replace
  rw [if_neg (by decide)]
  refine replaceK_dbl s _ ?_
  unfold Lib.replaceNum
  rw [if_pos (.inl (by decide)), Lib.count_one]
  exact Nat.le_refl _
theorem dbl_len (s : List UInt8) : (dbl s).length ≤ 2 * s.length := by
  induction s with
  | nil => simp [dbl]
  | cons b r ih =>
    unfold dbl
    split <;> simp <;> omega
/-- A sheet's name as it is written. -/
def quoteL (l : List UInt8) : List UInt8 := if plainB l then l else 39 :: (dbl l ++ [39])
set_option maxRecDepth 100000 in
set_option maxHeartbeats 1000000 in
theorem quote_any (l : List UInt8) (hl : l.length ≤ 1000000000) (w : World) (hE : Env w) : Calls Tryz.prog 14 #[.string (bs l)] w fun e w' => e = .returned (.string (bs (quoteL l))) ∧ Below w.heap.size w w' := by
  have HP : ∀ W, Hid _ := fun W => plain_any l (by omega) W
  unfold quoteL
  cases h : plainB l
  · rw [h] at HP
    have HR : ∀ W, Env W → Hid (Calls Tryz.prog 37 #[.string (bs l), .string ⟨#[39]⟩, .string ⟨#[39, 39]⟩] W fun e w' => e = .returned (.string (bs (dbl l))) ∧ Below W.heap.size W w') := fun W hW => by
      obtain ⟨m, hm⟩ := hW.max
      have hc := Lib.countB_le ⟨#[39]⟩ (by decide) (bs l).size (bs l) (Nat.le_refl _)
      have hs := bs_size l
      have := Tryz.strings_ReplaceAll (bs l) ⟨#[39]⟩ ⟨#[39, 39]⟩ m W (by omega) hm (by decide) (by
        rw [show (⟨#[39, 39]⟩ : ByteArray).size = 2 from rfl]; omega)
      rw [show Lib.replaceAll (bs l).data.toList (⟨#[39]⟩ : ByteArray).data.toList (⟨#[39, 39]⟩ : ByteArray).data.toList = dbl l from replaceAll_dbl l] at this
      exact this
    have k1 : (bs (dbl l)).size ≤ 2000000000 := by rw [bs_size]; have := dbl_len l; omega
    have k2 : (⟨#[39]⟩ : ByteArray).size = 1 := rfl
    have HQ : Hid ((⟨#[39]⟩ : ByteArray) ++ bs (dbl l) ++ (⟨#[39]⟩ : ByteArray) = bs (39 :: (dbl l ++ [39]))) := by
      show _ = _
      rw [show (⟨#[39]⟩ : ByteArray) = bs [39] from rfl, bs_append, bs_append]
      rfl
    clear hl
    go_enter Tryz.func14, Tryz.ntmps14
    go_wp2_with fail
    refine Calls.mono (HP _).out ?_
    rintro _ w1 ⟨rfl, b1⟩
    go_wp2_with fail
    refine Calls.mono (HR _ (hE.below b1)).out ?_
    rintro _ w2 ⟨rfl, b2⟩
    clear HP HR
    go_wp2
    go_ret
    refine ⟨?_, b1.trans (b2.mono b1.size)⟩
    rw [HQ.out]
    rfl
  · rw [h] at HP
    go_enter Tryz.func14, Tryz.ntmps14
    go_wp2_with fail
    refine Calls.mono (HP _).out ?_
    rintro _ w1 ⟨rfl, b1⟩
    clear HP
    go_wp2
    go_ret
    exact ⟨rfl, b1⟩
end Go.Proofs.YtnblbakjfpfipaaGreatDoor
