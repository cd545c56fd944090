import Derived.Test.YtnblbakjfpfipaaGreatDoorWah
import Derived.Test.YtnblbakjfpfipaaGreatDoorBld
import Derived.WalkMore
/- cutQuoted: what stands between quotes. -/
namespace Go.Proofs.YtnblbakjfpfipaaGreatDoor
open Go.RowKit

/-- What stands ahead of the quote that ends a name, and that quote with all behind it (nothing, if there is none). -/
def cutQ : List UInt8 → List UInt8 × List UInt8
  | [] => ([], [])
  | a :: r => if a.toNat ≠ 39 then (a :: (cutQ r).1, (cutQ r).2) else match r with
    | [] => ([], [a])
    | b :: r' => if b.toNat = 39 then (b :: (cutQ r').1, (cutQ r').2) else ([], a :: b :: r')
theorem cutQ_len : ∀ (n : Nat) (l : List UInt8), l.length ≤ n → (cutQ l).1.length + (cutQ l).2.length ≤ l.length
  | _, [], _ => by simp [cutQ]
  | 0, _ :: _, h => by simp at h
  | n + 1, [a], _ => by
    unfold cutQ
    split <;> simp [cutQ]
  | n + 1, a :: b :: r', h => by
    unfold cutQ
    simp only [List.length_cons] at h
    split
    · have := cutQ_len n (b :: r') (by simp; omega)
      simp at this ⊢; omega
    · simp only
      split
      · have := cutQ_len n r' (by omega)
        simp at this ⊢; omega
      · simp

theorem cutQ_other {a : UInt8} {r : List UInt8} (h : a.toNat ≠ 39) : cutQ (a :: r) = (a :: (cutQ r).1, (cutQ r).2) := by
  conv => lhs; unfold cutQ
  rw [if_pos h]
theorem cutQ_two {a b : UInt8} {r : List UInt8} (h : a.toNat = 39) (hb : b.toNat = 39) : cutQ (a :: b :: r) = (b :: (cutQ r).1, (cutQ r).2) := by
  conv => lhs; unfold cutQ
  rw [if_neg (by omega)]
  simp only
  rw [if_pos hb]
theorem cutQ_end {a : UInt8} {r : List UInt8} (h : a.toNat = 39) (hr : ∀ b r', r = b :: r' → b.toNat ≠ 39) : cutQ (a :: r) = ([], a :: r) := by
  conv => lhs; unfold cutQ
  rw [if_neg (by omega)]
  cases r with
  | nil => rfl
  | cons b r' =>
    simp only
    rw [if_neg (hr b r' rfl)]
theorem drop_step (l : List UInt8) (k : Nat) (h : k < (bs l).size) : l.drop k = (bs l)[k] :: l.drop (k + 1) := by
  have h' : k < l.length := by rw [bs_size] at h; exact h
  rw [List.drop_eq_getElem_cons h']
  rfl
theorem byteCells_snoc (l : List UInt8) (c : UInt8) : Lib.byteCells (l ++ [c]) = Lib.byteCells l ++ [.int .u8 (c.toNat : Int)] := by
  unfold Lib.byteCells
  rw [List.map_append]; rfl
theorem byteCells_len (l : List UInt8) : (Lib.byteCells l).length = l.length := by unfold Lib.byteCells; simp

set_option maxRecDepth 100000 in
set_option maxHeartbeats 4000000 in
theorem cutQuoted_any (l : List UInt8) (hl : l.length ≤ 140737488351232) (h1 : 1 ≤ l.length) (w : World) :
    Calls Tryz.prog 77 #[.string (bs l)] w fun e w' => e = .returned (.tuple #[.string (bs (cutQ (l.drop 1)).1), .string (bs (Lib.trimPrefix (cutQ (l.drop 1)).2 [39, 33])), .bool (Lib.hasPrefix (cutQ (l.drop 1)).2 [39, 33])]) ∧ Below w.heap.size w w' := by
  obtain ⟨nm, HN⟩ : ∃ nm, Hid ((cutQ (l.drop 1)).1 = nm) := ⟨_, rfl⟩
  obtain ⟨bh, HH⟩ : ∃ bh, Hid ((cutQ (l.drop 1)).2 = bh) := ⟨_, rfl⟩
  rw [HN.out, HH.out]
  have HS : Hid ((bs l).size = l.length) := bs_size l
  have hsz : (bs l).size ≤ 140737488351232 := by rw [bs_size]; exact hl
  have hs1 : 1 ≤ (bs l).size := by rw [bs_size]; exact h1
  have HW : Hid (∀ (acc : List UInt8) (c : UInt8) (W : World), acc.length ≤ (bs l).size → w.heap.size ≤ W.heap.size → Lib.IsBuilderF 82 5 w.heap.size w.heap.size (Lib.byteCells acc) W →
      Calls Tryz.prog 93 #[.pointer (some ⟨w.heap.size, 0, none⟩), .int .u8 (c.toNat : Int)] W fun e w' => e = .returned .nilIface ∧ Lib.IsBuilderF 82 5 w.heap.size w.heap.size (Lib.byteCells (acc ++ [c])) w' ∧ Below w.heap.size W w') := by
    intro acc c W ha hW hI
    refine (writeByte_any w.heap.size w.heap.size (Lib.byteCells acc) (c.toNat : Int) W hI (by rw [byteCells_len]; omega) hW).mono ?_
    rintro e w' ⟨rfl, h2, h3, _⟩
    exact ⟨rfl, .inr (by rw [byteCells_snoc]; exact h2), h3⟩
  have HP : Hid (∀ (k : Nat) (W : World), Calls Tryz.prog 64 #[.string ((bs l).extract k (bs l).size), .string ⟨#[39, 33]⟩] W fun e w' => e = .returned (.tuple #[.string (bs (Lib.trimPrefix (l.drop k) [39, 33])), .bool (Lib.hasPrefix (l.drop k) [39, 33])]) ∧ w' = W) := by
    intro k W
    rw [bs_drop]
    exact Tryz.strings_CutPrefix (bs (l.drop k)) ⟨#[39, 33]⟩ W
  have HX : Hid (∀ (k : Nat) (W : World), Calls Tryz.prog 76 #[.string ((bs l).extract k (bs l).size), .string ⟨#[39, 39]⟩] W fun e w' => e = .returned (.bool (Lib.hasPrefix (l.drop k) [39, 39])) ∧ w' = W) := by
    intro k W
    rw [bs_drop]
    exact Tryz.strings_HasPrefix (bs (l.drop k)) ⟨#[39, 39]⟩ W
  have HG : Hid (∀ (acc : List UInt8) (W : World), w.heap.size ≤ W.heap.size → Lib.IsBuilderF 82 5 w.heap.size w.heap.size (Lib.byteCells acc) W →
      Calls Tryz.prog 74 #[.pointer (some ⟨w.heap.size, 0, none⟩)] W fun e w' => e = .returned (.string (bs acc)) ∧ Below w.heap.size W w') := by
    intro acc W hW hI
    refine (Tryz.Builder_String_any_k w.heap.size w.heap.size acc W hI hW).mono ?_
    rintro e w' ⟨rfl, _, hb, _⟩
    exact ⟨rfl, hb⟩
  clear hl h1
  go_enter Tryz.func77, Tryz.ntmps77
  go_wp2
  go_step3
  go_wp2
  go_step3
  go_wp2
  go_loopw [6] (fun v6 wr => ∃ (k : Nat) (acc : List UInt8), k ≤ (bs l).size ∧ v6 = .int .i64 (k : Int) ∧ Hid (nm = acc ++ (cutQ (l.drop k)).1 ∧ bh = (cutQ (l.drop k)).2) ∧ acc.length ≤ k ∧ Hid (Lib.IsBuilderF 82 5 w.heap.size w.heap.size (Lib.byteCells acc) wr) ∧ Hid (Below w.heap.size w wr)) (fun v6 _ => (bs l).size - (intOf v6).toNat)
  case atStart =>
    exact ⟨1, [], hs1, rfl, ⟨HN.out.symm, HH.out.symm⟩, by simp, Lib.IsBuilderF.of (Lib.fresh_isBuilder 82 5 w), (Below.refl _ w).alloc (Nat.le_refl _) _⟩
  case round =>
    obtain ⟨k, acc, hk, rfl, HT, hac, HI, HB⟩ := hrel
    have hBs := HB.out.size
    by_cases hlt : k < (bs l).size
    · have HD : Hid (l.drop k = (bs l)[k] :: l.drop (k + 1)) := drop_step l k hlt
      by_cases c1 : (bs l)[k].toNat = 39
      · have d1 : (((bs l)[k].toNat : Int) != 39) = false := by rw [c1]; rfl
        have HX1 : ∀ W, Hid _ := fun W => HX.out k W
        cases hp : Lib.hasPrefix (l.drop k) [39, 39]
        · rw [hp] at HX1
          have HE : Hid (nm = acc ∧ bh = l.drop k) := by
            have := HT.out
            rw [HD.out, cutQ_end c1 (fun b r' e hb => by
              rw [HD.out, e] at hp
              unfold Lib.hasPrefix at hp
              rw [show (bs l)[k] = 39 from UInt8.toNat_inj.1 c1, show b = 39 from UInt8.toNat_inj.1 hb] at hp
              simp at hp)] at this
            refine ⟨by rw [this.1]; simp, ?_⟩
            rw [HD.out]; exact this.2
          clear HD c1 HT HW HX
          go_wp2_with fail
          refine Calls.mono (HX1 _).out ?_
          rintro _ w0 ⟨rfl, rfl⟩
          clear HX1
          go_wp2_with fail
          refine Calls.mono (HP.out k _) ?_
          rintro _ w1 ⟨rfl, rfl⟩
          go_wp2_with fail
          refine Calls.mono (HG.out acc _ hBs HI.out) ?_
          rintro _ w2 ⟨rfl, hb2⟩
          obtain ⟨rfl, rfl⟩ := HE.out
          have HB2 : Hid _ := HB.out.trans hb2
          clear HP HG HI HB hb2 HE HN HH
          go_wp2
          rw [Exit.noGoto_ret]; go_ret3
          exact ⟨rfl, HB2.out⟩
        · rw [hp] at HX1
          have hd2 : ∃ b r', l.drop (k + 1) = b :: r' ∧ b.toNat = 39 := by
            rw [HD.out] at hp
            unfold Lib.hasPrefix at hp
            cases e : l.drop (k + 1) with
            | nil => rw [e] at hp; simp at hp
            | cons b r' =>
              rw [e] at hp
              simp at hp
              exact ⟨b, r', rfl, by rw [← hp.2]; rfl⟩
          have hk1 : k + 1 < (bs l).size := by
            obtain ⟨b, r', e, _⟩ := hd2
            have := congrArg List.length e
            simp at this
            have := HS.out
            omega
          have HD1 : Hid (l.drop (k + 1) = (bs l)[k + 1] :: l.drop (k + 1 + 1)) := drop_step l (k + 1) hk1
          have c2 : (bs l)[k + 1].toNat = 39 := by
            obtain ⟨b, r', e, hb⟩ := hd2
            have := HD1.out
            rw [e] at this
            rw [← (List.cons.inj this).1]
            exact hb
          have HE : Hid (nm = (acc ++ [(bs l)[k + 1]]) ++ (cutQ (l.drop (k + 1 + 1))).1 ∧ bh = (cutQ (l.drop (k + 1 + 1))).2) := by
            have := HT.out
            rw [HD.out, HD1.out, cutQ_two c1 c2] at this
            refine ⟨by rw [this.1]; simp, this.2⟩
          clear HD HD1 hd2 c1 c2 HT HX hp
          go_wp2_with fail
          refine Calls.mono (HX1 _).out ?_
          rintro _ w0 ⟨rfl, rfl⟩
          clear HX1
          go_wp2_with fail
          refine Calls.mono (HW.out acc (bs l)[k + 1] _ (by omega) hBs HI.out) ?_
          rintro _ w1 ⟨rfl, hI1, hb1⟩
          have HI1 : Hid _ := hI1
          have HB1 : Hid (Below w.heap.size w w1) := HB.out.trans hb1
          clear HW HI HB hI1 hb1 HP HG
          go_wp2
          refine ⟨⟨k + 1 + 1, acc ++ [(bs l)[k + 1]], by omega, ?_, HE, by simp; omega, HI1, HB1⟩, ?_⟩
          · congr 1
          · simp [intOf]; omega
      · have d1 : (((bs l)[k].toNat : Int) != 39) = true := by rw [bne_iff_ne]; omega
        have HE : Hid (nm = (acc ++ [(bs l)[k]]) ++ (cutQ (l.drop (k + 1))).1 ∧ bh = (cutQ (l.drop (k + 1))).2) := by
          have := HT.out
          rw [HD.out, cutQ_other c1] at this
          refine ⟨by rw [this.1]; simp, this.2⟩
        clear HD c1 HT HX
        go_wp2_with fail
        refine Calls.mono (HW.out acc (bs l)[k] _ (by omega) hBs HI.out) ?_
        rintro _ w1 ⟨rfl, hI1, hb1⟩
        have HI1 : Hid _ := hI1
        have HB1 : Hid (Below w.heap.size w w1) := HB.out.trans hb1
        clear HW HI HB hI1 hb1 HP HG
        go_wp2
        refine ⟨⟨k + 1, acc ++ [(bs l)[k]], by omega, ?_, HE, by simp; omega, HI1, HB1⟩, ?_⟩
        · congr 1
        · simp [intOf]; omega
    · have t2 : ¬ ((k : Int) < ((bs l).size : Int)) := by omega
      have HE : Hid (nm = acc ∧ bh = l.drop k) := by
        have h0 : l.drop k = [] := List.drop_eq_nil_of_le (by have := HS.out; omega)
        have := HT.out
        rw [h0] at this ⊢
        exact ⟨by rw [this.1]; simp [cutQ], this.2⟩
      clear HT HW HX
      go_wp2_with fail
      refine Calls.mono (HP.out k _) ?_
      rintro _ w1 ⟨rfl, rfl⟩
      go_wp2_with fail
      refine Calls.mono (HG.out acc _ hBs HI.out) ?_
      rintro _ w2 ⟨rfl, hb2⟩
      obtain ⟨rfl, rfl⟩ := HE.out
      have HB2 : Hid _ := HB.out.trans hb2
      clear HP HG HI HB hb2 HE HN HH
      go_wp2
      rw [Exit.noGoto_ret]; go_ret3
      exact ⟨rfl, HB2.out⟩
end Go.Proofs.YtnblbakjfpfipaaGreatDoor
