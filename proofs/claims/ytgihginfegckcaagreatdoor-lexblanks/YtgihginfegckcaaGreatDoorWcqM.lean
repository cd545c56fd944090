import Derived.Test.YtgihginfegckcaaGreatDoorWah
import Derived.Test.YtgihginfegckcaaGreatDoorBld
import Derived.WalkMore
import Derived.BigQuiet
import Derived.Lib.IndexLaws
/- cutQuoted: what stands between quotes. -/
namespace Go.Proofs.YtgihginfegckcaaGreatDoor
open Go.RowKit

/-- What stands ahead of the quote that ends a name, and that quote with all behind it (nothing, if there is none). -/
def cutQ : List UInt8 → List UInt8 × List UInt8
  | [] => ([], [])
  | a :: r => if a.toNat ≠ 39 then (a :: (cutQ r).1, (cutQ r).2) else match r with
    | [] => ([], [a])
    | b :: r' => if b.toNat = 39 then (b :: (cutQ r').1, (cutQ r').2) else ([], a :: b :: r')
theorem cutQ_len : ∀ (n : Nat) (l : List UInt8), l.length ≤ n → (cutQ l).1.length + (cutQ l).2.length ≤ l.length
  | _, [], _ => by simp [cutQ]
  | 0, _ :: _, h => by simp at h
  | n + 1, [a], _ => by
    unfold cutQ
    split <;> simp [cutQ]
  | n + 1, a :: b :: r', h => by
    unfold cutQ
    simp only [List.length_cons] at h
    split
    · have := cutQ_len n (b :: r') (by simp; omega)
      simp at this ⊢; omega
    · simp only
      split
      · have := cutQ_len n r' (by omega)
        simp at this ⊢; omega
      · simp

theorem cutQ_other {a : UInt8} {r : List UInt8} (h : a.toNat ≠ 39) : cutQ (a :: r) = (a :: (cutQ r).1, (cutQ r).2) := by
  conv => lhs; unfold cutQ
  rw [if_pos h]
theorem cutQ_two {a b : UInt8} {r : List UInt8} (h : a.toNat = 39) (hb : b.toNat = 39) : cutQ (a :: b :: r) = (b :: (cutQ r).1, (cutQ r).2) := by
  conv => lhs; unfold cutQ
  rw [if_neg (by omega)]
  simp only
  rw [if_pos hb]
theorem cutQ_end {a : UInt8} {r : List UInt8} (h : a.toNat = 39) (hr : ∀ b r', r = b :: r' → b.toNat ≠ 39) : cutQ (a :: r) = ([], a :: r) := by
  conv => lhs; unfold cutQ
  rw [if_neg (by omega)]
  cases r with
  | nil => rfl
  | cons b r' =>
    simp only
    rw [if_neg (hr b r' rfl)]
theorem drop_step (l : List UInt8) (k : Nat) (h : k < (bs l).size) : l.drop k = (bs l)[k] :: l.drop (k + 1) := by
  have h' : k < l.length := by rw [bs_size] at h; exact h
  rw [List.drop_eq_getElem_cons h']
  rfl
theorem byteCells_snoc (l : List UInt8) (c : UInt8) : Lib.byteCells (l ++ [c]) = Lib.byteCells l ++ [.int .u8 (c.toNat : Int)] := by
  unfold Lib.byteCells
  rw [List.map_append]; rfl
theorem byteCells_len (l : List UInt8) : (Lib.byteCells l).length = l.length := by unfold Lib.byteCells; simp

set_option maxRecDepth 100000 in
set_option maxHeartbeats 4000000 in
theorem cutQuoted_any (l : List UInt8) (hl : l.length ≤ 140737488351232) (h1 : 1 ≤ l.length) (w : World) :
    Calls Tryz.prog 115 #[.string (bs l)] w fun e w' => e = .returned (.tuple #[.string (bs (cutQ (l.drop 1)).1), .string (bs (Lib.trimPrefix (cutQ (l.drop 1)).2 [39, 33])), .bool (Lib.hasPrefix (cutQ (l.drop 1)).2 [39, 33])]) ∧ Below w.heap.size w w' := by
  obtain ⟨nm, HN⟩ : ∃ nm, Hid ((cutQ (l.drop 1)).1 = nm) := ⟨_, rfl⟩
  obtain ⟨bh, HH⟩ : ∃ bh, Hid ((cutQ (l.drop 1)).2 = bh) := ⟨_, rfl⟩
  rw [HN.out, HH.out]
  have HS : Hid ((bs l).size = l.length) := bs_size l
  have hsz : (bs l).size ≤ 140737488351232 := by rw [bs_size]; exact hl
  have hs1 : 1 ≤ (bs l).size := by rw [bs_size]; exact h1
  have HW : Hid (∀ (acc : List UInt8) (c : UInt8) (W : World), acc.length ≤ (bs l).size → w.heap.size ≤ W.heap.size → Lib.IsBuilderF 104 5 w.heap.size w.heap.size (Lib.byteCells acc) W →
      Calls Tryz.prog 140 #[.pointer (some ⟨w.heap.size, 0, none⟩), .int .u8 (c.toNat : Int)] W fun e w' => e = .returned .nilIface ∧ Lib.IsBuilderF 104 5 w.heap.size w.heap.size (Lib.byteCells (acc ++ [c])) w' ∧ Below w.heap.size W w') := by
    intro acc c W ha hW hI
    refine (writeByte_any w.heap.size w.heap.size (Lib.byteCells acc) (c.toNat : Int) W hI (by rw [byteCells_len]; omega) hW).mono ?_
    rintro e w' ⟨rfl, h2, h3, _⟩
    exact ⟨rfl, .inr (by rw [byteCells_snoc]; exact h2), h3⟩
  have HP : Hid (∀ (k : Nat) (W : World), Calls Tryz.prog 29 #[.string ((bs l).extract k (bs l).size), .string ⟨#[39, 33]⟩] W fun e w' => e = .returned (.tuple #[.string (bs (Lib.trimPrefix (l.drop k) [39, 33])), .bool (Lib.hasPrefix (l.drop k) [39, 33])]) ∧ w' = W) := by
    intro k W
    rw [bs_drop]
    exact Tryz.strings_CutPrefix (bs (l.drop k)) ⟨#[39, 33]⟩ W
  have HX : Hid (∀ (k : Nat) (W : World), Calls Tryz.prog 20 #[.string ((bs l).extract k (bs l).size), .string ⟨#[39, 39]⟩] W fun e w' => e = .returned (.bool (Lib.hasPrefix (l.drop k) [39, 39])) ∧ w' = W) := by
    intro k W
    rw [bs_drop]
    exact Tryz.strings_HasPrefix (bs (l.drop k)) ⟨#[39, 39]⟩ W
  have HG : Hid (∀ (acc : List UInt8) (W : World), w.heap.size ≤ W.heap.size → Lib.IsBuilderF 104 5 w.heap.size w.heap.size (Lib.byteCells acc) W →
      Calls Tryz.prog 73 #[.pointer (some ⟨w.heap.size, 0, none⟩)] W fun e w' => e = .returned (.string (bs acc)) ∧ Below w.heap.size W w') := by
    intro acc W hW hI
    refine (Tryz.Builder_String_any_k w.heap.size w.heap.size acc W hI hW).mono ?_
    rintro e w' ⟨rfl, _, hb, _⟩
    exact ⟨rfl, hb⟩
  clear hl h1
  go_enter Tryz.func115, Tryz.ntmps115
  go_wp2
  go_step3
  go_wp2
  go_step3
  go_wp2
  go_loopw [6] (fun v6 wr => ∃ (k : Nat) (acc : List UInt8), k ≤ (bs l).size ∧ v6 = .int .i64 (k : Int) ∧ Hid (nm = acc ++ (cutQ (l.drop k)).1 ∧ bh = (cutQ (l.drop k)).2) ∧ acc.length ≤ k ∧ Hid (Lib.IsBuilderF 104 5 w.heap.size w.heap.size (Lib.byteCells acc) wr) ∧ Hid (Below w.heap.size w wr)) (fun v6 _ => (bs l).size - (intOf v6).toNat)
  case atStart =>
    exact ⟨1, [], hs1, rfl, ⟨HN.out.symm, HH.out.symm⟩, by simp, Lib.IsBuilderF.of (Lib.fresh_isBuilder 104 5 w), (Below.refl _ w).alloc (Nat.le_refl _) _⟩
  case round =>
    obtain ⟨k, acc, hk, rfl, HT, hac, HI, HB⟩ := hrel
    have hBs := HB.out.size
    by_cases hlt : k < (bs l).size
    · have HD : Hid (l.drop k = (bs l)[k] :: l.drop (k + 1)) := drop_step l k hlt
      by_cases c1 : (bs l)[k].toNat = 39
      · have d1 : (((bs l)[k].toNat : Int) != 39) = false := by rw [c1]; rfl
        have HX1 : ∀ W, Hid _ := fun W => HX.out k W
        cases hp : Lib.hasPrefix (l.drop k) [39, 39]
        · rw [hp] at HX1
          have HE : Hid (nm = acc ∧ bh = l.drop k) := by
            have := HT.out
            rw [HD.out, cutQ_end c1 (fun b r' e hb => by
              rw [HD.out, e] at hp
              unfold Lib.hasPrefix at hp
              rw [show (bs l)[k] = 39 from UInt8.toNat_inj.1 c1, show b = 39 from UInt8.toNat_inj.1 hb] at hp
              simp at hp)] at this
            refine ⟨by rw [this.1]; simp, ?_⟩
            rw [HD.out]; exact this.2
          clear HD c1 HT HW HX
          go_wp2_with fail
          refine Calls.mono (HX1 _).out ?_
          rintro _ w0 ⟨rfl, rfl⟩
          clear HX1
          go_wp2_with fail
          refine Calls.mono (HP.out k _) ?_
          rintro _ w1 ⟨rfl, rfl⟩
          go_wp2_with fail
          refine Calls.mono (HG.out acc _ hBs HI.out) ?_
          rintro _ w2 ⟨rfl, hb2⟩
          obtain ⟨rfl, rfl⟩ := HE.out
          have HB2 : Hid _ := HB.out.trans hb2
          clear HP HG HI HB hb2 HE HN HH
          go_wp2
          rw [Exit.noGoto_ret]; go_ret3
          exact ⟨rfl, HB2.out⟩
        · rw [hp] at HX1
          have hd2 : ∃ b r', l.drop (k + 1) = b :: r' ∧ b.toNat = 39 := by
            rw [HD.out] at hp
            unfold Lib.hasPrefix at hp
            cases e : l.drop (k + 1) with
            | nil => rw [e] at hp; simp at hp
            | cons b r' =>
              rw [e] at hp
              simp at hp
              exact ⟨b, r', rfl, by rw [← hp.2]; rfl⟩
          have hk1 : k + 1 < (bs l).size := by
            obtain ⟨b, r', e, _⟩ := hd2
            have := congrArg List.length e
            simp at this
            have := HS.out
            omega
          have HD1 : Hid (l.drop (k + 1) = (bs l)[k + 1] :: l.drop (k + 1 + 1)) := drop_step l (k + 1) hk1
          have c2 : (bs l)[k + 1].toNat = 39 := by
            obtain ⟨b, r', e, hb⟩ := hd2
            have := HD1.out
            rw [e] at this
            rw [← (List.cons.inj this).1]
            exact hb
          have HE : Hid (nm = (acc ++ [(bs l)[k + 1]]) ++ (cutQ (l.drop (k + 1 + 1))).1 ∧ bh = (cutQ (l.drop (k + 1 + 1))).2) := by
            have := HT.out
            rw [HD.out, HD1.out, cutQ_two c1 c2] at this
            refine ⟨by rw [this.1]; simp, this.2⟩
          clear HD HD1 hd2 c1 c2 HT HX hp
          go_wp2_with fail
          refine Calls.mono (HX1 _).out ?_
          rintro _ w0 ⟨rfl, rfl⟩
          clear HX1
          go_wp2_with fail
          refine Calls.mono (HW.out acc (bs l)[k + 1] _ (by omega) hBs HI.out) ?_
          rintro _ w1 ⟨rfl, hI1, hb1⟩
          have HI1 : Hid _ := hI1
          have HB1 : Hid (Below w.heap.size w w1) := HB.out.trans hb1
          clear HW HI HB hI1 hb1 HP HG
          go_wp2
          refine ⟨⟨k + 1 + 1, acc ++ [(bs l)[k + 1]], by omega, ?_, HE, by simp; omega, HI1, HB1⟩, ?_⟩
          · congr 1
          · simp [intOf]; omega
      · have d1 : (((bs l)[k].toNat : Int) != 39) = true := by rw [bne_iff_ne]; omega
        have HE : Hid (nm = (acc ++ [(bs l)[k]]) ++ (cutQ (l.drop (k + 1))).1 ∧ bh = (cutQ (l.drop (k + 1))).2) := by
          have := HT.out
          rw [HD.out, cutQ_other c1] at this
          refine ⟨by rw [this.1]; simp, this.2⟩
        clear HD c1 HT HX
        go_wp2_with fail
        refine Calls.mono (HW.out acc (bs l)[k] _ (by omega) hBs HI.out) ?_
        rintro _ w1 ⟨rfl, hI1, hb1⟩
        have HI1 : Hid _ := hI1
        have HB1 : Hid (Below w.heap.size w w1) := HB.out.trans hb1
        clear HW HI HB hI1 hb1 HP HG
        go_wp2
        refine ⟨⟨k + 1, acc ++ [(bs l)[k]], by omega, ?_, HE, by simp; omega, HI1, HB1⟩, ?_⟩
        · congr 1
        · simp [intOf]; omega
    · have t2 : ¬ ((k : Int) < ((bs l).size : Int)) := by omega
      have HE : Hid (nm = acc ∧ bh = l.drop k) := by
        have h0 : l.drop k = [] := List.drop_eq_nil_of_le (by have := HS.out; omega)
        have := HT.out
        rw [h0] at this ⊢
        exact ⟨by rw [this.1]; simp [cutQ], this.2⟩
      clear HT HW HX
      go_wp2_with fail
      refine Calls.mono (HP.out k _) ?_
      rintro _ w1 ⟨rfl, rfl⟩
      go_wp2_with fail
      refine Calls.mono (HG.out acc _ hBs HI.out) ?_
      rintro _ w2 ⟨rfl, hb2⟩
      obtain ⟨rfl, rfl⟩ := HE.out
      have HB2 : Hid _ := HB.out.trans hb2
      clear HP HG HI HB hb2 HE HN HH
      go_wp2
      rw [Exit.noGoto_ret]; go_ret3
      exact ⟨rfl, HB2.out⟩
end Go.Proofs.YtgihginfegckcaaGreatDoor
/- strings.Cut at a sign. -/
namespace Go.Proofs.YtgihginfegckcaaGreatDoor
open Go.RowKit

/-- What stands ahead of the first c, what behind it, and whether there is one. -/
def cutB (l : List UInt8) (c : UInt8) : List UInt8 × List UInt8 × Bool :=
  if 0 ≤ Lib.indexByte l c then (l.take (Lib.indexByte l c).toNat, l.drop ((Lib.indexByte l c).toNat + 1), true) else (l, [], false)

set_option maxRecDepth 100000 in
set_option maxHeartbeats 1000000 in
theorem scut_any (l : List UInt8) (c : UInt8) (hl : l.length ≤ 9223372036854775806) (w : World) :
    Calls Tryz.prog 141 #[.string (bs l), .string ⟨#[c]⟩] w fun e w' => e = .returned (.tuple #[.string (bs (cutB l c).1), .string (bs (cutB l c).2.1), .bool (cutB l c).2.2]) ∧ ∃ n, w' = w.drewN n := by
  have HI : Hid _ := Tryz.stringslite_Index_one (bs l) c w
  have hge := Lib.indexByte_ge l c
  by_cases h0 : 0 ≤ Lib.indexByte l c
  · have e : cutB l c = (l.take (Lib.indexByte l c).toNat, l.drop ((Lib.indexByte l c).toNat + 1), true) := if_pos h0
    rw [e]
    obtain ⟨i, hi⟩ : ∃ i : Nat, Lib.indexByte l c = i := ⟨(Lib.indexByte l c).toNat, by omega⟩
    have hil : i < l.length := by
      have := (Lib.indexByte_some hi).1
      exact (List.getElem?_eq_some_iff.1 this).1
    rw [show (bs l).data.toList = l from rfl, hi] at HI
    rw [hi]
    have HS : Hid ((bs l).size = l.length) := bs_size l
    have hs1 : i + 1 ≤ (bs l).size := by have := HS.out; omega
    have hs2 : (bs l).size ≤ 9223372036854775806 := by have := HS.out; omega
    have e1 : (bs l).extract 0 i = bs (l.take i) := bs_take l i
    have e2 : (bs l).extract (i + 1) (bs l).size = bs (l.drop (i + 1)) := bs_drop l (i + 1)
    simp only [Int.toNat_natCast]
    have E1 : Hid _ := e1
    have E2 : Hid _ := e2
    clear e1 e2 e hi h0 hge hl HS hil
    go_enter Tryz.func141, Tryz.ntmps141
    go_wp2_with fail
    refine Calls.mono HI.out ?_
    rintro _ w1 ⟨rfl, rfl⟩
    clear HI
    have hz : (⟨#[c]⟩ : ByteArray).size = 1 := rfl
    go_wp2_with fail
    go_quiet (fail)
    go_wp2
    go_ret3
    refine ⟨congrArg Ending.returned (congrArg Value.tuple ?_), _, rfl⟩
    rw [← E1.out, ← E2.out]
    rfl
  · have e : cutB l c = (l, [], false) := if_neg h0
    rw [e]
    rw [show (bs l).data.toList = l from rfl] at HI
    generalize Lib.indexByte l c = i at HI h0
    have h0' : ¬ (0 ≤ i) := h0
    clear e hge hl h0
    go_enter Tryz.func141, Tryz.ntmps141
    go_wp2_with fail
    refine Calls.mono HI.out ?_
    rintro _ w1 ⟨rfl, rfl⟩
    clear HI
    go_wp2
    go_ret3
    exact ⟨rfl, 0, rfl⟩
set_option maxRecDepth 100000 in
set_option maxHeartbeats 1000000 in
theorem cut_any (l : List UInt8) (c : UInt8) (hl : l.length ≤ 9223372036854775806) (w : World) :
    Calls Tryz.prog 118 #[.string (bs l), .string ⟨#[c]⟩] w fun e w' => e = .returned (.tuple #[.string (bs (cutB l c).1), .string (bs (cutB l c).2.1), .bool (cutB l c).2.2]) ∧ Below w.heap.size w w' := by
  have HC : Hid _ := scut_any l c hl w
  generalize cutB l c = q at HC ⊢
  obtain ⟨a, b, d⟩ := q
  simp only at HC ⊢
  go_enter Tryz.func118, Tryz.ntmps118
  go_wp2_with fail
  refine Calls.mono HC.out ?_
  rintro _ w1 ⟨rfl, n, rfl⟩
  clear HC
  go_wp2
  go_ret3
  exact ⟨rfl, below_drewN (Below.refl _ w) n⟩
end Go.Proofs.YtgihginfegckcaaGreatDoor
/- plain. -/
namespace Go.Proofs.YtgihginfegckcaaGreatDoor
open Go.RowKit

def capL : List UInt8 := [65, 66, 67, 68, 69, 70, 71, 72, 73, 74, 75, 76, 77, 78, 79, 80, 81, 82, 83, 84, 85, 86, 87, 88, 89, 90]
def digL : List UInt8 := [48, 49, 50, 51, 52, 53, 54, 55, 56, 57]
def alphaL : List UInt8 := [65, 66, 67, 68, 69, 70, 71, 72, 73, 74, 75, 76, 77, 78, 79, 80, 81, 82, 83, 84, 85, 86, 87, 88, 89, 90, 97, 98, 99, 100, 101, 102, 103, 104, 105, 106, 107, 108, 109, 110, 111, 112, 113, 114, 115, 116, 117, 118, 119, 120, 121, 122, 95]
def alnumL : List UInt8 := [65, 66, 67, 68, 69, 70, 71, 72, 73, 74, 75, 76, 77, 78, 79, 80, 81, 82, 83, 84, 85, 86, 87, 88, 89, 90, 97, 98, 99, 100, 101, 102, 103, 104, 105, 106, 107, 108, 109, 110, 111, 112, 113, 114, 115, 116, 117, 118, 119, 120, 121, 122, 48, 49, 50, 51, 52, 53, 54, 55, 56, 57, 95]
/-- Is a name written without quotes? -/
@[irreducible] def plainB (l : List UInt8) : Bool := !(aheadL l alphaL).isEmpty && (behindL (behindL l alphaL) alnumL).isEmpty

set_option maxRecDepth 100000 in
set_option maxHeartbeats 1000000 in
theorem plain_any (l : List UInt8) (hl : l.length ≤ 9223372036854775807) (w : World) :
    Calls Tryz.prog 117 #[.string (bs l)] w fun e w' => e = .returned (.bool (plainB l)) ∧ Below w.heap.size w w' := by
  have h1 : ∀ W, Hid (Calls Tryz.prog 119 #[.string (bs l), .string ⟨#[65, 66, 67, 68, 69, 70, 71, 72, 73, 74, 75, 76, 77, 78, 79, 80, 81, 82, 83, 84, 85, 86, 87, 88, 89, 90, 97, 98, 99, 100, 101, 102, 103, 104, 105, 106, 107, 108, 109, 110, 111, 112, 113, 114, 115, 116, 117, 118, 119, 120, 121, 122, 95]⟩] W _) := fun W => ahead_any l alphaL hl (by decide) (by decide) W
  have hk := ahead_len l alphaL
  have h2 : ∀ W, Hid (Calls Tryz.prog 119 #[.string (bs (behindL l alphaL)), .string ⟨#[65, 66, 67, 68, 69, 70, 71, 72, 73, 74, 75, 76, 77, 78, 79, 80, 81, 82, 83, 84, 85, 86, 87, 88, 89, 90, 97, 98, 99, 100, 101, 102, 103, 104, 105, 106, 107, 108, 109, 110, 111, 112, 113, 114, 115, 116, 117, 118, 119, 120, 121, 122, 48, 49, 50, 51, 52, 53, 54, 55, 56, 57, 95]⟩] W _) := fun W => ahead_any (behindL l alphaL) alnumL (by omega) (by decide) (by decide) W
  obtain ⟨r, hr⟩ : ∃ r, plainB l = r := ⟨_, rfl⟩
  have H : Hid ((!(aheadL l alphaL).isEmpty && (behindL (behindL l alphaL) alnumL).isEmpty) = r) := by unfold plainB at hr; exact hr
  rw [hr]
  clear hr hk hl
  generalize aheadL l alphaL = A at h1 h2 H
  generalize behindL l alphaL = X at h1 h2 H
  generalize aheadL X alnumL = Y at h1 h2 H
  generalize behindL X alnumL = Z at h1 h2 H
  cases A with
  | nil =>
    obtain rfl : r = false := by rw [← H.out]; rfl
    clear H
    go_enter Tryz.func117, Tryz.ntmps117
    go_wp2_with fail
    refine Calls.mono (h1 _).out ?_
    rintro _ w1 ⟨rfl, b1⟩
    go_wp2_with fail
    refine Calls.mono (h2 _).out ?_
    rintro _ w2 ⟨rfl, b2⟩
    clear h1 h2
    have t1 : (bs []).toList.isEmpty = true := by rw [bs_toList]; rfl
    go_wp2
    go_ret
    exact ⟨rfl, b1.trans (b2.mono b1.size)⟩
  | cons a A =>
    have t1 : (bs (a :: A)).toList.isEmpty = false := by rw [bs_toList]; rfl
    have HR : Hid (r = Z.isEmpty) := by show _ = _; rw [← H.out]; simp
    clear H
    cases Z with
    | nil =>
      have t2 : (bs []).toList.isEmpty = true := by rw [bs_toList]; rfl
      obtain rfl : r = true := HR.out
      go_enter Tryz.func117, Tryz.ntmps117
      go_wp2_with fail
      refine Calls.mono (h1 _).out ?_
      rintro _ w1 ⟨rfl, b1⟩
      go_wp2_with fail
      refine Calls.mono (h2 _).out ?_
      rintro _ w2 ⟨rfl, b2⟩
      clear h1 h2
      go_wp2
      go_ret
      exact ⟨rfl, b1.trans (b2.mono b1.size)⟩
    | cons z Z =>
      have t2 : (bs (z :: Z)).toList.isEmpty = false := by rw [bs_toList]; rfl
      obtain rfl : r = false := HR.out
      go_enter Tryz.func117, Tryz.ntmps117
      go_wp2_with fail
      refine Calls.mono (h1 _).out ?_
      rintro _ w1 ⟨rfl, b1⟩
      go_wp2_with fail
      refine Calls.mono (h2 _).out ?_
      rintro _ w2 ⟨rfl, b2⟩
      clear h1 h2
      go_wp2
      go_ret
      exact ⟨rfl, b1.trans (b2.mono b1.size)⟩
end Go.Proofs.YtgihginfegckcaaGreatDoor
/- cutSheet: the sheet's name that a text begins with. -/
namespace Go.Proofs.YtgihginfegckcaaGreatDoor
open Go.RowKit

/-- The name, what stands behind its sign, whether it is one as it is written. -/
def sheetC (l : List UInt8) : List UInt8 × List UInt8 × Bool :=
  if Lib.hasPrefix l [39] then ((cutQ (l.drop 1)).1, Lib.trimPrefix (cutQ (l.drop 1)).2 [39, 33], Lib.hasPrefix (cutQ (l.drop 1)).2 [39, 33] && nameS (cutQ (l.drop 1)).1 && !plainB (cutQ (l.drop 1)).1)
  else if (cutB l 33).2.2 then ((cutB l 33).1, (cutB l 33).2.1, nameS (cutB l 33).1 && plainB (cutB l 33).1) else ([], l, true)

theorem cutB_len (l : List UInt8) (c : UInt8) : (cutB l c).1.length ≤ l.length ∧ (cutB l c).2.1.length ≤ l.length := by
  unfold cutB
  split
  · simp; omega
  · simp
set_option maxRecDepth 100000 in
set_option maxHeartbeats 2000000 in
theorem cutSheet_any (l : List UInt8) (hl : l.length ≤ 140737488351232) (w : World) :
    Calls Tryz.prog 89 #[.string (bs l)] w fun e w' => e = .returned (.tuple #[.string (bs (sheetC l).1), .string (bs (sheetC l).2.1), .bool (sheetC l).2.2]) ∧ Below w.heap.size w w' := by
  have HP : ∀ W, Hid (Calls Tryz.prog 20 #[.string (bs l), .string ⟨#[39]⟩] W fun e w' => e = .returned (.bool (Lib.hasPrefix l [39])) ∧ w' = W) := fun W => Tryz.strings_HasPrefix (bs l) ⟨#[39]⟩ W
  cases hp : Lib.hasPrefix l [39]
  · rw [hp] at HP
    have e : sheetC l = if (cutB l 33).2.2 then ((cutB l 33).1, (cutB l 33).2.1, nameS (cutB l 33).1 && plainB (cutB l 33).1) else ([], l, true) := by unfold sheetC; rw [hp]; rfl
    rw [e]
    have HC : ∀ W, Hid _ := fun W => cut_any l 33 (by omega) W
    have hlen := (cutB_len l 33).1
    generalize cutB l 33 = q at HC hlen ⊢
    obtain ⟨A, B, f⟩ := q
    simp only at HC hlen ⊢
    cases f
    · go_enter Tryz.func89, Tryz.ntmps89
      go_wp2_with fail
      refine Calls.mono (HP _).out ?_
      rintro _ w1 ⟨rfl, rfl⟩
      go_wp2_with fail
      refine Calls.mono (HC _).out ?_
      rintro _ w2 ⟨rfl, b2⟩
      clear HP HC
      go_wp2
      go_ret3
      exact ⟨rfl, b2⟩
    · have HN : ∀ W, Hid _ := fun W => sheetName_any (bs A) W
      have HL : ∀ W, Hid _ := fun W => plain_any A (by omega) W
      rw [show (bs A).data.toList = A from rfl] at HN
      generalize nameS A = x at HN ⊢
      generalize plainB A = y at HL ⊢
      clear hlen e hp hl
      cases x
      · go_enter Tryz.func89, Tryz.ntmps89
        go_wp2_with fail
        refine Calls.mono (HP _).out ?_
        rintro _ w1 ⟨rfl, rfl⟩
        go_wp2_with fail
        refine Calls.mono (HC _).out ?_
        rintro _ w2 ⟨rfl, b2⟩
        go_wp2_with fail
        refine Calls.mono (HN _).out ?_
        rintro _ w3 ⟨rfl, rfl⟩
        clear HP HC HN HL
        go_wp2
        go_ret3
        exact ⟨rfl, b2⟩
      · go_enter Tryz.func89, Tryz.ntmps89
        go_wp2_with fail
        refine Calls.mono (HP _).out ?_
        rintro _ w1 ⟨rfl, rfl⟩
        go_wp2_with fail
        refine Calls.mono (HC _).out ?_
        rintro _ w2 ⟨rfl, b2⟩
        go_wp2_with fail
        refine Calls.mono (HN _).out ?_
        rintro _ w3 ⟨rfl, rfl⟩
        go_wp2_with fail
        refine Calls.mono (HL _).out ?_
        rintro _ w4 ⟨rfl, b4⟩
        clear HP HC HN HL
        go_wp2
        go_ret3
        exact ⟨rfl, b2.trans (b4.mono b2.size)⟩
  · rw [hp] at HP
    have h1 : 1 ≤ l.length := by
      cases l with
      | nil => simp [Lib.hasPrefix] at hp
      | cons a l => simp
    have e : sheetC l = ((cutQ (l.drop 1)).1, Lib.trimPrefix (cutQ (l.drop 1)).2 [39, 33], Lib.hasPrefix (cutQ (l.drop 1)).2 [39, 33] && nameS (cutQ (l.drop 1)).1 && !plainB (cutQ (l.drop 1)).1) := by unfold sheetC; rw [hp]; rfl
    rw [e]
    have HC : ∀ W, Hid _ := fun W => cutQuoted_any l hl h1 W
    have hlen := cutQ_len _ (l.drop 1) (Nat.le_refl _)
    have hdl : (l.drop 1).length ≤ l.length := by simp
    generalize cutQ (l.drop 1) = q at HC hlen ⊢
    obtain ⟨A, B⟩ := q
    simp only at HC hlen ⊢
    generalize Lib.trimPrefix B [39, 33] = B' at HC ⊢
    generalize Lib.hasPrefix B [39, 33] = f at HC ⊢
    have HN : ∀ W, Hid _ := fun W => sheetName_any (bs A) W
    have HL : ∀ W, Hid _ := fun W => plain_any A (by omega) W
    rw [show (bs A).data.toList = A from rfl] at HN
    generalize nameS A = x at HN ⊢
    generalize plainB A = y at HL ⊢
    clear hlen hdl e hp h1
    cases f
    · go_enter Tryz.func89, Tryz.ntmps89
      go_wp2_with fail
      refine Calls.mono (HP _).out ?_
      rintro _ w1 ⟨rfl, rfl⟩
      go_wp2_with fail
      refine Calls.mono (HC _).out ?_
      rintro _ w2 ⟨rfl, b2⟩
      clear HP HC HN HL
      go_wp2
      go_ret3
      exact ⟨rfl, b2⟩
    cases x
    · go_enter Tryz.func89, Tryz.ntmps89
      go_wp2_with fail
      refine Calls.mono (HP _).out ?_
      rintro _ w1 ⟨rfl, rfl⟩
      go_wp2_with fail
      refine Calls.mono (HC _).out ?_
      rintro _ w2 ⟨rfl, b2⟩
      go_wp2_with fail
      refine Calls.mono (HN _).out ?_
      rintro _ w3 ⟨rfl, rfl⟩
      clear HP HC HN HL
      go_wp2
      go_ret3
      exact ⟨rfl, b2⟩
    · go_enter Tryz.func89, Tryz.ntmps89
      go_wp2_with fail
      refine Calls.mono (HP _).out ?_
      rintro _ w1 ⟨rfl, rfl⟩
      go_wp2_with fail
      refine Calls.mono (HC _).out ?_
      rintro _ w2 ⟨rfl, b2⟩
      go_wp2_with fail
      refine Calls.mono (HN _).out ?_
      rintro _ w3 ⟨rfl, rfl⟩
      go_wp2_with fail
      refine Calls.mono (HL _).out ?_
      rintro _ w4 ⟨rfl, b4⟩
      clear HP HC HN HL
      cases y
      all_goals
        go_wp2
        go_ret3
        exact ⟨rfl, b2.trans (b4.mono b2.size)⟩
end Go.Proofs.YtgihginfegckcaaGreatDoor
