import Derived.Test.YtdmddclfjjfcgaaDoorPah
/- dec's digitsAhead, exponent. -/
namespace Go.Proofs.YtdmddclfjjfcgaaDoor
open Go.RowKit

set_option maxRecDepth 100000 in
set_option maxHeartbeats 400000 in
theorem digitsAhead_any (l : List UInt8) (hl : l.length ≤ 9223372036854775807) (w : World) :
    Calls Tryd.prog 83 #[.string (bs l)] w fun e w' => e = .returned (.tuple #[.string (bs (aheadL l digL)), .string (bs (behL l digL))]) ∧ Below w.heap.size w w' := by
  have HT : Hid (Calls Tryd.prog 94 #[.string (bs l), .string ⟨#[48, 49, 50, 51, 52, 53, 54, 55, 56, 57]⟩] w fun e w' => e = .returned (.string (bs (behL l digL))) ∧ Below w.heap.size w w') :=
    Tryd.strings_TrimLeft_laid (bs l) (bs digL) w (by rw [bs_size]; decide) (fun j b hb => by
      have := List.all_eq_true.1 (show digL.all (fun b => decide (b.toNat < 128)) = true by decide) b (List.mem_of_getElem? hb)
      simpa using this)
  have hk := ahead_len l digL
  have s1 := bs_size l
  have s2 := bs_size (behL l digL)
  have e1 : wrap64 (((bs l).size : Int) - ((bs (behL l digL)).size : Int)) = (((aheadL l digL).length : Nat) : Int) := by
    rw [wrap64_id _ (by omega)]; omega
  have e2 : (bs l).extract 0 (aheadL l digL).length = bs (aheadL l digL) := by rw [bs_take, ahead_take]
  have hle : (aheadL l digL).length ≤ (bs l).size := by omega
  clear s1 s2 hk
  go_enter Tryd.func83, Tryd.ntmps83
  go_wp2_with fail
  refine Calls.mono HT.out ?_
  rintro _ w1 ⟨rfl, hB⟩
  clear HT
  go_wp2
  go_ret2
  exact ⟨rfl, hB⟩
/-- The digits of an exponent's text behind its letter and sign. -/
def expD (r : List UInt8) : List UInt8 := if Lib.hasPrefix r [45] then Lib.trimPrefix r [45] else Lib.trimPrefix r [43]
/-- The number of an exponent's text. -/
def expR (l : List UInt8) : Int × Bool := match l with
  | [] => (0, false)
  | a :: r => if decide (a = 69) || decide (a = 101) then
      (if decide (1 ≤ (aheadL (expD r) digL).length) && decide ((aheadL (expD r) digL).length ≤ 3) && (behL (expD r) digL).isEmpty then
        ((if Lib.hasPrefix r [45] then -((rowN (aheadL (expD r) digL) : Nat) : Int) else ((rowN (aheadL (expD r) digL) : Nat) : Int)), true) else (0, false))
      else (0, false)
theorem rowN_snoc (l : List UInt8) (c : UInt8) : rowN (l ++ [c]) = rowN l * 10 + (c.toNat - 48) := by
  unfold rowN; rw [List.foldl_append]; rfl
theorem rowN_take (D : List UInt8) (k : Nat) (h : k < D.length) : rowN (D.take (k + 1)) = rowN (D.take k) * 10 + (D[k].toNat - 48) := by
  rw [List.take_succ_eq_append_getElem h, rowN_snoc]
theorem rowN_lt : ∀ (k : Nat) (D : List UInt8), (∀ b ∈ D, b.toNat ≤ 57) → rowN (D.take k) < 10 ^ k
  | 0, D, _ => by simp [rowN]
  | k + 1, D, hD => by
    by_cases h : k < D.length
    · rw [rowN_take D k h]
      have := rowN_lt k D hD
      have hb := hD _ (List.getElem_mem h)
      rw [Nat.pow_succ]
      omega
    · have := rowN_lt k D hD
      rw [List.take_of_length_le (by omega)] at this ⊢
      rw [Nat.pow_succ]
      omega
set_option maxRecDepth 100000 in
set_option maxHeartbeats 1000000 in
theorem exp_t (l r l1 l2 D R : List UInt8) (w : World) (h0 : 0 < (bs l).size)
    (hA : ((((bs l)[0]'h0).toNat : Int) != 69) = false ∨ (((((bs l)[0]'h0).toNat : Int) != 69) = true ∧ ((((bs l)[0]'h0).toNat : Int) != 101) = false))
    (HX : Hid ((bs l).extract 1 (bs l).size = bs r))
    (h1 : ∀ W, Hid (Calls Tryd.prog 82 #[.string (bs r), .string ⟨#[45]⟩] W fun e w' => e = .returned (.tuple #[.string (bs l1), .bool true]) ∧ w' = W))
    (h3 : ∀ W, Hid (Calls Tryd.prog 83 #[.string (bs l2)] W fun e w' => e = .returned (.tuple #[.string (bs D), .string (bs R)]) ∧ Below W.heap.size W w'))
    (e12 : l1 = l2) (HD : Hid (∀ b ∈ D, 48 ≤ b.toNat ∧ b.toNat ≤ 57)) (v : Value)
    (HV : Hid (v = (if decide (1 ≤ D.length) && decide (D.length ≤ 3) && R.isEmpty then .tuple #[.int .i64 (-((rowN D : Nat) : Int)), .bool true] else .tuple #[.int .i64 0, .bool false]))) :
    Calls Tryd.prog 84 #[.string (bs l)] w fun e w' => e = .returned v ∧ Below w.heap.size w w' := by
  subst e12
  have hsl : (1 : Int) ≤ ((bs l).size : Int) := by omega
  have HZ : Hid ((bs D).size = D.length) := bs_size D
  have h1' : ∀ W, Hid (Calls Tryd.prog 82 #[.string ((bs l).extract 1 (bs l).size), .string ⟨#[45]⟩] W fun e w' => e = .returned (.tuple #[.string (bs l1), .bool true]) ∧ w' = W) := fun W => by rw [HX.out]; exact h1 W
  clear h1 HX
  rcases hA with a1 | ⟨a1, a2⟩ <;> (
    go_enter Tryd.func84, Tryd.ntmps84
    go_wp2_with fail
    refine Calls.mono (h1' _).out ?_
    rintro _ w0 ⟨rfl, hw⟩
    rw [hw]
    clear hw w0
    go_wp2_with fail
    refine Calls.mono (h3 _).out ?_
    rintro _ w1 ⟨rfl, hB⟩
    have HB : Hid (Below w.heap.size w w1) := hB
    clear hB h1' h3
    by_cases x1 : (bs D).size < 1
    case pos =>
      have t1 : ((bs D).size : Int) < 1 := by omega
      have HF : Hid ((decide (1 ≤ D.length) && decide (D.length ≤ 3) && R.isEmpty) = false) := by
        show _ = _
        rw [decide_eq_false (by have := HZ.out; omega)]; rfl
      clear x1
      go_wp2
      go_ret2
      exact ⟨by rw [HV.out, HF.out]; rfl, HB.out⟩
    have t1 : decide (((bs D).size : Int) < 1) = false := decide_eq_false (by omega)
    by_cases x2 : (bs D).size ≤ 3
    case neg =>
      have t2 : (3 : Int) < ((bs D).size : Int) := by omega
      have HF : Hid ((decide (1 ≤ D.length) && decide (D.length ≤ 3) && R.isEmpty) = false) := by
        show _ = _
        rw [decide_eq_false (show ¬ D.length ≤ 3 by have := HZ.out; omega)]; simp
      clear x1 x2
      go_wp2
      go_ret2
      exact ⟨by rw [HV.out, HF.out]; rfl, HB.out⟩
    have t2 : decide ((3 : Int) < ((bs D).size : Int)) = false := decide_eq_false (by omega)
    rcases R with _ | ⟨c, R⟩
    case cons =>
      have eE : (bs (c :: R)).toList.isEmpty = false := by rw [bs_toList]; rfl
      have HF : Hid ((decide (1 ≤ D.length) && decide (D.length ≤ 3) && (c :: R).isEmpty) = false) := by
        show _ = _
        simp
      clear x1 x2
      go_wp2
      go_ret2
      exact ⟨by rw [HV.out, HF.out]; rfl, HB.out⟩
    have eE : (bs []).toList.isEmpty = true := by rw [bs_toList]; rfl
    have HF : Hid ((decide (1 ≤ D.length) && decide (D.length ≤ 3) && ([] : List UInt8).isEmpty) = true) := by
      show _ = _
      rw [decide_eq_true (by have := HZ.out; omega), decide_eq_true (by have := HZ.out; omega)]; rfl
    have HL : Hid ((bs D).size ≤ 3) := x2
    clear x1 x2
    go_wp2
    go_loopw [7, 8, 46] (fun v7 v8 v46 wr => ∃ k : Nat, k ≤ (bs D).size ∧ v7 = .int .i64 ((rowN (D.take k) : Nat) : Int) ∧ v46 = .int .i64 (k : Int) ∧ w1 = wr ∧ v8 = v8) (fun _ _ v46 _ => (bs D).size - (intOf v46).toNat)
    case atStart => exact ⟨0, Nat.zero_le _, rfl, rfl, rfl, rfl⟩
    case round =>
      obtain ⟨k, hk, rfl, rfl, rfl, _⟩ := hrel
      by_cases hlt : k < (bs D).size
      · have HK : Hid (k < (bs D).size) := hlt
        have hlt := hlt
        have hl2 : k < D.length := by have := HZ.out; omega
        have hdig := HD.out D[k] (List.getElem_mem hl2)
        have hnx := rowN_take D k hl2
        have hb := rowN_lt k D (fun b hb => (HD.out b hb).2)
        have hb3 : 10 ^ k ≤ 10 ^ 3 := Nat.pow_le_pow_right (by omega) (by have := HL.out; omega)
        obtain ⟨u, hu⟩ : ∃ u, rowN (D.take k) = u := ⟨_, rfl⟩
        obtain ⟨x, hx⟩ : ∃ x : Nat, D[k].toNat = x := ⟨_, rfl⟩
        rw [hu, hx] at hnx
        rw [hx] at hdig
        rw [hu] at hb ⊢
        have hgx : ((bs D)[k]'hlt).toNat = x := hx
        have hx1 : IntKind.u8.wrap ((x : Int) - 48) = ((x - 48 : Nat) : Int) := by simp [IntKind.wrap, IntKind.bits, IntKind.signed]; omega
        have hx2 : wrap64 ((u : Int) * 10) = ((u * 10 : Nat) : Int) := by unfold wrap64; omega
        have HN : Hid (rowN (D.take (k + 1)) = u * 10 + (x - 48)) := hnx
        have HU : Hid (u < 1000) := by show _ < _; omega
        have HXd : Hid (48 ≤ x ∧ x ≤ 57) := hdig
        have b1 : (48 : Int) ≤ (x : Int) := by omega
        have b2 : (x : Int) ≤ 57 := by omega
        have b3 : (u : Int) < 1000 := by omega
        have b4 : (k : Int) < 3 := by have := HL.out; omega
        clear hnx hu hx hb hb3 hdig hl2
        go_wp2
        go_roundw
        case rel => exact ⟨k + 1, HK.out, by rw [HN.out]; first | rfl | (congr 1; have := HXd.out; have := HU.out; push_cast; omega) | go_num, by go_num, trivial, trivial⟩
        case measure => have := HK.out; simp [intOf]; omega
      · obtain rfl : k = (bs D).size := by omega
        have HT : Hid (rowN (D.take (bs D).size) = rowN D) := by show _ = _; rw [HZ.out, List.take_length]
        have hb := rowN_lt 3 D (fun b hb => (HD.out b hb).2)
        rw [List.take_of_length_le (by have := HZ.out; have := HL.out; omega)] at hb
        rw [HT.out]
        obtain ⟨u, hu⟩ : ∃ u, rowN D = u := ⟨_, rfl⟩
        have HU : Hid (rowN D = u) := hu
        rw [hu] at hb ⊢
        clear hu HT
        go_wp2
        go_ret2
        exact ⟨by rw [HV.out, HF.out, HU.out]; rfl, HB.out⟩)
set_option maxRecDepth 100000 in
set_option maxHeartbeats 1000000 in
theorem exp_f (l r l1 l2 D R : List UInt8) (w : World) (h0 : 0 < (bs l).size)
    (hA : ((((bs l)[0]'h0).toNat : Int) != 69) = false ∨ (((((bs l)[0]'h0).toNat : Int) != 69) = true ∧ ((((bs l)[0]'h0).toNat : Int) != 101) = false))
    (HX : Hid ((bs l).extract 1 (bs l).size = bs r))
    (h1 : ∀ W, Hid (Calls Tryd.prog 82 #[.string (bs r), .string ⟨#[45]⟩] W fun e w' => e = .returned (.tuple #[.string (bs l1), .bool false]) ∧ w' = W))
    (h2 : ∀ W, Hid (Calls Tryd.prog 95 #[.string (bs l1), .string ⟨#[43]⟩] W fun e w' => e = .returned (.string (bs l2)) ∧ w' = W))
    (h3 : ∀ W, Hid (Calls Tryd.prog 83 #[.string (bs l2)] W fun e w' => e = .returned (.tuple #[.string (bs D), .string (bs R)]) ∧ Below W.heap.size W w'))
    (HD : Hid (∀ b ∈ D, 48 ≤ b.toNat ∧ b.toNat ≤ 57)) (v : Value)
    (HV : Hid (v = (if decide (1 ≤ D.length) && decide (D.length ≤ 3) && R.isEmpty then .tuple #[.int .i64 (((rowN D : Nat) : Int)), .bool true] else .tuple #[.int .i64 0, .bool false]))) :
    Calls Tryd.prog 84 #[.string (bs l)] w fun e w' => e = .returned v ∧ Below w.heap.size w w' := by
  have hsl : (1 : Int) ≤ ((bs l).size : Int) := by omega
  have HZ : Hid ((bs D).size = D.length) := bs_size D
  have h1' : ∀ W, Hid (Calls Tryd.prog 82 #[.string ((bs l).extract 1 (bs l).size), .string ⟨#[45]⟩] W fun e w' => e = .returned (.tuple #[.string (bs l1), .bool false]) ∧ w' = W) := fun W => by rw [HX.out]; exact h1 W
  clear h1 HX
  rcases hA with a1 | ⟨a1, a2⟩ <;> (
    go_enter Tryd.func84, Tryd.ntmps84
    go_wp2_with fail
    refine Calls.mono (h1' _).out ?_
    rintro _ w0 ⟨rfl, hw⟩
    rw [hw]
    clear hw w0
    go_wp2_with fail
    refine Calls.mono (h2 _).out ?_
    rintro _ w0 ⟨rfl, hw⟩
    rw [hw]
    clear hw w0
    go_wp2_with fail
    refine Calls.mono (h3 _).out ?_
    rintro _ w1 ⟨rfl, hB⟩
    have HB : Hid (Below w.heap.size w w1) := hB
    clear hB h1' h3
    by_cases x1 : (bs D).size < 1
    case pos =>
      have t1 : ((bs D).size : Int) < 1 := by omega
      have HF : Hid ((decide (1 ≤ D.length) && decide (D.length ≤ 3) && R.isEmpty) = false) := by
        show _ = _
        rw [decide_eq_false (by have := HZ.out; omega)]; rfl
      clear x1
      go_wp2
      go_ret2
      exact ⟨by rw [HV.out, HF.out]; rfl, HB.out⟩
    have t1 : decide (((bs D).size : Int) < 1) = false := decide_eq_false (by omega)
    by_cases x2 : (bs D).size ≤ 3
    case neg =>
      have t2 : (3 : Int) < ((bs D).size : Int) := by omega
      have HF : Hid ((decide (1 ≤ D.length) && decide (D.length ≤ 3) && R.isEmpty) = false) := by
        show _ = _
        rw [decide_eq_false (show ¬ D.length ≤ 3 by have := HZ.out; omega)]; simp
      clear x1 x2
      go_wp2
      go_ret2
      exact ⟨by rw [HV.out, HF.out]; rfl, HB.out⟩
    have t2 : decide ((3 : Int) < ((bs D).size : Int)) = false := decide_eq_false (by omega)
    rcases R with _ | ⟨c, R⟩
    case cons =>
      have eE : (bs (c :: R)).toList.isEmpty = false := by rw [bs_toList]; rfl
      have HF : Hid ((decide (1 ≤ D.length) && decide (D.length ≤ 3) && (c :: R).isEmpty) = false) := by
        show _ = _
        simp
      clear x1 x2
      go_wp2
      go_ret2
      exact ⟨by rw [HV.out, HF.out]; rfl, HB.out⟩
    have eE : (bs []).toList.isEmpty = true := by rw [bs_toList]; rfl
    have HF : Hid ((decide (1 ≤ D.length) && decide (D.length ≤ 3) && ([] : List UInt8).isEmpty) = true) := by
      show _ = _
      rw [decide_eq_true (by have := HZ.out; omega), decide_eq_true (by have := HZ.out; omega)]; rfl
    have HL : Hid ((bs D).size ≤ 3) := x2
    clear x1 x2
    go_wp2
    go_loopw [7, 8, 46] (fun v7 v8 v46 wr => ∃ k : Nat, k ≤ (bs D).size ∧ v7 = .int .i64 ((rowN (D.take k) : Nat) : Int) ∧ v46 = .int .i64 (k : Int) ∧ w1 = wr ∧ v8 = v8) (fun _ _ v46 _ => (bs D).size - (intOf v46).toNat)
    case atStart => exact ⟨0, Nat.zero_le _, rfl, rfl, rfl, rfl⟩
    case round =>
      obtain ⟨k, hk, rfl, rfl, rfl, _⟩ := hrel
      by_cases hlt : k < (bs D).size
      · have HK : Hid (k < (bs D).size) := hlt
        have hlt := hlt
        have hl2 : k < D.length := by have := HZ.out; omega
        have hdig := HD.out D[k] (List.getElem_mem hl2)
        have hnx := rowN_take D k hl2
        have hb := rowN_lt k D (fun b hb => (HD.out b hb).2)
        have hb3 : 10 ^ k ≤ 10 ^ 3 := Nat.pow_le_pow_right (by omega) (by have := HL.out; omega)
        obtain ⟨u, hu⟩ : ∃ u, rowN (D.take k) = u := ⟨_, rfl⟩
        obtain ⟨x, hx⟩ : ∃ x : Nat, D[k].toNat = x := ⟨_, rfl⟩
        rw [hu, hx] at hnx
        rw [hx] at hdig
        rw [hu] at hb ⊢
        have hgx : ((bs D)[k]'hlt).toNat = x := hx
        have hx1 : IntKind.u8.wrap ((x : Int) - 48) = ((x - 48 : Nat) : Int) := by simp [IntKind.wrap, IntKind.bits, IntKind.signed]; omega
        have hx2 : wrap64 ((u : Int) * 10) = ((u * 10 : Nat) : Int) := by unfold wrap64; omega
        have HN : Hid (rowN (D.take (k + 1)) = u * 10 + (x - 48)) := hnx
        have HU : Hid (u < 1000) := by show _ < _; omega
        have HXd : Hid (48 ≤ x ∧ x ≤ 57) := hdig
        have b1 : (48 : Int) ≤ (x : Int) := by omega
        have b2 : (x : Int) ≤ 57 := by omega
        have b3 : (u : Int) < 1000 := by omega
        have b4 : (k : Int) < 3 := by have := HL.out; omega
        clear hnx hu hx hb hb3 hdig hl2
        go_wp2
        go_roundw
        case rel => exact ⟨k + 1, HK.out, by rw [HN.out]; first | rfl | (congr 1; have := HXd.out; have := HU.out; push_cast; omega) | go_num, by go_num, trivial, trivial⟩
        case measure => have := HK.out; simp [intOf]; omega
      · obtain rfl : k = (bs D).size := by omega
        have HT : Hid (rowN (D.take (bs D).size) = rowN D) := by show _ = _; rw [HZ.out, List.take_length]
        have hb := rowN_lt 3 D (fun b hb => (HD.out b hb).2)
        rw [List.take_of_length_le (by have := HZ.out; have := HL.out; omega)] at hb
        rw [HT.out]
        obtain ⟨u, hu⟩ : ∃ u, rowN D = u := ⟨_, rfl⟩
        have HU : Hid (rowN D = u) := hu
        rw [hu] at hb ⊢
        clear hu HT
        go_wp2
        go_ret2
        exact ⟨by rw [HV.out, HF.out, HU.out]; rfl, HB.out⟩)
end Go.Proofs.YtdmddclfjjfcgaaDoor
/- dec's exponent, whole. -/
namespace Go.Proofs.YtdmddclfjjfcgaaDoor
open Go.RowKit

set_option maxRecDepth 100000 in
set_option maxHeartbeats 400000 in
theorem exp_no (l : List UInt8) (w : World) (h0 : 0 < (bs l).size) (a1 : ((((bs l)[0]'h0).toNat : Int) != 69) = true) (a2 : ((((bs l)[0]'h0).toNat : Int) != 101) = true) :
    Calls Tryd.prog 84 #[.string (bs l)] w fun e w' => e = .returned (.tuple #[.int .i64 0, .bool false]) ∧ Below w.heap.size w w' := by
  go_enter Tryd.func84, Tryd.ntmps84
  go_wp2
  go_ret2
  exact ⟨rfl, Below.refl _ _⟩
theorem neI {a : UInt8} {n : Nat} (hn : n < 256) : ((a.toNat : Int) != (n : Int)) = !decide (a = UInt8.ofNat n) := by
  by_cases h : a = UInt8.ofNat n
  · subst h
    have : (UInt8.ofNat n).toNat = n := by simp; omega
    simp [this]
  · rw [decide_eq_false h]
    have : a.toNat ≠ n := fun e => h (UInt8.toNat_inj.1 (by rw [e]; simp; omega))
    simp; omega
theorem trim_len (l p : List UInt8) : (Lib.trimPrefix l p).length ≤ l.length := by
  unfold Lib.trimPrefix; split
  · simp
  · exact Nat.le_refl _
theorem exponent_any (a : UInt8) (r : List UInt8) (hl : (a :: r).length ≤ 140737488351232) (w : World) :
    Calls Tryd.prog 84 #[.string (bs (a :: r))] w fun e w' => e = .returned (.tuple #[.int .i64 (expR (a :: r)).1, .bool (expR (a :: r)).2]) ∧ Below w.heap.size w w' := by
  have h0 : 0 < (bs (a :: r)).size := by rw [bs_size]; simp
  have hg : ((bs (a :: r))[0]'h0) = a := rfl
  have n1 : ((((bs (a :: r))[0]'h0).toNat : Int) != 69) = !decide (a = 69) := neI (n := 69) (by omega)
  have n2 : ((((bs (a :: r))[0]'h0).toNat : Int) != 101) = !decide (a = 101) := neI (n := 101) (by omega)
  have HX : Hid ((bs (a :: r)).extract 1 (bs (a :: r)).size = bs r) := by show _ = _; rw [bs_drop]; rfl
  have hr : r.length ≤ 140737488351232 := by simp at hl; omega
  have hcut : ∀ W, Hid (Calls Tryd.prog 82 #[.string (bs r), .string ⟨#[45]⟩] W fun e w' => e = .returned (.tuple #[.string (bs (Lib.trimPrefix r [45])), .bool (Lib.hasPrefix r [45])]) ∧ w' = W) := fun W => Tryd.strings_CutPrefix (bs r) (bs [45]) W
  by_cases hE : a = 69 ∨ a = 101
  · have hA : ((((bs (a :: r))[0]'h0).toNat : Int) != 69) = false ∨ (((((bs (a :: r))[0]'h0).toNat : Int) != 69) = true ∧ ((((bs (a :: r))[0]'h0).toNat : Int) != 101) = false) := by
      rw [n1, n2]
      rcases hE with rfl | rfl <;> decide
    have hd : (decide (a = 69) || decide (a = 101)) = true := by simpa using hE
    have he : expR (a :: r) = (if decide (1 ≤ (aheadL (expD r) digL).length) && decide ((aheadL (expD r) digL).length ≤ 3) && (behL (expD r) digL).isEmpty then
        ((if Lib.hasPrefix r [45] then -((rowN (aheadL (expD r) digL) : Nat) : Int) else ((rowN (aheadL (expD r) digL) : Nat) : Int)), true) else (0, false)) := by
      unfold expR; simp only; rw [if_pos hd]
    have HD : Hid (∀ b ∈ aheadL (expD r) digL, 48 ≤ b.toNat ∧ b.toNat ≤ 57) := fun b hb => dig_bounds (ahead_mem hb)
    rw [he]
    cases hp : Lib.hasPrefix r [45]
    · rw [hp] at hcut
      have e1 : Lib.trimPrefix r [45] = r := by unfold Lib.trimPrefix; rw [hp]; rfl
      rw [e1] at hcut
      have e2 : expD r = Lib.trimPrefix r [43] := by unfold expD; rw [hp]; rfl
      rw [e2] at HD ⊢
      refine exp_f (a :: r) r r (Lib.trimPrefix r [43]) _ _ w h0 hA HX hcut (fun W => Tryd.strings_TrimPrefix (bs r) (bs [43]) W) (fun W => digitsAhead_any _ (by have := trim_len r [43]; omega) W) HD _ ?_
      show _ = _
      split <;> rfl
    · rw [hp] at hcut
      have e2 : expD r = Lib.trimPrefix r [45] := by unfold expD; rw [hp]; rfl
      rw [e2] at HD ⊢
      refine exp_t (a :: r) r (Lib.trimPrefix r [45]) (Lib.trimPrefix r [45]) _ _ w h0 hA HX hcut (fun W => digitsAhead_any _ (by have := trim_len r [45]; omega) W) rfl HD _ ?_
      show _ = _
      split <;> rfl
  · have hd : (decide (a = 69) || decide (a = 101)) = false := by simpa using hE
    have he : expR (a :: r) = (0, false) := by unfold expR; simp only; rw [hd]; rfl
    rw [he]
    simp only [not_or] at hE
    refine exp_no (a :: r) w h0 ?_ ?_
    · rw [n1, decide_eq_false hE.1]; rfl
    · rw [n2, decide_eq_false hE.2]; rfl
end Go.Proofs.YtdmddclfjjfcgaaDoor
