/- Bytes of both writers, the program's Align and Len; the bits behind them. -/
import Derived.Test.YtmebbmofegjgnaaDw
import Derived.Deep.AppendSrc
namespace Go.Proofs.Ytmebbmofegjgnaa
open Go.RowKit

def byteBits (zs : List Int) : List Bool := zs.flatMap fun z => lowBits z.toNat 8
theorem byteBits_length (zs : List Int) : (byteBits zs).length = 8 * zs.length := by
  induction zs with
  | nil => rfl
  | cons z zs ih =>
    have e : byteBits (z :: zs) = lowBits z.toNat 8 ++ byteBits zs := rfl
    rw [e, List.length_append, ih, lowBits_length, List.length_cons]
    omega
theorem byteBits_snoc (zs : List Int) (z : Int) : byteBits (zs ++ [z]) = byteBits zs ++ lowBits z.toNat 8 := by simp [byteBits]
theorem byteBits_get (zs : List Int) (j : Nat) (hj : j / 8 < zs.length) : (byteBits zs)[j]?.getD false = (zs[j / 8]?.getD 0).toNat.testBit (j % 8) := by
  induction zs generalizing j with
  | nil => simp at hj
  | cons z zs ih =>
    have e : byteBits (z :: zs) = lowBits z.toNat 8 ++ byteBits zs := rfl
    rw [e]
    by_cases h8 : j < 8
    · rw [List.getElem?_append_left (by rw [lowBits_length]; exact h8), show j / 8 = 0 by omega, show j % 8 = j by omega]
      simp [lowBits, h8]
    · rw [List.getElem?_append_right (by rw [lowBits_length]; omega), lowBits_length]
      have h1 : j / 8 = (j - 8) / 8 + 1 := by omega
      rw [ih (j - 8) (by simp only [List.length_cons] at hj; omega), h1, List.getElem?_cons_succ, show (j - 8) % 8 = j % 8 by omega]

theorem packed_pad {ys : List Int} {bs : List Bool} (h : Packed ys bs) : Packed ys (pad bs) := by
  refine ⟨by rw [pad_length]; have := h.len; omega, h.are, fun p => ?_⟩
  rw [h.bit p, pad]
  by_cases hp : p < bs.length
  · rw [List.getElem?_append_left hp]
  · rw [List.getElem?_eq_none (by omega), List.getElem?_append_right (by omega)]
    by_cases h2 : p - bs.length < padN bs.length
    · simp [h2]
    · simp [h2]
theorem packed_bytes {ys zs : List Int} {bs : List Bool} (h : Packed ys bs) (hz : AreBytes zs) : Packed (ys ++ zs) (pad bs ++ byteBits zs) := by
  have hp := packed_pad h
  have hl := hp.len
  have hpl := pad_length bs
  refine ⟨by rw [List.length_append, List.length_append, byteBits_length]; omega, ?_, ?_⟩
  · intro j
    by_cases hj : j < ys.length
    · rw [List.getElem?_append_left hj]; exact h.are j
    · rw [List.getElem?_append_right (by omega)]; exact hz _
  · intro p
    unfold tb
    by_cases hj : p / 8 < ys.length
    · rw [List.getElem?_append_left hj, List.getElem?_append_left (by omega)]
      exact hp.bit p
    · rw [List.getElem?_append_right (by omega), List.getElem?_append_right (by omega)]
      by_cases hk : p / 8 - ys.length < zs.length
      · rw [byteBits_get zs _ (by omega), show (p - (pad bs).length) / 8 = p / 8 - ys.length by omega, show (p - (pad bs).length) % 8 = p % 8 by omega]
      · rw [List.getElem?_eq_none (by omega), List.getElem?_eq_none (by rw [byteBits_length]; omega)]
        simp
theorem packed_unique {ys zs : List Int} {bs : List Bool} (h : Packed ys bs) (k : Packed zs bs) : ys = zs := by
  have hl : ys.length = zs.length := by rw [h.len, k.len]
  apply List.ext_getElem hl
  intro i h1 h2
  have a1 := h.are i
  have a2 := k.are i
  have e : (ys[i]?.getD 0).toNat = (zs[i]?.getD 0).toNat := by
    apply Nat.eq_of_testBit_eq
    intro j
    by_cases hj : j < 8
    · have b1 := h.bit (8 * i + j)
      have b2 := k.bit (8 * i + j)
      unfold tb at b1 b2
      rw [show (8 * i + j) / 8 = i by omega, show (8 * i + j) % 8 = j by omega] at b1 b2
      rw [b1, b2]
    · have p8 : (2 : Nat) ^ 8 ≤ 2 ^ j := Nat.pow_le_pow_right (by omega) (by omega)
      rw [Nat.testBit_lt_two_pow (by omega), Nat.testBit_lt_two_pow (by omega)]
  rw [List.getElem?_eq_getElem h1, List.getElem?_eq_getElem h2] at e
  rw [List.getElem?_eq_getElem h1] at a1
  rw [List.getElem?_eq_getElem h2] at a2
  simp only [Option.getD_some] at e a1 a2
  omega

set_option maxHeartbeats 1000000 in
theorem dbytes_any (T : Nat → Prop) (R : Nat) (bs : List Bool) (a : Option Addr) (cap : Nat) (zs : List Int) (w : World) (hW : IsDr T w R bs) (hT : ∀ k, T k → k < w.heap.size) (hTR : ¬ T R) (hsz : bs.length + 8 * zs.length + 64 < 140737488355328)
    (hz : AreBytes zs) (hI : BytesIn T w (.slice a zs.length cap) zs) :
    Calls Try.prog 25 #[.pointer (some ⟨R, 0, none⟩), .slice a zs.length cap] w fun e w' => e = .returned (.tuple #[]) ∧ IsDr T w' R (pad bs ++ byteBits zs) ∧ Kept T w w' := by
  have hpl := pad_length bs
  go_enter Try.func25, Try.ntmps25
  go_wp2_with fail
  refine (dalign_any T R bs w hW hT hTR (by omega)).mono ?_
  rintro e w1 ⟨rfl, hW1, hK1⟩
  have HPL : Hid ((pad bs).length = (bs.length + 7) / 8 * 8) := hpl
  clear hpl
  go_wp2_with fail
  go_loopw [4] (fun i wr => ∃ k : Nat, k ≤ zs.length ∧ i = .int .i64 k ∧ IsDr T wr R (pad bs ++ byteBits (zs.take k)) ∧ Kept T w wr) (fun i _ => zs.length - (intOf i).toNat)
  case atStart => exact ⟨0, by omega, rfl, by simpa [byteBits] using hW1, hK1⟩
  case round =>
    obtain ⟨k, hk, rfl, hDr, hK⟩ := hrel
    by_cases hlt : k < zs.length
    · rcases hI with ⟨rfl, _⟩ | ⟨b, off, cap', e, hb, hc⟩
      · simp at hlt
      simp only [Value.slice.injEq, true_and] at e
      obtain ⟨rfl, rfl⟩ := e
      have hzk := hz k
      have hcx := (hK.cell (p := ⟨b, off + k, none⟩) hb).trans (hc k hlt)
      have HS : Hid (byteBits (zs.take (k + 1)) = byteBits (zs.take k) ++ lowBits (zs[k]?.getD 0).toNat 8) := by
        show _ = _
        rw [List.take_succ_eq_append_getElem hlt, byteBits_snoc]
        simp [hlt]
      have hTr : ∀ j, T j → j < wr.heap.size := fun j hj => Nat.lt_of_lt_of_le (hT j hj) hK.size
      have hput := dput_any T R (pad bs ++ byteBits (zs.take k)) (zs[k]?.getD 0).toNat 8 wr hDr hTr hTR (by rw [List.length_append, byteBits_length, List.length_take]; have := HPL.out; omega) (by omega)
      have HZ : Hid (zs[k]?.getD 0 % 4294967296 = ((zs[k]?.getD 0).toNat : Int)) := by show _ = _; omega
      generalize zs[k]?.getD 0 = z at hcx HS hput HZ
      clear hc hz hzk
      go_wp2_with fail
      rw [HZ.out]
      refine hput.mono ?_
      rintro e w2 ⟨rfl, hDr2, hK2⟩
      go_wp2
      exact ⟨⟨k + 1, by omega, by go_num, by rw [HS.out, ← List.append_assoc]; exact hDr2, hK.trans hK2⟩, by simp [intOf]; omega⟩
    · obtain rfl : k = zs.length := by omega
      rw [List.take_length] at hDr
      go_wp2
      go_end0
      exact ⟨rfl, hDr, hK⟩

set_option maxHeartbeats 400000 in
theorem walign_any (R : Nat) (g : Option Addr) (len c : Nat) (v1 : Value) (w : World) (hl : len ≤ 140737488355328) (h2 : Two w R 63 (.slice g len c) v1) (hv : ∃ s : Nat, v1 = .int .i64 s) :
    Calls Try.prog 22 #[.pointer (some ⟨R, 0, none⟩)] w fun e w' => e = .returned (.tuple #[]) ∧ w' = w.setCell ⟨R, 1, none⟩ (.int .i64 ((8 * len : Nat) : Int)) := by
  obtain ⟨s, rfl⟩ := hv
  have c0 := h2.cell0
  have c1 := h2.cell1
  have f1 := h2.frozen 1
  go_enter Try.func22, Try.ntmps22
  go_wp2
  go_end0
  exact ⟨rfl, rfl⟩

set_option maxHeartbeats 400000 in
theorem len_any (R : Nat) (v0 : Value) (s : Nat) (w : World) (h2 : Two w R 63 v0 (.int .i64 s)) :
    Calls Try.prog 26 #[.pointer (some ⟨R, 0, none⟩)] w fun e w' => e = .returned (.int .i64 s) ∧ w' = w := by
  have c1 := h2.cell1
  go_enter Try.func26, Try.ntmps26
  go_wp2
  go_ret
  exact ⟨rfl, rfl⟩
end Go.Proofs.Ytmebbmofegjgnaa
