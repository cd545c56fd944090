/- utf: the document's Valid, from what 'first' finds. -/
import Derived.Test.YtckopbcpjecjhaaUtx
namespace Go.Proofs.Ytckopbcpjecjhaa
open Go.RowKit

def natsOf (s : ByteArray) : List Nat := s.data.toList.map UInt8.toNat
def strV : Value → ByteArray
  | .string s => s
  | _ => ByteArray.empty
theorem natsOf_len (s : ByteArray) : (natsOf s).length = s.size := by
  unfold natsOf
  rw [List.length_map, Array.length_toList]
  rfl
/-- What 'first' answers at a text with a byte or more. -/
def FirstSays : Prop := ∀ (s : ByteArray) (w : World), 0 < s.size → s.size ≤ 140737488351232 → Calls Try.prog 29 #[.string s] w fun e w' =>
  e = .returned (.tuple #[.int .i64 ((decL (natsOf s)).1 : Nat), .int .i64 ((decL (natsOf s)).2 : Nat), .bool (decide (decL (natsOf s) ≠ (65533, 1)))]) ∧ Below w.heap.size w w'
theorem dec_le {l : List Nat} (hn : l ≠ []) : (decL l).2 ≤ l.length := by
  have := dec_eq hn
  unfold decL Go.Lib.decodeN
  repeat' split
  all_goals simp only
  all_goals omega
theorem natsOf_drop (s : ByteArray) (n : Nat) : natsOf (s.extract n s.size) = (natsOf s).drop n := by
  have hl := natsOf_len s
  unfold natsOf at hl ⊢
  rw [ByteArray.data_extract, Array.toList_extract, List.extract_eq_take_drop]
  simp only [List.map_take, List.map_drop]
  rw [List.take_of_length_le]
  rw [List.length_drop]
  omega

set_option maxRecDepth 100000 in
set_option maxHeartbeats 4000000 in
theorem valid_any (H12 : FirstSays) (s : ByteArray) (hl : s.size ≤ 140737488351232) (w : World) :
    Calls Try.prog 9 #[.string s] w fun e w' => e = .returned (.bool (validL (natsOf s))) ∧ Below w.heap.size w w' := by
  obtain ⟨R, HR⟩ : ∃ R, Hid (validL (natsOf s) = R) := ⟨_, rfl⟩
  rw [HR.out]
  go_enter Try.func9, Try.ntmps9
  go_wp2_with fail
  go_loopw [0] (fun v0 wr => ∃ t : ByteArray, v0 = .string t ∧ t.size ≤ s.size ∧ Hid (validL (natsOf t) = R) ∧ Below w.heap.size w wr) (fun v0 _ => (strV v0).size)
  case atStart => exact ⟨s, rfl, Nat.le_refl _, HR, Below.refl _ _⟩
  case round =>
    obtain ⟨t, rfl, ht, HT, hB⟩ := hrel
    by_cases h0 : 0 < t.size
    · have HC : Hid _ := H12 t wr h0 (by omega)
      go_wp2_with fail
      refine Calls.mono HC.out ?_
      rintro e w1 ⟨rfl, hb1⟩
      clear HC
      have hne : natsOf t ≠ [] := by
        intro h
        have := natsOf_len t
        rw [h] at this
        simp at this
        omega
      have hB1 := hB.trans (hb1.mono hB.size)
      by_cases hd : decL (natsOf t) = (65533, 1)
      · have e : decide (decL (natsOf t) ≠ (65533, 1)) = false := by simp [hd]
        have HRf : Hid (R = false) := HT.out.symm.trans (validL_bad hne hd)
        rw [e]
        have HB : Hid (Below w.heap.size w w1) := hB1
        clear hB hb1 hB1 HT
        go_wp2
        go_ret
        exact ⟨by rw [HRf.out]; rfl, HB.out⟩
      · have e : decide (decL (natsOf t) ≠ (65533, 1)) = true := by simp [hd]
        rw [e]
        have HN : Hid (validL ((natsOf t).drop (decL (natsOf t)).2) = R) := (validL_step hne hd).symm.trans HT.out
        have h1 := (dec_size (natsOf t)).1
        have h2 := dec_le hne
        rw [natsOf_len] at h2
        obtain ⟨c, hc⟩ : ∃ c, (decL (natsOf t)).1 = c := ⟨_, rfl⟩
        obtain ⟨n, hn⟩ : ∃ n, (decL (natsOf t)).2 = n := ⟨_, rfl⟩
        rw [hn] at h1 h2 HN ⊢
        rw [hc]
        have HB : Hid (Below w.heap.size w w1) := hB1
        clear hB hb1 hB1 HT hd e hne hc hn
        have hsx : (t.extract n t.size).size = t.size - n := by rw [ByteArray.size_extract]; omega
        go_wp2
        exact ⟨⟨_, rfl, by omega, by show _ = _; rw [natsOf_drop]; exact HN.out, HB.out⟩, by simp only [strV]; omega⟩
    · have HRt : Hid (R = true) := by
        show _ = _
        rw [← HT.out]
        have : natsOf t = [] := List.eq_nil_of_length_eq_zero (by rw [natsOf_len]; omega)
        rw [this]
        rfl
      have HB : Hid (Below w.heap.size w wr) := hB
      have e0 : (t.size : Int) = 0 := by omega
      clear hB HT
      go_wp2
      go_ret
      exact ⟨by rw [HRt.out]; rfl, HB.out⟩
end Go.Proofs.Ytckopbcpjecjhaa
