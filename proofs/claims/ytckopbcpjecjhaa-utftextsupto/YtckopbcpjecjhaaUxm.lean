/- utf: the document's Xml and Cut, and the law's own ints. -/
import Derived.Test.YtckopbcpjecjhaaUfs
namespace Go.Proofs.Ytckopbcpjecjhaa
open Go.RowKit

set_option maxRecDepth 100000 in
set_option maxHeartbeats 4000000 in
theorem xml_any (s : ByteArray) (hl : s.size ≤ 140737488351232) (w : World) :
    Calls Try.prog 11 #[.string s] w fun e w' => e = .returned (.int .i64 (errX (xmlL (natsOf s)))) ∧ Below w.heap.size w w' := by
  obtain ⟨R, HR⟩ : ∃ R, Hid (xmlL (natsOf s) = R) := ⟨_, rfl⟩
  rw [HR.out]
  go_enter Try.func11, Try.ntmps11
  go_wp2_with fail
  go_loopw [0] (fun v0 wr => ∃ t : ByteArray, v0 = .string t ∧ t.size ≤ s.size ∧ Hid (xmlL (natsOf t) = R) ∧ Below w.heap.size w wr) (fun v0 _ => (strV v0).size)
  case atStart => exact ⟨s, rfl, Nat.le_refl _, HR, Below.refl _ _⟩
  case round =>
    obtain ⟨t, rfl, ht, HT, hB⟩ := hrel
    by_cases h0 : 0 < t.size
    · have HC : Hid _ := first_says t wr h0 (by omega)
      have hne : natsOf t ≠ [] := by
        intro h
        have := natsOf_len t
        rw [h] at this
        simp at this
        omega
      have hcl := decL_le (natsOf t)
      have hnl := dec_le hne
      rw [natsOf_len] at hnl
      have hn1 := (dec_size (natsOf t)).1
      have hbad : decL (natsOf t) = (65533, 1) → R = false := fun e => HT.out.symm.trans (xmlL_bad hne e)
      have hnot : okX (decL (natsOf t)).1 = false → R = false := fun e => HT.out.symm.trans (xmlL_not hne e)
      have hstep : decL (natsOf t) ≠ (65533, 1) → okX (decL (natsOf t)).1 = true → xmlL (natsOf (t.extract (decL (natsOf t)).2 t.size)) = R := fun h1 h2 => by
        rw [natsOf_drop, ← xmlL_step hne h1 h2]
        exact HT.out
      obtain ⟨D, hD⟩ : ∃ D, decL (natsOf t) = D := ⟨_, rfl⟩
      rw [hD] at HC hcl hnl hn1 hbad hnot hstep
      obtain ⟨c, n⟩ := D
      simp only at HC hcl hnl hn1 hnot hstep
      have hsx : (t.extract n t.size).size = t.size - n := by rw [ByteArray.size_extract]; omega
      have hsx2 : (t.extract n t.size).size ≤ s.size := by omega
      have hcz : (c : Int) ≤ 1114111 := by omega
      go_wp2_with fail
      refine Calls.mono HC.out ?_
      rintro e w1 ⟨rfl, hb1⟩
      clear HC hD hne
      have HB1 : Hid (Below w.heap.size w w1) := hB.trans (hb1.mono hB.size)
      clear hB hb1
      by_cases hd : (c, n) = (65533, 1)
      · have e : decide ((c, n) ≠ (65533, 1)) = false := by simp [hd]
        rw [e]
        have hRf := hbad hd
        clear hbad hnot hstep e hd
        subst hRf
        clear HT HR
        go_wp2
        go_ret
        exact ⟨rfl, HB1.out⟩
      have e : decide ((c, n) ≠ (65533, 1)) = true := by simp [hd]
      rw [e]
      clear e
      by_cases k9 : c = 9
      · subst k9
        have HN : Hid _ := hstep hd (by decide)
        clear hbad hnot hstep hd
        clear HT HR
        go_wp2
        exact ⟨⟨_, rfl, hsx2, HN, HB1.out⟩, by simp only [strV]; omega⟩
      by_cases k10 : c = 10
      · subst k10
        have HN : Hid _ := hstep hd (by decide)
        clear hbad hnot hstep hd
        clear HT HR
        go_wp2
        exact ⟨⟨_, rfl, hsx2, HN, HB1.out⟩, by simp only [strV]; omega⟩
      by_cases k13 : c = 13
      · subst k13
        have HN : Hid _ := hstep hd (by decide)
        clear hbad hnot hstep hd
        clear HT HR
        go_wp2
        exact ⟨⟨_, rfl, hsx2, HN, HB1.out⟩, by simp only [strV]; omega⟩
      by_cases k65534 : c = 65534
      · subst k65534
        have hRf := hnot (by decide)
        clear hbad hnot hstep hd
        subst hRf
        clear HT HR
        go_wp2
        go_ret
        exact ⟨rfl, HB1.out⟩
      by_cases k65535 : c = 65535
      · subst k65535
        have hRf := hnot (by decide)
        clear hbad hnot hstep hd
        subst hRf
        clear HT HR
        go_wp2
        go_ret
        exact ⟨rfl, HB1.out⟩
      have z1 : ¬ (c : Int) = 9 := by omega
      have z2 : ¬ (c : Int) = 10 := by omega
      have z3 : ¬ (c : Int) = 13 := by omega
      have z4 : ¬ (c : Int) = 65534 := by omega
      have z5 : ¬ (c : Int) = 65535 := by omega
      by_cases k32 : 32 ≤ c
      · have z6 : ¬ (c : Int) < 32 := by omega
        have z7 : ((c : Int) == 65534) = false := by simp; omega
        have z8 : ((c : Int) == 65535) = false := by simp; omega
        have HN : Hid _ := hstep hd (decide_eq_true (by omega))
        clear hbad hnot hstep hd
        clear HT HR
        go_wp2
        exact ⟨⟨_, rfl, hsx2, HN, HB1.out⟩, by simp only [strV]; omega⟩
      · have z6 : (c : Int) < 32 := by omega
        have hRf := hnot (decide_eq_false (by omega))
        clear hbad hnot hstep hd
        subst hRf
        clear HT HR
        go_wp2
        go_ret
        exact ⟨rfl, HB1.out⟩
    · have hR : R = true := by
        rw [← HT.out]
        have : natsOf t = [] := List.eq_nil_of_length_eq_zero (by rw [natsOf_len]; omega)
        rw [this]
        rfl
      subst hR
      have HB : Hid (Below w.heap.size w wr) := hB
      have e0 : (t.size : Int) = 0 := by omega
      clear hB HT HR
      go_wp2
      go_ret
      exact ⟨rfl, HB.out⟩
end Go.Proofs.Ytckopbcpjecjhaa
