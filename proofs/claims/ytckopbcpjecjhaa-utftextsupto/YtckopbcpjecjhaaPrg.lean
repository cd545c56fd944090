/- utf: what a range over a string finds; the program's Count, broken, Valid. -/
import Derived.Test.YtckopbcpjecjhaaPtn
import Derived.Test.YtckopbcpjecjhaaUva
import Derived.WalkSmall
namespace Go.Proofs.Ytckopbcpjecjhaa
open Go.RowKit

theorem natsOf_getD (s : ByteArray) (j : Nat) : (natsOf s).getD j 0 = (s.get! j).toNat := by
  unfold natsOf
  by_cases h : j < s.size
  · have h' : j < s.data.toList.length := by simpa using h
    have h2 : j < s.data.size := h
    rw [List.getD_eq_getElem?_getD, List.getElem?_map, List.getElem?_eq_getElem h']
    simp only [ByteArray.get!, getElem!_pos s.data j h2]
    simp
  · have h' : ¬ j < s.data.toList.length := by simpa using h
    have h2 : ¬ j < s.data.size := h
    rw [List.getD_eq_getElem?_getD, List.getElem?_map, List.getElem?_eq_none (by omega)]
    simp only [ByteArray.get!, getElem!_neg s.data j h2]
    rfl
theorem drop_getD (l : List Nat) (i j : Nat) : (l.drop i).getD j 0 = l.getD (i + j) 0 := by
  rw [List.getD_eq_getElem?_getD, List.getD_eq_getElem?_getD, List.getElem?_drop]
/-- What the range finds at a place. -/
theorem decode_nats (s : ByteArray) (i : Nat) : Utf8.decode s i = decL ((natsOf s).drop i) := by
  rw [Lib.decode_at]
  unfold decL
  rw [List.length_drop, natsOf_len, drop_getD, drop_getD, drop_getD, drop_getD, natsOf_getD, natsOf_getD, natsOf_getD, natsOf_getD]
  rfl
theorem drop_ne {s : ByteArray} {i : Nat} (h : i < s.size) : (natsOf s).drop i ≠ [] := by
  intro e
  have := congrArg List.length e
  rw [List.length_drop, natsOf_len] at this
  simp at this
  omega
theorem drop_end {s : ByteArray} {i : Nat} (h : ¬ i < s.size) : (natsOf s).drop i = [] := List.drop_eq_nil_of_le (by rw [natsOf_len]; omega)
theorem decL_le (l : List Nat) : (decL l).1 ≤ 1114111 := by
  unfold decL Lib.decodeN
  repeat' split
  all_goals simp only
  all_goals omega
/-- How far the range goes with one step. -/
theorem step_in {s : ByteArray} {i : Nat} (h : i < s.size) : i + (decL ((natsOf s).drop i)).2 ≤ s.size ∧ 1 ≤ (decL ((natsOf s).drop i)).2 := by
  have h1 := dec_le (drop_ne h)
  rw [List.length_drop, natsOf_len] at h1
  have := (dec_size ((natsOf s).drop i)).1
  omega
theorem runes_at {s : ByteArray} {i : Nat} (h : i < s.size) : runesL ((natsOf s).drop i) = (decL ((natsOf s).drop i)).1 :: runesL ((natsOf s).drop (i + (decL ((natsOf s).drop i)).2)) := by
  rw [runesL_step (drop_ne h), List.drop_drop]

set_option maxRecDepth 100000 in
set_option maxHeartbeats 2000000 in
theorem pcount_any (s : ByteArray) (hl : s.size ≤ 140737488351232) (w : World) :
    Calls Try.prog 15 #[.string s] w fun e w' => e = .returned (.int .i64 ((runesL (natsOf s)).length : Int)) ∧ Below w.heap.size w w' := by
  obtain ⟨R, HR⟩ : ∃ R, Hid ((runesL (natsOf s)).length = R) := ⟨_, rfl⟩
  rw [HR.out]
  go_enter Try.func15, Try.ntmps15
  go_wp2_with fail
  go_loopw [3] (fun v3 wr => ∃ (k pos : Nat), pos ≤ s.size ∧ k ≤ pos ∧ v3 = .int .i64 (k : Int) ∧ wr.heap[w.heap.size]? = some (.stringIter s pos) ∧ Hid (k + (runesL ((natsOf s).drop pos)).length = R) ∧ Below w.heap.size w wr) (fun _ wr => s.size - wr.iterPos w.heap.size)
  case atStart =>
    refine ⟨0, 0, by omega, by omega, rfl, World.iter_heap w s 0, ?_, (Below.refl _ w).alloc (Nat.le_refl _) _⟩
    show 0 + (runesL ((natsOf s).drop 0)).length = R
    rw [List.drop_zero, Nat.zero_add]
    exact HR.out
  case round =>
    obtain ⟨k, pos, hp, hkp, rfl, hit, HK, hB⟩ := hrel
    by_cases h : pos < s.size
    · have hnx : ∀ ty, (Instr.next (.pointer (some ⟨w.heap.size, 0, none⟩)) true ty).run Try.prog wr = _ := fun ty => Lib.run_next_any_at wr w.heap.size s pos ty hit h
      rw [decode_nats] at hnx
      have hst := step_in h
      have hra := runes_at h
      have hsz : w.heap.size < wr.heap.size := (Array.getElem?_eq_some_iff.1 hit).1
      have hit2 := Lib.iterAt_heap wr w.heap.size s pos (pos + (decL ((natsOf s).drop pos)).2) hit
      have hB2 := Lib.below_iterAt hB (k := w.heap.size) (Nat.le_refl _) s (pos + (decL ((natsOf s).drop pos)).2)
      obtain ⟨c, hc⟩ : ∃ c, (decL ((natsOf s).drop pos)).1 = c := ⟨_, rfl⟩
      obtain ⟨n, hn⟩ : ∃ n, (decL ((natsOf s).drop pos)).2 = n := ⟨_, rfl⟩
      rw [hc, hn] at hnx hra
      rw [hn] at hst hit2 hB2
      obtain ⟨W, hW⟩ : ∃ W, wr.iterAt w.heap.size s (pos + n) = W := ⟨_, rfl⟩
      rw [hW] at hnx hit2 hB2
      have HN : Hid (k + 1 + (runesL ((natsOf s).drop (pos + n))).length = R) := by
        show _ = _
        rw [← HK.out, hra, List.length_cons]
        omega
      have HI : Hid _ := hit2
      have HB : Hid _ := hB2
      have HP := iterPos_of hit
      clear hit2 hB2 hB hra HK hW hc hn hit
      go_wp2
      refine ⟨⟨k + 1, pos + n, hst.1, by omega, by simp, HI.out, HN, HB.out⟩, ?_⟩
      rw [iterPos_of HI.out, HP]
      omega
    · have hnx : ∀ ty, (Instr.next (.pointer (some ⟨w.heap.size, 0, none⟩)) true ty).run Try.prog wr = _ := fun ty => Lib.run_next_end_at wr w.heap.size s pos ty hit h
      have hR : R = k := by
        rw [← HK.out, drop_end h]
        simp [runesL, runesF]
      subst hR
      have HB : Hid _ := hB
      clear hB hit HK
      go_wp2
      go_ret
      exact ⟨rfl, HB.out⟩

/-- The stand-in that is really written. -/
theorem wr_fffd : wrN 65533 = [239, 191, 189] := by decide
theorem dec_fffd {l : List Nat} (hb : Bys l) (hn : l ≠ []) (h1 : (decL l).1 = 65533) : (decL l ≠ (65533, 1)) ↔ [239, 191, 189] <+: l := by
  constructor
  · intro h
    obtain ⟨_, r, hl, _⟩ := dec_ok hb hn h
    rw [h1, wr_fffd] at hl
    exact ⟨r, hl.symm⟩
  · rintro ⟨r, rfl⟩ h
    have := dec_wr 65533 ⟨by omega, by omega, by omega⟩ r
    rw [wr_fffd, h] at this
    simp at this
theorem bys_nats (s : ByteArray) : Bys (natsOf s) := by
  intro x hx
  obtain ⟨b, _, rfl⟩ := List.mem_map.1 hx
  exact b.toNat_lt
theorem bys_drop {l : List Nat} (h : Bys l) (n : Nat) : Bys (l.drop n) := fun x hx => h x (List.mem_of_mem_drop hx)
theorem prefix_map : ∀ (p l : List UInt8), p.isPrefixOf l = (p.map UInt8.toNat).isPrefixOf (l.map UInt8.toNat)
  | [], l => by simp
  | a :: p, [] => by simp
  | a :: p, b :: l => by
    simp only [List.map_cons, List.isPrefixOf_cons_cons, prefix_map p l]
    congr 1
    rw [Bool.eq_iff_iff, beq_iff_eq, beq_iff_eq, UInt8.toNat_inj]
theorem hasP (s : ByteArray) (pos : Nat) (h : pos < s.size) (h1 : (decL ((natsOf s).drop pos)).1 = 65533) :
    Lib.hasPrefix (s.extract pos s.size).data.toList [239, 191, 189] = decide (decL ((natsOf s).drop pos) ≠ (65533, 1)) := by
  unfold Lib.hasPrefix
  rw [prefix_map]
  have e : (s.extract pos s.size).data.toList.map UInt8.toNat = (natsOf s).drop pos := natsOf_drop s pos
  rw [e, Bool.eq_iff_iff, decide_eq_true_iff, List.isPrefixOf_iff_prefix]
  exact (dec_fffd (bys_drop (bys_nats s) pos) (drop_ne h) h1).symm

set_option maxRecDepth 100000 in
set_option maxHeartbeats 2000000 in
/-- Does the byte at a place begin no character? -/
theorem broken_any (s : ByteArray) (pos : Nat) (h : pos < s.size) (w : World) :
    Calls Try.prog 28 #[.string s, .int .i64 (pos : Int), .int .i32 ((decL ((natsOf s).drop pos)).1 : Nat)] w fun e w' => e = .returned (.bool (decide (decL ((natsOf s).drop pos) = (65533, 1)))) ∧ w' = w := by
  have hle := decL_le ((natsOf s).drop pos)
  by_cases h1 : (decL ((natsOf s).drop pos)).1 = 65533
  · have hp := hasP s pos h h1
    have HC : Hid _ := Try.strings_HasPrefix (s.extract pos s.size) ⟨#[239, 191, 189]⟩ w
    have e : decide (decL ((natsOf s).drop pos) = (65533, 1)) = !decide (decL ((natsOf s).drop pos) ≠ (65533, 1)) := by simp
    rw [h1, e]
    clear e
    obtain ⟨b, hb⟩ : ∃ b, decide (decL ((natsOf s).drop pos) ≠ (65533, 1)) = b := ⟨_, rfl⟩
    rw [hb] at hp ⊢
    clear hb
    have HP : Hid _ := hp
    clear hp
    go_enter Try.func28, Try.ntmps28
    go_wp2_with fail
    refine Calls.mono HC.out ?_
    rintro e w1 ⟨rfl, rfl⟩
    clear HC
    rw [HP.out]
    go_wp2
    go_ret
    exact ⟨rfl, rfl⟩
  · have e : decide (decL ((natsOf s).drop pos) = (65533, 1)) = false := by
      rw [decide_eq_false_iff_not]
      intro h2
      rw [h2] at h1
      exact h1 rfl
    rw [e]
    obtain ⟨c, hc⟩ : ∃ c, (decL ((natsOf s).drop pos)).1 = c := ⟨_, rfl⟩
    rw [hc] at h1 hle ⊢
    have h2 : ¬ (c : Int) = 65533 := by omega
    clear e hc
    go_enter Try.func28, Try.ntmps28
    go_wp2
    go_ret
    exact ⟨rfl, rfl⟩
end Go.Proofs.Ytckopbcpjecjhaa
