import Derived.Test.YtnblbakjfpfipaaGreatDoorPprM
/- The document's Letters and Col. -/
namespace Go.Proofs.YtnblbakjfpfipaaGreatDoor
open Go.RowKit

set_option maxRecDepth 100000 in
theorem let_one : (List.range 27).all (fun c => c == 0 || (lettersL c == [UInt8.ofNat (64 + c)])) = true := by kernel_rfl
set_option maxRecDepth 100000 in
theorem let_two : (List.range 65).all (fun c => decide (c ≤ 26) || (lettersL c == [UInt8.ofNat (65 + (c - 27) / 26), UInt8.ofNat (65 + (c - 27) % 26)])) = true := by kernel_rfl
theorem conv1 (W : World) (x : Int) : (convert 46 9 (.slice (some ⟨W.heap.size, 0, none⟩) 1 1)).run Tryz.prog (W.alloc (.cells #[.int .u8 x] 5)) = .ok (.string (bs [UInt8.ofNat x.toNat])) (W.alloc (.cells #[.int .u8 x] 5)) := by
  have := run_convert_bytes_arg (P := Tryz.prog) (W.alloc (.cells #[.int .u8 x] 5)) 46 5 Tryz.underlying46 Tryz.underlying5 W.heap.size 0 1 1 [x] rfl (fun i hi => by
    obtain rfl : i = 0 := by omega
    exact (Row.new W 5 #[.int .u8 x]).cell rfl) 9 Tryz.underlying9
  exact this
theorem conv2 (W : World) (x y : Int) : (convert 46 9 (.slice (some ⟨W.heap.size, 0, none⟩) 2 2)).run Tryz.prog (W.alloc (.cells #[.int .u8 x, .int .u8 y] 5)) = .ok (.string (bs [UInt8.ofNat x.toNat, UInt8.ofNat y.toNat])) (W.alloc (.cells #[.int .u8 x, .int .u8 y] 5)) := by
  have := run_convert_bytes_arg (P := Tryz.prog) (W.alloc (.cells #[.int .u8 x, .int .u8 y] 5)) 46 5 Tryz.underlying46 Tryz.underlying5 W.heap.size 0 2 2 [x, y] rfl (fun i hi => by
    have : i = 0 ∨ i = 1 := by omega
    rcases this with rfl | rfl
    · exact (Row.new W 5 #[.int .u8 x, .int .u8 y]).cell rfl
    · exact (Row.new W 5 #[.int .u8 x, .int .u8 y]).cell rfl) 9 Tryz.underlying9
  exact this
set_option maxRecDepth 100000 in
set_option maxHeartbeats 1000000 in
theorem refLetters_any (n : Int) (w : World) : Calls Tryz.prog 13 #[.int .i64 n] w fun e w' => e = .returned (.string (bs (lettersS n))) ∧ Below w.heap.size w w' := by
  unfold lettersS
  by_cases h1 : n < 1
  · rw [if_neg (by simp [colB]; omega)]
    go_enter Tryz.func13, Tryz.ntmps13
    go_wp2
    go_ret
    exact ⟨rfl, Below.refl _ _⟩
  by_cases h2 : n > 64
  · rw [if_neg (by simp [colB]; omega)]
    go_enter Tryz.func13, Tryz.ntmps13
    go_wp2
    go_ret
    exact ⟨rfl, Below.refl _ _⟩
  rw [if_pos (by simp [colB]; omega)]
  obtain ⟨c, rfl⟩ : ∃ c : Nat, n = c := ⟨n.toNat, by omega⟩
  simp only [Int.toNat_natCast]
  have hb : Below w.heap.size w w := Below.refl _ _
  by_cases h3 : c ≤ 26
  · have h3' : (c : Int) ≤ 26 := by omega
    have e := List.all_eq_true.1 let_one c (List.mem_range.2 (by omega))
    have e : lettersL c = [UInt8.ofNat (64 + c)] := by simpa [show c ≠ 0 by omega] using e
    have hc := conv1 w (65 + (c : Int) - 1)
    rw [show (65 + (c : Int) - 1).toNat = 64 + c by omega, ← e] at hc
    clear e
    go_enter Tryz.func13, Tryz.ntmps13
    go_wp2
    go_ret
    exact ⟨rfl, hb.alloc (Nat.le_refl _) _⟩
  · have h3' : ¬ ((c : Int) ≤ 26) := by omega
    have e := List.all_eq_true.1 let_two c (List.mem_range.2 (by omega))
    have e : lettersL c = [UInt8.ofNat (65 + (c - 27) / 26), UInt8.ofNat (65 + (c - 27) % 26)] := by simpa [show ¬ c ≤ 26 from h3] using e
    have hc := conv2 w (65 + ((c : Int) - 27) / 26) (65 + ((c : Int) - 27) % 26)
    rw [show (65 + ((c : Int) - 27) / 26).toNat = 65 + (c - 27) / 26 by omega, show (65 + ((c : Int) - 27) % 26).toNat = 65 + (c - 27) % 26 by omega, ← e] at hc
    clear e
    go_enter Tryz.func13, Tryz.ntmps13
    go_wp2
    go_ret
    exact ⟨rfl, hb.alloc (Nat.le_refl _) _⟩
set_option maxRecDepth 100000 in
set_option maxHeartbeats 1000000 in
theorem refCol_any (l : List UInt8) (w : World) :
    Calls Tryz.prog 7 #[.string (bs l)] w fun e w' => e = .returned (.tuple #[.int .i64 ((colOf l).getD 0 : Nat), .bool (colOf l).isSome]) ∧ Below w.heap.size w w' := by
  obtain ⟨r, hr⟩ : ∃ r, colOf l = r := ⟨_, rfl⟩
  rw [hr]
  have H : Hid (colOf l = r) := hr
  clear hr
  go_enter Tryz.func7, Tryz.ntmps7
  go_wp2
  go_loopw [4] (fun v4 wr => ∃ c : Nat, 1 ≤ c ∧ c ≤ 65 ∧ v4 = .int .i64 (c : Int) ∧ Hid (∀ i, 1 ≤ i → i < c → lettersL i ≠ l) ∧ Hid (Below w.heap.size w wr)) (fun v4 _ => 65 - (intOf v4).toNat)
  case atStart => exact ⟨1, by omega, by omega, rfl, (fun i h1 h2 => by omega), Below.refl _ _⟩
  case round =>
    obtain ⟨c, hc1, hc2, rfl, HN, HB⟩ := hrel
    by_cases hlt : c ≤ 64
    · have t1 : (c : Int) ≤ 64 := by omega
      have HL : Hid (Calls Tryz.prog 13 #[.int .i64 (c : Int)] wr fun e w' => e = .returned (.string (bs (lettersL c))) ∧ Below wr.heap.size wr w') := by
        have := refLetters_any (c : Int) wr
        unfold lettersS at this
        rw [if_pos (by simp [colB]; omega)] at this
        exact this
      by_cases he : lettersL c = l
      · have e1 : ((bs (lettersL c)).toList == (bs l).toList) = true := by rw [he]; simp
        obtain rfl : r = some c := by
          rw [← H.out, ← he]
          exact (letters_back c hc1 hlt).1
        clear he HN H
        go_wp2_with fail
        refine Calls.mono HL.out ?_
        rintro _ w1 ⟨rfl, b1⟩
        have HB1 : Hid (Below w.heap.size w w1) := HB.out.trans (b1.mono HB.out.size)
        clear HL b1
        go_wp2
        go_ret2
        exact ⟨rfl, HB1.out⟩
      · have e1 : ((bs (lettersL c)).toList == (bs l).toList) = false := by rw [bs_toList, bs_toList]; simpa using he
        have HN2 : Hid (∀ i, 1 ≤ i → i < c + 1 → lettersL i ≠ l) := fun i h1 h2 => by
          by_cases hi : i = c
          · rw [hi]; exact he
          · exact HN.out i h1 (by omega)
        clear he HN
        go_wp2_with fail
        refine Calls.mono HL.out ?_
        rintro _ w1 ⟨rfl, b1⟩
        have HB1 : Hid (Below w.heap.size w w1) := HB.out.trans (b1.mono HB.out.size)
        clear HL b1
        go_wp2
        go_roundw
        case rel => exact ⟨c + 1, by omega, by omega, by go_num, HN2, HB1⟩
        case measure => simp [intOf]; omega
    · have t1 : ¬ ((c : Int) ≤ 64) := by omega
      obtain rfl : r = none := by
        cases hq : r with
        | none => rfl
        | some m =>
          have hm : colOf l = some m := H.out.trans hq
          have hb := colOf_le hm
          exact absurd (letters_whole hm) (HN.out m hb.1 (by omega))
      clear HN H
      go_wp2
      go_ret2
      exact ⟨rfl, HB.out⟩
end Go.Proofs.YtnblbakjfpfipaaGreatDoor
