import Derived.Test.YtnhflnpjepiceaaGreatDoorRpwM
import Derived.Test.YtnhflnpjepiceaaGreatDoorRpx
import Derived.Test.YtnhflnpjepiceaaGreatDoorVnmM
import Derived.Test.YtnhflnpjepiceaaGreatDoorVrk67M
import Derived.Test.YtnhflnpjepiceaaGreatDoorRpwM
/- val: the document's Text, Bool. -/
namespace Go.Proofs.YtnhflnpjepiceaaGreatDoor
open Go.RowKit

end Go.Proofs.YtnhflnpjepiceaaGreatDoor
/- val: the document's Names, Show, ErrCode. -/
namespace Go.Proofs.YtnhflnpjepiceaaGreatDoor
open Go.RowKit

def namesA : Array Value := #[.string ⟨#[]⟩, .string ⟨#[35, 68, 73, 86, 47, 48, 33]⟩, .string ⟨#[35, 86, 65, 76, 85, 69, 33]⟩, .string ⟨#[35, 82, 69, 70, 33]⟩, .string ⟨#[35, 78, 65, 77, 69, 63]⟩, .string ⟨#[35, 78, 85, 77, 33]⟩, .string ⟨#[35, 78, 47, 65]⟩, .string ⟨#[35, 67, 89, 67, 76, 69, 33]⟩]
set_option maxRecDepth 100000 in
set_option maxHeartbeats 2000000 in
theorem names_any (w : World) : Calls Tryz.prog 22 #[] w fun r w' => r = .returned (.slice (some ⟨w.heap.size, 0, none⟩) 8 8) ∧ w' = w.alloc (.cells namesA 9) := by
  unfold namesA
  go_enter Tryz.func22, Tryz.ntmps22
  go_wp2
  go_ret
  exact ⟨rfl, rfl⟩
theorem names_row (w : World) : Row (w.alloc (.cells namesA 9)) w.heap.size 9 #[.string ⟨#[]⟩, .string ⟨#[35, 68, 73, 86, 47, 48, 33]⟩, .string ⟨#[35, 86, 65, 76, 85, 69, 33]⟩, .string ⟨#[35, 82, 69, 70, 33]⟩, .string ⟨#[35, 78, 65, 77, 69, 63]⟩, .string ⟨#[35, 78, 85, 77, 33]⟩, .string ⟨#[35, 78, 47, 65]⟩, .string ⟨#[35, 67, 89, 67, 76, 69, 33]⟩] := Row.new w 9 _
end Go.Proofs.YtnhflnpjepiceaaGreatDoor
/- val: the document's ErrCode and Typed. -/
namespace Go.Proofs.YtnhflnpjepiceaaGreatDoor
open Go.RowKit

set_option maxRecDepth 100000 in
set_option maxHeartbeats 4000000 in
theorem rerrCode_any (s : ByteArray) (w : World) : Calls Tryz.prog 21 #[.string s] w fun r w' => r = .returned (.tuple #[.int .i64 (codeN s), .bool (decide (codeN s ≠ 0))]) ∧ Below w.heap.size w w' := by
  have HPast : Hid (∀ j : Nat, 1 ≤ j → (j : Int) < 1 → s ≠ nameS j) := fun j h1 h2 => absurd h2 (by omega)
  go_enter Tryz.func21, Tryz.ntmps21
  go_wp2_with fail
  refine Calls.mono (names_any _) ?_
  rintro _ w3 ⟨rfl, hw3⟩
  have hN := names_row w
  rw [← hw3] at hN
  have hB : Below w.heap.size w w3 := by rw [hw3]; exact (Below.refl _ w).alloc (Nat.le_refl _) _
  clear hw3
  generalize w.heap.size = K at hN ⊢
  have n0 : w3.cell? ⟨K, 0, none⟩ = some (.string ⟨#[]⟩) := hN.cell rfl
  have n1 : w3.cell? ⟨K, 1, none⟩ = some (.string ⟨#[35, 68, 73, 86, 47, 48, 33]⟩) := hN.cell rfl
  have n2 : w3.cell? ⟨K, 2, none⟩ = some (.string ⟨#[35, 86, 65, 76, 85, 69, 33]⟩) := hN.cell rfl
  have n3 : w3.cell? ⟨K, 3, none⟩ = some (.string ⟨#[35, 82, 69, 70, 33]⟩) := hN.cell rfl
  have n4 : w3.cell? ⟨K, 4, none⟩ = some (.string ⟨#[35, 78, 65, 77, 69, 63]⟩) := hN.cell rfl
  have n5 : w3.cell? ⟨K, 5, none⟩ = some (.string ⟨#[35, 78, 85, 77, 33]⟩) := hN.cell rfl
  have n6 : w3.cell? ⟨K, 6, none⟩ = some (.string ⟨#[35, 78, 47, 65]⟩) := hN.cell rfl
  have n7 : w3.cell? ⟨K, 7, none⟩ = some (.string ⟨#[35, 67, 89, 67, 76, 69, 33]⟩) := hN.cell rfl
  have hf := hN.frozen
  clear hN
  go_wp2_with fail
  go_loopw [5] (fun v5 wr => ∃ k : Int, v5 = .int .i64 k ∧ wr = w3 ∧ 1 ≤ k ∧ k ≤ 8 ∧ Hid (∀ j : Nat, 1 ≤ j → (j : Int) < k → s ≠ nameS j)) (fun v5 _ => (8 - intOf v5).toNat)
  case atStart => exact ⟨1, rfl, rfl, by omega, by omega, HPast⟩
  case round =>
    clear HPast
    obtain ⟨k, rfl, rfl, hk1, hk8, HP⟩ := hrel
    obtain h1 | h1 | h1 | h1 | h1 | h1 | h1 | h1 : k = 1 ∨ k = 2 ∨ k = 3 ∨ k = 4 ∨ k = 5 ∨ k = 6 ∨ k = 7 ∨ k = 8 := by omega
    · subst h1
      clear hk1 hk8
      by_cases hs : s = nm1
      · have hE : s.toList = ([35, 68, 73, 86, 47, 48, 33] : List UInt8) := by rw [hs, nl1]
        have HC : Hid (codeN s = 1) := code_is 1 s (by omega) (by omega) hs HP.out
        clear HP hs
        go_wp2
        go_ret2
        exact ⟨by rw [HC.out]; rfl, hB⟩
      · have hE : (([35, 68, 73, 86, 47, 48, 33] : List UInt8) == s.toList) = false := by rw [← nl1]; exact toList_ne' (fun e => hs e.symm)
        have HP2 : Hid (∀ j : Nat, 1 ≤ j → (j : Int) < 2 → s ≠ nameS j) := fun j h1 h2 => by
          by_cases hj : (j : Int) = 1
          · rw [hj]; exact hs
          · exact HP.out j h1 (by omega)
        clear HP hs
        go_wp2
        exact ⟨⟨2, rfl, trivial, by omega, by omega, HP2⟩, by simp [intOf]⟩
    · subst h1
      clear hk1 hk8
      by_cases hs : s = nm2
      · have hE : s.toList = ([35, 86, 65, 76, 85, 69, 33] : List UInt8) := by rw [hs, nl2]
        have HC : Hid (codeN s = 2) := code_is 2 s (by omega) (by omega) hs HP.out
        clear HP hs
        go_wp2
        go_ret2
        exact ⟨by rw [HC.out]; rfl, hB⟩
      · have hE : (([35, 86, 65, 76, 85, 69, 33] : List UInt8) == s.toList) = false := by rw [← nl2]; exact toList_ne' (fun e => hs e.symm)
        have HP2 : Hid (∀ j : Nat, 1 ≤ j → (j : Int) < 3 → s ≠ nameS j) := fun j h1 h2 => by
          by_cases hj : (j : Int) = 2
          · rw [hj]; exact hs
          · exact HP.out j h1 (by omega)
        clear HP hs
        go_wp2
        exact ⟨⟨3, rfl, trivial, by omega, by omega, HP2⟩, by simp [intOf]⟩
    · subst h1
      clear hk1 hk8
      by_cases hs : s = nm3
      · have hE : s.toList = ([35, 82, 69, 70, 33] : List UInt8) := by rw [hs, nl3]
        have HC : Hid (codeN s = 3) := code_is 3 s (by omega) (by omega) hs HP.out
        clear HP hs
        go_wp2
        go_ret2
        exact ⟨by rw [HC.out]; rfl, hB⟩
      · have hE : (([35, 82, 69, 70, 33] : List UInt8) == s.toList) = false := by rw [← nl3]; exact toList_ne' (fun e => hs e.symm)
        have HP2 : Hid (∀ j : Nat, 1 ≤ j → (j : Int) < 4 → s ≠ nameS j) := fun j h1 h2 => by
          by_cases hj : (j : Int) = 3
          · rw [hj]; exact hs
          · exact HP.out j h1 (by omega)
        clear HP hs
        go_wp2
        exact ⟨⟨4, rfl, trivial, by omega, by omega, HP2⟩, by simp [intOf]⟩
    · subst h1
      clear hk1 hk8
      by_cases hs : s = nm4
      · have hE : s.toList = ([35, 78, 65, 77, 69, 63] : List UInt8) := by rw [hs, nl4]
        have HC : Hid (codeN s = 4) := code_is 4 s (by omega) (by omega) hs HP.out
        clear HP hs
        go_wp2
        go_ret2
        exact ⟨by rw [HC.out]; rfl, hB⟩
      · have hE : (([35, 78, 65, 77, 69, 63] : List UInt8) == s.toList) = false := by rw [← nl4]; exact toList_ne' (fun e => hs e.symm)
        have HP2 : Hid (∀ j : Nat, 1 ≤ j → (j : Int) < 5 → s ≠ nameS j) := fun j h1 h2 => by
          by_cases hj : (j : Int) = 4
          · rw [hj]; exact hs
          · exact HP.out j h1 (by omega)
        clear HP hs
        go_wp2
        exact ⟨⟨5, rfl, trivial, by omega, by omega, HP2⟩, by simp [intOf]⟩
    · subst h1
      clear hk1 hk8
      by_cases hs : s = nm5
      · have hE : s.toList = ([35, 78, 85, 77, 33] : List UInt8) := by rw [hs, nl5]
        have HC : Hid (codeN s = 5) := code_is 5 s (by omega) (by omega) hs HP.out
        clear HP hs
        go_wp2
        go_ret2
        exact ⟨by rw [HC.out]; rfl, hB⟩
      · have hE : (([35, 78, 85, 77, 33] : List UInt8) == s.toList) = false := by rw [← nl5]; exact toList_ne' (fun e => hs e.symm)
        have HP2 : Hid (∀ j : Nat, 1 ≤ j → (j : Int) < 6 → s ≠ nameS j) := fun j h1 h2 => by
          by_cases hj : (j : Int) = 5
          · rw [hj]; exact hs
          · exact HP.out j h1 (by omega)
        clear HP hs
        go_wp2
        exact ⟨⟨6, rfl, trivial, by omega, by omega, HP2⟩, by simp [intOf]⟩
    · subst h1
      clear hk1 hk8
      by_cases hs : s = nm6
      · have hE : s.toList = ([35, 78, 47, 65] : List UInt8) := by rw [hs, nl6]
        have HC : Hid (codeN s = 6) := code_is 6 s (by omega) (by omega) hs HP.out
        clear HP hs
        go_wp2
        go_ret2
        exact ⟨by rw [HC.out]; rfl, hB⟩
      · have hE : (([35, 78, 47, 65] : List UInt8) == s.toList) = false := by rw [← nl6]; exact toList_ne' (fun e => hs e.symm)
        have HP2 : Hid (∀ j : Nat, 1 ≤ j → (j : Int) < 7 → s ≠ nameS j) := fun j h1 h2 => by
          by_cases hj : (j : Int) = 6
          · rw [hj]; exact hs
          · exact HP.out j h1 (by omega)
        clear HP hs
        go_wp2
        exact ⟨⟨7, rfl, trivial, by omega, by omega, HP2⟩, by simp [intOf]⟩
    · subst h1
      clear hk1 hk8
      by_cases hs : s = nm7
      · have hE : s.toList = ([35, 67, 89, 67, 76, 69, 33] : List UInt8) := by rw [hs, nl7]
        have HC : Hid (codeN s = 7) := code_is 7 s (by omega) (by omega) hs HP.out
        clear HP hs
        go_wp2
        go_ret2
        exact ⟨by rw [HC.out]; rfl, hB⟩
      · have hE : (([35, 67, 89, 67, 76, 69, 33] : List UInt8) == s.toList) = false := by rw [← nl7]; exact toList_ne' (fun e => hs e.symm)
        have HP2 : Hid (∀ j : Nat, 1 ≤ j → (j : Int) < 8 → s ≠ nameS j) := fun j h1 h2 => by
          by_cases hj : (j : Int) = 7
          · rw [hj]; exact hs
          · exact HP.out j h1 (by omega)
        clear HP hs
        go_wp2
        exact ⟨⟨8, rfl, trivial, by omega, by omega, HP2⟩, by simp [intOf]⟩
    · subst h1
      have HC : Hid (codeN s = 0) := code_no s HP.out
      clear HP hk1 hk8
      go_wp2
      go_ret2
      exact ⟨by rw [HC.out]; rfl, hB⟩
end Go.Proofs.YtnhflnpjepiceaaGreatDoor
/- val: the document's Typed. -/
namespace Go.Proofs.YtnhflnpjepiceaaGreatDoor
open Go.RowKit

/-- What a text is that is typed, in the document's order. -/
def typedD (l : List UInt8) : Vl := if l = [] then vE else if bs l = wordS true then vB true else if bs l = wordS false then vB false else if codeN (bs l) ≠ 0 then errW (codeN (bs l)) else if (parseQ l).2.2 = 0 then ofW (parseQ l).1 (parseQ l).2.1 0 else strW (bs (Lib.trimPrefix l [39]))
theorem bs_inj {a b : List UInt8} (h : bs a = bs b) : a = b := by rw [← bs_list a, ← bs_list b, h]
theorem pq_true {l : List UInt8} (h : bs l = wordS true) : (parseQ l).2.2 = 40 := by
  obtain rfl : l = [84, 82, 85, 69] := bs_inj h
  kernel_rfl
theorem pq_false {l : List UInt8} (h : bs l = wordS false) : (parseQ l).2.2 = 40 := by
  obtain rfl : l = [70, 65, 76, 83, 69] := bs_inj h
  kernel_rfl
theorem pq_n1 {l : List UInt8} (h : bs l = nm1) : (parseQ l).2.2 = 40 := by
  obtain rfl : l = [35, 68, 73, 86, 47, 48, 33] := bs_inj h
  kernel_rfl
theorem pq_n2 {l : List UInt8} (h : bs l = nm2) : (parseQ l).2.2 = 40 := by
  obtain rfl : l = [35, 86, 65, 76, 85, 69, 33] := bs_inj h
  kernel_rfl
theorem pq_n3 {l : List UInt8} (h : bs l = nm3) : (parseQ l).2.2 = 40 := by
  obtain rfl : l = [35, 82, 69, 70, 33] := bs_inj h
  kernel_rfl
theorem pq_n4 {l : List UInt8} (h : bs l = nm4) : (parseQ l).2.2 = 40 := by
  obtain rfl : l = [35, 78, 65, 77, 69, 63] := bs_inj h
  kernel_rfl
theorem pq_n5 {l : List UInt8} (h : bs l = nm5) : (parseQ l).2.2 = 40 := by
  obtain rfl : l = [35, 78, 85, 77, 33] := bs_inj h
  kernel_rfl
theorem pq_n6 {l : List UInt8} (h : bs l = nm6) : (parseQ l).2.2 = 40 := by
  obtain rfl : l = [35, 78, 47, 65] := bs_inj h
  kernel_rfl
theorem pq_n7 {l : List UInt8} (h : bs l = nm7) : (parseQ l).2.2 = 40 := by
  obtain rfl : l = [35, 67, 89, 67, 76, 69, 33] := bs_inj h
  kernel_rfl
theorem pq_code {l : List UInt8} (h : codeN (bs l) ≠ 0) : (parseQ l).2.2 = 40 := by
  by_cases h1 : bs l = nm1
  · exact pq_n1 h1
  by_cases h2 : bs l = nm2
  · exact pq_n2 h2
  by_cases h3 : bs l = nm3
  · exact pq_n3 h3
  by_cases h4 : bs l = nm4
  · exact pq_n4 h4
  by_cases h5 : bs l = nm5
  · exact pq_n5 h5
  by_cases h6 : bs l = nm6
  · exact pq_n6 h6
  by_cases h7 : bs l = nm7
  · exact pq_n7 h7
  exfalso
  apply h
  unfold codeN
  rw [if_neg h1, if_neg h2, if_neg h3, if_neg h4, if_neg h5, if_neg h6, if_neg h7]
theorem typed_same (l : List UInt8) : typedV l = typedD l := by
  unfold typedV typedD
  by_cases h0 : l = []
  · rw [if_pos h0, if_pos h0]
  · rw [if_neg h0, if_neg h0]
    by_cases hp : (parseQ l).2.2 = 0
    · have n40 : (parseQ l).2.2 ≠ 40 := by omega
      rw [if_pos hp, if_neg (fun h => n40 (pq_true h)), if_neg (fun h => n40 (pq_false h)), if_neg (fun h => n40 (pq_code h)), if_pos hp]
    · rw [if_neg hp, if_neg hp]
theorem pre_quote (a : UInt8) (r : List UInt8) : Lib.trimPrefix (a :: r) [39] = if a = 39 then r else a :: r := by
  by_cases h : a = 39
  · subst h
    simp [Lib.trimPrefix, Lib.hasPrefix, List.isPrefixOf]
  · have h2 : ((39 : UInt8) == a) = false := by simpa using fun e => h e.symm
    simp [Lib.trimPrefix, Lib.hasPrefix, List.isPrefixOf, h, h2]
set_option maxRecDepth 100000 in
set_option maxHeartbeats 4000000 in
theorem rvtyped_any (l : List UInt8) (hl : l.length ≤ 140737488351232) (w : World) : Calls Tryz.prog 31 #[.string (bs l)] w fun r w' => r = .returned (typedV l).v ∧ Below w.heap.size w w' := by
  rw [typed_same]
  have HP : ∀ V, Hid (Calls Tryz.prog 51 #[.string (bs l)] V fun e w' => e = .returned (.tuple #[.agg #[.int .i64 (parseQ l).1, .int .i64 (parseQ l).2.1], .int .i64 (parseQ l).2.2]) ∧ Below V.heap.size V w') := fun V => by
    have h := rparse_any l V
    rw [parseQ_v] at h
    exact h
  have hbd := parseQ_bd l
  have hsl : (bs l).toList = l := bs_toList l
  have h0 := R1.start w #[.int .i64 0, .int .i64 0, .int .i64 0, .string .empty, .bool false, .int .i64 0]
  unfold typedD
  cases l with
  | nil =>
    rw [if_pos rfl]
    obtain ⟨y0, y1, y2, y3, y4, y5⟩ := h0.1.six
    clear HP hbd
    go_enter Tryz.func31, Tryz.ntmps31
    go_wp2
    exact bodyPost_ret (ret_one rfl (g := w.heap.size) rfl (h0.res rfl)) rfl ⟨rfl, h0.2⟩
  | cons a r' =>
  rw [if_neg (by simp)]
  have HE0 : ((bs (a :: r')).toList == []) = false := by rw [hsl]; rfl
  have HTR : bs (a :: r') ≠ wordS true → ((bs (a :: r')).toList == [84, 82, 85, 69]) = false := fun h => toList_ne2 h
  have HFA : bs (a :: r') ≠ wordS false → ((bs (a :: r')).toList == [70, 65, 76, 83, 69]) = false := fun h => toList_ne2 h
  have HTQ : bs (a :: r') = wordS true → (bs (a :: r')).toList = [84, 82, 85, 69] := fun h => by rw [h, ByteArray.toList_eq]; rfl
  have HFQ : bs (a :: r') = wordS false → (bs (a :: r')).toList = [70, 65, 76, 83, 69] := fun h => by rw [h, ByteArray.toList_eq]; rfl
  have HEC : ∀ V, Hid (Calls Tryz.prog 21 #[.string (bs (a :: r'))] V fun r w' => r = .returned (.tuple #[.int .i64 (codeN (bs (a :: r'))), .bool (decide (codeN (bs (a :: r')) ≠ 0))]) ∧ Below V.heap.size V w') := fun V => rerrCode_any (bs (a :: r')) V
  have h0' : 0 < (bs (a :: r')).size := by rw [bs_size]; simp
  have hx : ((bs (a :: r'))[0]'h0') = a := rfl
  have hdr : (bs (a :: r')).extract 1 (bs (a :: r')).size = bs r' := bs_drop (a :: r') 1
  have hpq : bs (Lib.trimPrefix (a :: r') [39]) = if a = 39 then bs r' else bs (a :: r') := by rw [pre_quote]; split <;> rfl
  rw [hpq]
  obtain ⟨c, hc⟩ : ∃ c, (parseQ (a :: r')).1 = c := ⟨_, rfl⟩
  obtain ⟨e, he⟩ : ∃ e, (parseQ (a :: r')).2.1 = e := ⟨_, rfl⟩
  obtain ⟨er, her⟩ : ∃ er, (parseQ (a :: r')).2.2 = er := ⟨_, rfl⟩
  rw [hc] at hbd
  simp only [hc, he, her] at HP ⊢
  clear hc he her hsl hl hpq
  generalize bs (a :: r') = S at *
  have HO : ∀ V, Hid (Calls Tryz.prog 24 #[.agg #[.int .i64 c, .int .i64 e], .int .i64 0] V fun r w' => r = .returned (ofW c e 0).v ∧ Below V.heap.size V w') := fun V => rof_val c e 0 hbd V
  clear hbd
  by_cases hA : S = wordS true
  · rw [if_pos hA]
    have hAE := HTQ hA
    clear hA HTR HFA HTQ HFQ HEC HP HO hx hdr h0'
    go_enter Tryz.func31, Tryz.ntmps31
    go_wp2_with fail
    refine Calls.mono (rtruth_any true _) ?_
    rintro _ w3 ⟨rfl, b3⟩
    rw [vB_v]
    have h3 := h0.next b3
    obtain ⟨y0, y1, y2, y3, y4, y5⟩ := h3.1.six
    have zf := h3.1.frozen
    have wl := h3.1.lt
    clear b3 h0
    go_wp2
    exact bodyPost_ret (ret_one rfl (g := w.heap.size) rfl ((h3.set _ _ _ _ _ _).res rfl)) rfl ⟨by first | rfl | rfl, (h3.set _ _ _ _ _ _).2⟩
  rw [if_neg hA]
  have hAN := HTR hA
  clear hA HTR HTQ
  by_cases hB : S = wordS false
  · rw [if_pos hB]
    have hBE := HFQ hB
    clear hB HFA HFQ HEC HP HO hx hdr h0'
    go_enter Tryz.func31, Tryz.ntmps31
    go_wp2_with fail
    refine Calls.mono (rtruth_any false _) ?_
    rintro _ w3 ⟨rfl, b3⟩
    rw [vB_v]
    have h3 := h0.next b3
    obtain ⟨y0, y1, y2, y3, y4, y5⟩ := h3.1.six
    have zf := h3.1.frozen
    have wl := h3.1.lt
    clear b3 h0
    go_wp2
    exact bodyPost_ret (ret_one rfl (g := w.heap.size) rfl ((h3.set _ _ _ _ _ _).res rfl)) rfl ⟨by first | rfl | rfl, (h3.set _ _ _ _ _ _).2⟩
  rw [if_neg hB]
  have hBN := HFA hB
  clear hB HFA HFQ
  generalize codeN S = n at *
  by_cases hz : n = 0
  · rw [if_neg (by simpa using hz)]
    subst hz
    by_cases h00 : er = 0
    · subst h00
      rw [if_pos rfl]
      clear hx hdr h0'
      go_enter Tryz.func31, Tryz.ntmps31
      go_wp2_with fail
      refine Calls.mono (HEC _).out ?_
      rintro _ w1 ⟨rfl, b1⟩
      have h1 := h0.next b1
      clear b1 h0 HEC
      go_wp2_with fail
      refine Calls.mono (HP _).out ?_
      rintro _ w2 ⟨rfl, b2⟩
      have h2 := (h1.next b2).alloc (.cells #[.int .i64 c, .int .i64 e] 23)
      clear b2 h1 HP
      go_wp2_with fail
      refine Calls.mono (HO _).out ?_
      rintro _ w3 ⟨rfl, b3⟩
      obtain ⟨k', c', e', x', hv⟩ := ofW_form c e 0
      rw [hv]
      have h3 := h2.next b3
      obtain ⟨y0, y1, y2, y3, y4, y5⟩ := h3.1.six
      have zf := h3.1.frozen
      have wl := h3.1.lt
      clear b3 h2 HO
      go_wp2
      exact bodyPost_ret (ret_one rfl (g := w.heap.size) rfl ((h3.set _ _ _ _ _ _).res rfl)) rfl ⟨by first | rfl | exact congrArg _ hv.symm, (h3.set _ _ _ _ _ _).2⟩
    · rw [if_neg h00]
      have h01 : (er == 0) = false := by simpa using h00
      clear h00 HO
      by_cases ha : a = 39
      · rw [if_pos ha]
        have hx2 : ((S[0]'h0').toNat : Int) = 39 := by rw [hx, ha]; rfl
        clear hx ha
        go_enter Tryz.func31, Tryz.ntmps31
        go_wp2_with fail
        refine Calls.mono (HEC _).out ?_
        rintro _ w1 ⟨rfl, b1⟩
        have h1 := h0.next b1
        clear b1 h0 HEC
        go_wp2_with fail
        refine Calls.mono (HP _).out ?_
        rintro _ w2 ⟨rfl, b2⟩
        have h2 := (h1.next b2).alloc (.cells #[.int .i64 c, .int .i64 e] 23)
        clear b2 h1 HP
        go_wp2_with fail
        refine Calls.mono (rstr_any (bs r') _) ?_
        rintro _ w4 ⟨rfl, b4⟩
        obtain ⟨k', c', e', s', b', x', hv⟩ := (strW (bs r')).v_form
        rw [hv]
        have h3 := h2.next b4
        obtain ⟨y0, y1, y2, y3, y4, y5⟩ := h3.1.six
        have zf := h3.1.frozen
        have wl := h3.1.lt
        clear b4 h2
        go_wp2
        exact bodyPost_ret (ret_one rfl (g := w.heap.size) rfl ((h3.set _ _ _ _ _ _).res rfl)) rfl ⟨by first | rfl | exact congrArg _ hv.symm, (h3.set _ _ _ _ _ _).2⟩
      · rw [if_neg ha]
        have hx2 : (((S[0]'h0').toNat : Int) == 39) = false := by
          rw [hx]
          have : a.toNat ≠ 39 := fun h => ha (UInt8.toNat_inj.1 h)
          simp
          omega
        clear hx ha hdr
        go_enter Tryz.func31, Tryz.ntmps31
        go_wp2_with fail
        refine Calls.mono (HEC _).out ?_
        rintro _ w1 ⟨rfl, b1⟩
        have h1 := h0.next b1
        clear b1 h0 HEC
        go_wp2_with fail
        refine Calls.mono (HP _).out ?_
        rintro _ w2 ⟨rfl, b2⟩
        have h2 := (h1.next b2).alloc (.cells #[.int .i64 c, .int .i64 e] 23)
        clear b2 h1 HP
        go_wp2_with fail
        refine Calls.mono (rstr_any S _) ?_
        rintro _ w4 ⟨rfl, b4⟩
        obtain ⟨k', c', e', s', b', x', hv⟩ := (strW S).v_form
        rw [hv]
        have h3 := h2.next b4
        obtain ⟨y0, y1, y2, y3, y4, y5⟩ := h3.1.six
        have zf := h3.1.frozen
        have wl := h3.1.lt
        clear b4 h2
        go_wp2
        exact bodyPost_ret (ret_one rfl (g := w.heap.size) rfl ((h3.set _ _ _ _ _ _).res rfl)) rfl ⟨by first | rfl | exact congrArg _ hv.symm, (h3.set _ _ _ _ _ _).2⟩
  · rw [if_pos hz]
    have hd : decide (n ≠ 0) = true := decide_eq_true hz
    simp only [hd] at HEC
    clear hd hz HP HO hx hdr h0'
    go_enter Tryz.func31, Tryz.ntmps31
    go_wp2_with fail
    refine Calls.mono (HEC _).out ?_
    rintro _ w1 ⟨rfl, b1⟩
    have h1 := h0.next b1
    clear b1 h0 HEC
    go_wp2_with fail
    refine Calls.mono (rerr_any n _) ?_
    rintro _ w4 ⟨rfl, b4⟩
    obtain ⟨k', c', e', s', b', x', hv⟩ := (errW n).v_form
    rw [hv]
    have h3 := h1.next b4
    obtain ⟨y0, y1, y2, y3, y4, y5⟩ := h3.1.six
    have zf := h3.1.frozen
    have wl := h3.1.lt
    clear b4 h1
    go_wp2
    exact bodyPost_ret (ret_one rfl (g := w.heap.size) rfl ((h3.set _ _ _ _ _ _).res rfl)) rfl ⟨by first | rfl | exact congrArg _ hv.symm, (h3.set _ _ _ _ _ _).2⟩
end Go.Proofs.YtnhflnpjepiceaaGreatDoor
/- val: ValMakes' law. -/
namespace Go.Proofs.YtnhflnpjepiceaaGreatDoor
open Go.RowKit

/-- The block of a Dec that came in. -/
def D1r (w W : World) (q : Array Value) : Prop := Row W w.heap.size 23 q ∧ Below w.heap.size w W
theorem D1r.next {w W W' : World} {q : Array Value} (h : D1r w W q) (b : Below W.heap.size W W') : D1r w W' q := ⟨h.1.below b h.1.lt, h.2.trans (b.mono h.2.size)⟩
theorem D1r.drew {w W : World} {q : Array Value} (h : D1r w W q) : D1r w W.drew q := h.next (Below.refl _ W).drew
set_option maxRecDepth 100000 in
set_option maxHeartbeats 8000000 in
theorem makes_lo (c e er : Int) (hc : I64 c) (l : List UInt8) (hl : l.length ≤ 140737488351232) (code : Int) (hx : ¬ 1 ≤ code) (hnm : nameS code = ⟨#[]⟩) (w : World) (hE : Env w) : Calls Tryz.prog 4 #[.agg #[.int .i64 c, .int .i64 e], .int .i64 er, .string (bs l), .int .i64 code] w fun r w' => r = .returned (.bool true) ∧ Below w.heap.size w w' := by
  have K1 : ∀ V, Env V → Hid (Calls Tryz.prog 20 #[.string (bs l)] V fun r w' => r = .returned (.tuple #[.int .i64 (codeN (bs l)), .bool (decide (codeN (bs l) ≠ 0))]) ∧ Below V.heap.size V w') := fun V hV => (errCode_any (bs l) V hV.nam).mono (fun r w h => ⟨h.1, by rw [h.2]; exact Below.refl _ _⟩)
  have K2 : ∀ V, Hid (Calls Tryz.prog 21 #[.string (bs l)] V fun r w' => r = .returned (.tuple #[.int .i64 (codeN (bs l)), .bool (decide (codeN (bs l) ≠ 0))]) ∧ Below V.heap.size V w') := fun V => rerrCode_any (bs l) V
  have A1 : ∀ V, Hid (Calls Tryz.prog 23 #[.agg #[.int .i64 c, .int .i64 e], .int .i64 er] V fun r w' => r = .returned ((ofW c e er).v) ∧ Below V.heap.size V w') := fun V => of_val c e er hc V
  have A2 : ∀ V, Hid (Calls Tryz.prog 24 #[.agg #[.int .i64 c, .int .i64 e], .int .i64 er] V fun r w' => r = .returned ((ofW c e er).v) ∧ Below V.heap.size V w') := fun V => rof_val c e er hc V
  have B1 : ∀ V, Hid (Calls Tryz.prog 25 #[.string (bs l)] V fun r w' => r = .returned ((strW (bs l)).v) ∧ Below V.heap.size V w') := fun V => str_any (bs l) V
  have B2 : ∀ V, Hid (Calls Tryz.prog 26 #[.string (bs l)] V fun r w' => r = .returned ((strW (bs l)).v) ∧ Below V.heap.size V w') := fun V => rstr_any (bs l) V
  have C1 : ∀ V, Hid (Calls Tryz.prog 27 #[.int .i64 code] V fun r w' => r = .returned ((errW code).v) ∧ Below V.heap.size V w') := fun V => err_any code V
  have C2 : ∀ V, Hid (Calls Tryz.prog 28 #[.int .i64 code] V fun r w' => r = .returned ((errW code).v) ∧ Below V.heap.size V w') := fun V => rerr_any code V
  have D1 : ∀ V, Env V → Hid (Calls Tryz.prog 29 #[.int .i64 code] V fun r w' => r = .returned (.string ⟨#[]⟩) ∧ Below V.heap.size V w') := fun V hV => (errName_any code V hV.nam).mono (fun r w h => ⟨by rw [h.1, hnm], by rw [h.2]; exact Below.refl _ _⟩)
  have E1 : ∀ V, Env V → Hid (Calls Tryz.prog 30 #[.string (bs l)] V fun r w' => r = .returned ((typedV l).v) ∧ Below V.heap.size V w') := fun V hV => vtyped_any l hl V hV
  have E2 : ∀ V, Hid (Calls Tryz.prog 31 #[.string (bs l)] V fun r w' => r = .returned ((typedV l).v) ∧ Below V.heap.size V w') := fun V => rvtyped_any l hl V
  obtain ⟨B, hB⟩ : ∃ B, decide (0 < code) = B := ⟨_, rfl⟩
  have F1 : ∀ V, Hid (Calls Tryz.prog 32 #[.bool B] V fun r w' => r = .returned ((vB B).v) ∧ Below V.heap.size V w') := fun V => truth_any B V
  have F2 : ∀ V, Hid (Calls Tryz.prog 33 #[.bool B] V fun r w' => r = .returned ((vB B).v) ∧ Below V.heap.size V w') := fun V => rtruth_any B V
  have HL : ∀ V, Env V → Hid (Calls Tryz.prog 19 #[] V fun r w' => r = .returned (.bool true) ∧ Below V.heap.size V w') := fun V hV => valive_any V hV
  rw [vB_v] at F1 F2
  generalize decide (codeN (bs l) ≠ 0) = is at K1 K2
  generalize codeN (bs l) = n at K1 K2
  obtain ⟨ka, ca, ea, sa, ba, xa, hav⟩ := (ofW c e er).v_form
  obtain ⟨kb, cb, eb, sb, bb, xb, hbv⟩ := (strW (bs l)).v_form
  obtain ⟨kc, cc, ec, sc', bc, xc, hcv⟩ := (errW code).v_form
  obtain ⟨kd, cd, ed, sd, bd, xd, hdv⟩ := (typedV l).v_form
  rw [hav] at A1 A2
  rw [hbv] at B1 B2
  rw [hcv] at C1 C2
  rw [hdv] at E1 E2
  have qa := same25 ka ca ea xa sa ba
  have qb := same25 kb cb eb xb sb bb
  have qc := same25 kc cc ec xc sc' bc
  have qd := same25 kd cd ed xd sd bd
  have qf := same25 3 0 0 0 .empty B
  have qi : (is == is) = true := by simp
  clear hav hbv hcv hdv hc hl
  generalize bs l = S at *
  have h0 : D1r w (w.alloc (.cells #[.int .i64 c, .int .i64 e] 23)) #[.int .i64 c, .int .i64 e] := ⟨Row.new w 23 _, (Below.refl _ w).alloc (Nat.le_refl _) _⟩
  go_enter Tryz.func4, Tryz.ntmps4
  go_wp2_with fail
  refine Calls.mono (K1 _ (hE.next h0.2)).out ?_
  rintro _ w1 ⟨rfl, b1⟩
  have h1 := h0.next b1
  clear b1 h0 K1
  go_wp2_with fail
  refine Calls.mono (K2 _).out ?_
  rintro _ w2 ⟨rfl, b2⟩
  have h2 := h1.next b2
  clear b2 h1 K2
  have hW := h2
  go_upto_region 6 with fail
  have g0 := hW.drew
  refine wp_region_M (fun wx : World => D1r w wx #[.int .i64 c, .int .i64 e]) (fun j => decide (j < 57)) 57 rfl (by kernel_rfl) ?_
  refine wpM_held 0 (v := .agg #[.int .i64 c, .int .i64 e]) rfl (by kernel_rfl) (by kernel_rfl) rfl (fun _ _ _ h => h) rfl (by intro wx hx; obtain ⟨z0, z1⟩ := hx.1.duo; go_simp <;> rfl) g0 ?_
  refine wpM_held 1 (v := .int .i64 er) rfl (by kernel_rfl) (by kernel_rfl) rfl (fun _ _ _ h => h) rfl (by intro wx hx; go_simp <;> rfl) g0 ?_
  refine wpM_held 3 (v := .agg #[.int .i64 c, .int .i64 e]) rfl (by kernel_rfl) (by kernel_rfl) rfl (fun _ _ _ h => h) rfl (by intro wx hx; obtain ⟨z0, z1⟩ := hx.1.duo; go_simp <;> rfl) g0 ?_
  refine wpM_held 4 (v := .int .i64 er) rfl (by kernel_rfl) (by kernel_rfl) rfl (fun _ _ _ h => h) rfl (by intro wx hx; go_simp <;> rfl) g0 ?_
  refine wpM_one 2 rfl (by kernel_rfl) rfl ?_
  go_wp2_with fail
  refine Calls.mono (A1 _).out ?_
  rintro _ v1 ⟨rfl, l1⟩
  have g1 := g0.next l1
  clear l1 A1
  go_wp2_with fail
  refine ⟨fun _ => g1, ?_⟩
  refine wpM_one 5 rfl (by kernel_rfl) rfl ?_
  go_wp2_with fail
  refine Calls.mono (A2 _).out ?_
  rintro _ v2 ⟨rfl, l2⟩
  have g2 := g1.next l2
  clear l2 A2
  go_wp2_with fail
  refine ⟨fun _ => g2, ?_⟩
  refine wpM_one 6 rfl (by kernel_rfl) rfl ?_
  go_wp2_with fail
  refine ⟨fun _ => g2, ?_⟩
  refine wpM_one 7 rfl (by kernel_rfl) rfl ?_
  go_wp2_with fail
  refine ⟨fun _ => g2, ?_⟩
  refine wpM_held 8 (v := .string S) rfl (by kernel_rfl) (by kernel_rfl) rfl (fun _ _ _ h => h) rfl (by intro wx hx; go_simp <;> rfl) g2 ?_
  refine wpM_held 10 (v := .string S) rfl (by kernel_rfl) (by kernel_rfl) rfl (fun _ _ _ h => h) rfl (by intro wx hx; go_simp <;> rfl) g2 ?_
  refine wpM_one 9 rfl (by kernel_rfl) rfl ?_
  go_wp2_with fail
  refine Calls.mono (B1 _).out ?_
  rintro _ v3 ⟨rfl, l3⟩
  have g3 := g2.next l3
  clear l3 B1
  go_wp2_with fail
  refine ⟨fun _ => g3, ?_⟩
  refine wpM_one 11 rfl (by kernel_rfl) rfl ?_
  go_wp2_with fail
  refine Calls.mono (B2 _).out ?_
  rintro _ v4 ⟨rfl, l4⟩
  have g4 := g3.next l4
  clear l4 B2
  go_wp2_with fail
  refine ⟨fun _ => g4, ?_⟩
  refine wpM_one 12 rfl (by kernel_rfl) rfl ?_
  go_wp2_with fail
  refine ⟨fun _ => g4, ?_⟩
  refine wpM_one 13 rfl (by kernel_rfl) rfl ?_
  go_wp2_with fail
  refine ⟨fun _ => g4, ?_⟩
  refine wpM_one 14 rfl (by kernel_rfl) rfl ?_
  go_wp2_with fail
  refine ⟨fun _ => g4, ?_⟩
  refine wpM_held 15 (v := .int .i64 code) rfl (by kernel_rfl) (by kernel_rfl) rfl (fun _ _ _ h => h) rfl (by intro wx hx; go_simp <;> rfl) g4 ?_
  refine wpM_held 17 (v := .int .i64 code) rfl (by kernel_rfl) (by kernel_rfl) rfl (fun _ _ _ h => h) rfl (by intro wx hx; go_simp <;> rfl) g4 ?_
  refine wpM_one 16 rfl (by kernel_rfl) rfl ?_
  go_wp2_with fail
  refine Calls.mono (C1 _).out ?_
  rintro _ v5 ⟨rfl, l5⟩
  have g5 := g4.next l5
  clear l5 C1
  go_wp2_with fail
  refine ⟨fun _ => g5, ?_⟩
  refine wpM_one 18 rfl (by kernel_rfl) rfl ?_
  go_wp2_with fail
  refine Calls.mono (C2 _).out ?_
  rintro _ v6 ⟨rfl, l6⟩
  have g6 := g5.next l6
  clear l6 C2
  go_wp2_with fail
  refine ⟨fun _ => g6, ?_⟩
  refine wpM_one 19 rfl (by kernel_rfl) rfl ?_
  go_wp2_with fail
  refine ⟨fun _ => g6, ?_⟩
  refine wpM_one 20 rfl (by kernel_rfl) rfl ?_
  go_wp2_with fail
  refine ⟨fun _ => g6, ?_⟩
  refine wpM_one 21 rfl (by kernel_rfl) rfl ?_
  go_wp2_with fail
  refine ⟨fun _ => g6, ?_⟩
  refine wpM_held 22 (v := .int .i64 code) rfl (by kernel_rfl) (by kernel_rfl) rfl (fun _ _ _ h => h) rfl (by intro wx hx; go_simp <;> rfl) g6 ?_
  refine wpM_held 24 (v := .string ⟨#[]⟩) rfl (by kernel_rfl) (by kernel_rfl) rfl (fun _ _ _ h => h) rfl (by intro wx hx; go_simp <;> rfl) g6 ?_
  refine wpM_one 23 rfl (by kernel_rfl) rfl ?_
  go_wp2_with fail
  refine Calls.mono (D1 _ (hE.next g6.2)).out ?_
  rintro _ v7 ⟨rfl, l7⟩
  have g7 := g6.next l7
  clear l7 D1
  go_wp2_with fail
  refine ⟨fun _ => g7, ?_⟩
  refine wpM_one 25 rfl (by kernel_rfl) rfl ?_
  go_wp2_with fail
  refine ⟨fun _ => g7, ?_⟩
  refine wpM_one 26 rfl (by kernel_rfl) rfl ?_
  go_wp2_with fail
  refine ⟨fun _ => g7, ?_⟩
  refine wpM_one 27 rfl (by kernel_rfl) rfl ?_
  go_wp2_with fail
  refine ⟨fun _ => g7, ?_⟩
  refine wpM_held 28 (v := .int .i64 n) rfl (by kernel_rfl) (by kernel_rfl) rfl (fun _ _ _ h => h) rfl (by intro wx hx; go_simp <;> rfl) g7 ?_
  refine wpM_one 29 rfl (by kernel_rfl) rfl ?_
  go_wp2_with fail
  refine ⟨fun _ => g7, ?_⟩
  refine wpM_one 30 rfl (by kernel_rfl) rfl ?_
  go_wp2_with fail
  refine ⟨fun _ => g7, ?_⟩
  refine wpM_one 31 rfl (by kernel_rfl) rfl ?_
  go_wp2_with fail
  refine ⟨fun _ => g7, ?_⟩
  refine wpM_one 32 rfl (by kernel_rfl) rfl ?_
  go_wp2_with fail
  refine ⟨fun _ => g7, ?_⟩
  refine wpM_held 33 (v := .bool is) rfl (by kernel_rfl) (by kernel_rfl) rfl (fun _ _ _ h => h) rfl (by intro wx hx; go_simp <;> rfl) g7 ?_
  refine wpM_one 34 rfl (by kernel_rfl) rfl ?_
  go_wp2_with fail
  refine ⟨fun _ => g7, ?_⟩
  refine wpM_one 35 rfl (by kernel_rfl) rfl ?_
  go_wp2_with fail
  refine ⟨fun _ => g7, ?_⟩
  refine wpM_one 36 rfl (by kernel_rfl) rfl ?_
  go_wp2_with fail
  refine ⟨fun _ => g7, ?_⟩
  refine wpM_one 37 rfl (by kernel_rfl) rfl ?_
  go_wp2_with fail
  refine ⟨fun _ => g7, ?_⟩
  refine wpM_held 38 (v := .string S) rfl (by kernel_rfl) (by kernel_rfl) rfl (fun _ _ _ h => h) rfl (by intro wx hx; go_simp <;> rfl) g7 ?_
  refine wpM_held 40 (v := .string S) rfl (by kernel_rfl) (by kernel_rfl) rfl (fun _ _ _ h => h) rfl (by intro wx hx; go_simp <;> rfl) g7 ?_
  refine wpM_one 39 rfl (by kernel_rfl) rfl ?_
  go_wp2_with fail
  refine Calls.mono (E1 _ (hE.next g7.2)).out ?_
  rintro _ v8 ⟨rfl, l8⟩
  have g8 := g7.next l8
  clear l8 E1
  go_wp2_with fail
  refine ⟨fun _ => g8, ?_⟩
  refine wpM_one 41 rfl (by kernel_rfl) rfl ?_
  go_wp2_with fail
  refine Calls.mono (E2 _).out ?_
  rintro _ v9 ⟨rfl, l9⟩
  have g9 := g8.next l9
  clear l9 E2
  go_wp2_with fail
  refine ⟨fun _ => g9, ?_⟩
  refine wpM_one 42 rfl (by kernel_rfl) rfl ?_
  go_wp2_with fail
  refine ⟨fun _ => g9, ?_⟩
  refine wpM_one 43 rfl (by kernel_rfl) rfl ?_
  go_wp2_with fail
  refine ⟨fun _ => g9, ?_⟩
  refine wpM_one 44 rfl (by kernel_rfl) rfl ?_
  go_wp2_with fail
  refine ⟨fun _ => g9, ?_⟩
  refine wpM_held 45 (v := .int .i64 code) rfl (by kernel_rfl) (by kernel_rfl) rfl (fun _ _ _ h => h) rfl (by intro wx hx; go_simp <;> rfl) g9 ?_
  refine wpM_held 46 (v := .bool B) rfl (by kernel_rfl) (by kernel_rfl) rfl (fun _ _ _ h => h) rfl (by intro wx hx; go_simp <;> rfl) g9 ?_
  refine wpM_held 48 (v := .int .i64 code) rfl (by kernel_rfl) (by kernel_rfl) rfl (fun _ _ _ h => h) rfl (by intro wx hx; go_simp <;> rfl) g9 ?_
  refine wpM_held 49 (v := .bool B) rfl (by kernel_rfl) (by kernel_rfl) rfl (fun _ _ _ h => h) rfl (by intro wx hx; go_simp <;> rfl) g9 ?_
  refine wpM_one 47 rfl (by kernel_rfl) rfl ?_
  go_wp2_with fail
  refine Calls.mono (F1 _).out ?_
  rintro _ v10 ⟨rfl, l10⟩
  have g10 := g9.next l10
  clear l10 F1
  go_wp2_with fail
  refine ⟨fun _ => g10, ?_⟩
  refine wpM_one 50 rfl (by kernel_rfl) rfl ?_
  go_wp2_with fail
  refine Calls.mono (F2 _).out ?_
  rintro _ v11 ⟨rfl, l11⟩
  have g11 := g10.next l11
  clear l11 F2
  go_wp2_with fail
  refine ⟨fun _ => g11, ?_⟩
  refine wpM_one 51 rfl (by kernel_rfl) rfl ?_
  go_wp2_with fail
  refine ⟨fun _ => g11, ?_⟩
  refine wpM_one 52 rfl (by kernel_rfl) rfl ?_
  go_wp2_with fail
  refine ⟨fun _ => g11, ?_⟩
  refine wpM_one 53 rfl (by kernel_rfl) rfl ?_
  go_wp2_with fail
  refine ⟨fun _ => g11, ?_⟩
  refine wpM_one 54 rfl (by kernel_rfl) rfl ?_
  go_wp2_with fail
  refine Calls.mono (HL _ (hE.next g11.2)).out ?_
  rintro _ v12 ⟨rfl, l12⟩
  have g12 := g11.next l12
  clear l12 HL
  go_wp2_with fail
  refine ⟨fun _ => g12, ?_⟩
  refine wpM_one 55 rfl (by kernel_rfl) rfl ?_
  go_wp2_with fail
  refine ⟨fun _ => g12, ?_⟩
  refine wpM_one 56 rfl (by kernel_rfl) rfl ?_
  go_wp2_with fail
  refine ⟨fun _ => g12, ?_⟩
  refine wpM_done (by kernel_rfl) ?_
  go_wp2
  go_ret
  exact ⟨rfl, g12.2⟩
end Go.Proofs.YtnhflnpjepiceaaGreatDoor
/- val: ValMakes' law, one more way. -/
namespace Go.Proofs.YtnhflnpjepiceaaGreatDoor
open Go.RowKit

set_option maxRecDepth 100000 in
set_option maxHeartbeats 8000000 in
theorem makes_hi (c e er : Int) (hc : I64 c) (l : List UInt8) (hl : l.length ≤ 140737488351232) (code : Int) (hx : 1 ≤ code) (hy : ¬ code ≤ 7) (hnm : nameS code = ⟨#[]⟩) (w : World) (hE : Env w) : Calls Tryz.prog 4 #[.agg #[.int .i64 c, .int .i64 e], .int .i64 er, .string (bs l), .int .i64 code] w fun r w' => r = .returned (.bool true) ∧ Below w.heap.size w w' := by
  have K1 : ∀ V, Env V → Hid (Calls Tryz.prog 20 #[.string (bs l)] V fun r w' => r = .returned (.tuple #[.int .i64 (codeN (bs l)), .bool (decide (codeN (bs l) ≠ 0))]) ∧ Below V.heap.size V w') := fun V hV => (errCode_any (bs l) V hV.nam).mono (fun r w h => ⟨h.1, by rw [h.2]; exact Below.refl _ _⟩)
  have K2 : ∀ V, Hid (Calls Tryz.prog 21 #[.string (bs l)] V fun r w' => r = .returned (.tuple #[.int .i64 (codeN (bs l)), .bool (decide (codeN (bs l) ≠ 0))]) ∧ Below V.heap.size V w') := fun V => rerrCode_any (bs l) V
  have A1 : ∀ V, Hid (Calls Tryz.prog 23 #[.agg #[.int .i64 c, .int .i64 e], .int .i64 er] V fun r w' => r = .returned ((ofW c e er).v) ∧ Below V.heap.size V w') := fun V => of_val c e er hc V
  have A2 : ∀ V, Hid (Calls Tryz.prog 24 #[.agg #[.int .i64 c, .int .i64 e], .int .i64 er] V fun r w' => r = .returned ((ofW c e er).v) ∧ Below V.heap.size V w') := fun V => rof_val c e er hc V
  have B1 : ∀ V, Hid (Calls Tryz.prog 25 #[.string (bs l)] V fun r w' => r = .returned ((strW (bs l)).v) ∧ Below V.heap.size V w') := fun V => str_any (bs l) V
  have B2 : ∀ V, Hid (Calls Tryz.prog 26 #[.string (bs l)] V fun r w' => r = .returned ((strW (bs l)).v) ∧ Below V.heap.size V w') := fun V => rstr_any (bs l) V
  have C1 : ∀ V, Hid (Calls Tryz.prog 27 #[.int .i64 code] V fun r w' => r = .returned ((errW code).v) ∧ Below V.heap.size V w') := fun V => err_any code V
  have C2 : ∀ V, Hid (Calls Tryz.prog 28 #[.int .i64 code] V fun r w' => r = .returned ((errW code).v) ∧ Below V.heap.size V w') := fun V => rerr_any code V
  have D1 : ∀ V, Env V → Hid (Calls Tryz.prog 29 #[.int .i64 code] V fun r w' => r = .returned (.string ⟨#[]⟩) ∧ Below V.heap.size V w') := fun V hV => (errName_any code V hV.nam).mono (fun r w h => ⟨by rw [h.1, hnm], by rw [h.2]; exact Below.refl _ _⟩)
  have E1 : ∀ V, Env V → Hid (Calls Tryz.prog 30 #[.string (bs l)] V fun r w' => r = .returned ((typedV l).v) ∧ Below V.heap.size V w') := fun V hV => vtyped_any l hl V hV
  have E2 : ∀ V, Hid (Calls Tryz.prog 31 #[.string (bs l)] V fun r w' => r = .returned ((typedV l).v) ∧ Below V.heap.size V w') := fun V => rvtyped_any l hl V
  obtain ⟨B, hB⟩ : ∃ B, decide (0 < code) = B := ⟨_, rfl⟩
  have F1 : ∀ V, Hid (Calls Tryz.prog 32 #[.bool B] V fun r w' => r = .returned ((vB B).v) ∧ Below V.heap.size V w') := fun V => truth_any B V
  have F2 : ∀ V, Hid (Calls Tryz.prog 33 #[.bool B] V fun r w' => r = .returned ((vB B).v) ∧ Below V.heap.size V w') := fun V => rtruth_any B V
  have HL : ∀ V, Env V → Hid (Calls Tryz.prog 19 #[] V fun r w' => r = .returned (.bool true) ∧ Below V.heap.size V w') := fun V hV => valive_any V hV
  rw [vB_v] at F1 F2
  generalize decide (codeN (bs l) ≠ 0) = is at K1 K2
  generalize codeN (bs l) = n at K1 K2
  obtain ⟨ka, ca, ea, sa, ba, xa, hav⟩ := (ofW c e er).v_form
  obtain ⟨kb, cb, eb, sb, bb, xb, hbv⟩ := (strW (bs l)).v_form
  obtain ⟨kc, cc, ec, sc', bc, xc, hcv⟩ := (errW code).v_form
  obtain ⟨kd, cd, ed, sd, bd, xd, hdv⟩ := (typedV l).v_form
  rw [hav] at A1 A2
  rw [hbv] at B1 B2
  rw [hcv] at C1 C2
  rw [hdv] at E1 E2
  have qa := same25 ka ca ea xa sa ba
  have qb := same25 kb cb eb xb sb bb
  have qc := same25 kc cc ec xc sc' bc
  have qd := same25 kd cd ed xd sd bd
  have qf := same25 3 0 0 0 .empty B
  have qi : (is == is) = true := by simp
  clear hav hbv hcv hdv hc hl
  generalize bs l = S at *
  have h0 : D1r w (w.alloc (.cells #[.int .i64 c, .int .i64 e] 23)) #[.int .i64 c, .int .i64 e] := ⟨Row.new w 23 _, (Below.refl _ w).alloc (Nat.le_refl _) _⟩
  go_enter Tryz.func4, Tryz.ntmps4
  go_wp2_with fail
  refine Calls.mono (K1 _ (hE.next h0.2)).out ?_
  rintro _ w1 ⟨rfl, b1⟩
  have h1 := h0.next b1
  clear b1 h0 K1
  go_wp2_with fail
  refine Calls.mono (K2 _).out ?_
  rintro _ w2 ⟨rfl, b2⟩
  have h2 := h1.next b2
  clear b2 h1 K2
  have hW := h2
  go_upto_region 6 with fail
  have g0 := hW.drew
  refine wp_region_M (fun wx : World => D1r w wx #[.int .i64 c, .int .i64 e]) (fun j => decide (j < 57)) 57 rfl (by kernel_rfl) ?_
  refine wpM_held 0 (v := .agg #[.int .i64 c, .int .i64 e]) rfl (by kernel_rfl) (by kernel_rfl) rfl (fun _ _ _ h => h) rfl (by intro wx hx; obtain ⟨z0, z1⟩ := hx.1.duo; go_simp <;> rfl) g0 ?_
  refine wpM_held 1 (v := .int .i64 er) rfl (by kernel_rfl) (by kernel_rfl) rfl (fun _ _ _ h => h) rfl (by intro wx hx; go_simp <;> rfl) g0 ?_
  refine wpM_held 3 (v := .agg #[.int .i64 c, .int .i64 e]) rfl (by kernel_rfl) (by kernel_rfl) rfl (fun _ _ _ h => h) rfl (by intro wx hx; obtain ⟨z0, z1⟩ := hx.1.duo; go_simp <;> rfl) g0 ?_
  refine wpM_held 4 (v := .int .i64 er) rfl (by kernel_rfl) (by kernel_rfl) rfl (fun _ _ _ h => h) rfl (by intro wx hx; go_simp <;> rfl) g0 ?_
  refine wpM_one 2 rfl (by kernel_rfl) rfl ?_
  go_wp2_with fail
  refine Calls.mono (A1 _).out ?_
  rintro _ v1 ⟨rfl, l1⟩
  have g1 := g0.next l1
  clear l1 A1
  go_wp2_with fail
  refine ⟨fun _ => g1, ?_⟩
  refine wpM_one 5 rfl (by kernel_rfl) rfl ?_
  go_wp2_with fail
  refine Calls.mono (A2 _).out ?_
  rintro _ v2 ⟨rfl, l2⟩
  have g2 := g1.next l2
  clear l2 A2
  go_wp2_with fail
  refine ⟨fun _ => g2, ?_⟩
  refine wpM_one 6 rfl (by kernel_rfl) rfl ?_
  go_wp2_with fail
  refine ⟨fun _ => g2, ?_⟩
  refine wpM_one 7 rfl (by kernel_rfl) rfl ?_
  go_wp2_with fail
  refine ⟨fun _ => g2, ?_⟩
  refine wpM_held 8 (v := .string S) rfl (by kernel_rfl) (by kernel_rfl) rfl (fun _ _ _ h => h) rfl (by intro wx hx; go_simp <;> rfl) g2 ?_
  refine wpM_held 10 (v := .string S) rfl (by kernel_rfl) (by kernel_rfl) rfl (fun _ _ _ h => h) rfl (by intro wx hx; go_simp <;> rfl) g2 ?_
  refine wpM_one 9 rfl (by kernel_rfl) rfl ?_
  go_wp2_with fail
  refine Calls.mono (B1 _).out ?_
  rintro _ v3 ⟨rfl, l3⟩
  have g3 := g2.next l3
  clear l3 B1
  go_wp2_with fail
  refine ⟨fun _ => g3, ?_⟩
  refine wpM_one 11 rfl (by kernel_rfl) rfl ?_
  go_wp2_with fail
  refine Calls.mono (B2 _).out ?_
  rintro _ v4 ⟨rfl, l4⟩
  have g4 := g3.next l4
  clear l4 B2
  go_wp2_with fail
  refine ⟨fun _ => g4, ?_⟩
  refine wpM_one 12 rfl (by kernel_rfl) rfl ?_
  go_wp2_with fail
  refine ⟨fun _ => g4, ?_⟩
  refine wpM_one 13 rfl (by kernel_rfl) rfl ?_
  go_wp2_with fail
  refine ⟨fun _ => g4, ?_⟩
  refine wpM_one 14 rfl (by kernel_rfl) rfl ?_
  go_wp2_with fail
  refine ⟨fun _ => g4, ?_⟩
  refine wpM_held 15 (v := .int .i64 code) rfl (by kernel_rfl) (by kernel_rfl) rfl (fun _ _ _ h => h) rfl (by intro wx hx; go_simp <;> rfl) g4 ?_
  refine wpM_held 17 (v := .int .i64 code) rfl (by kernel_rfl) (by kernel_rfl) rfl (fun _ _ _ h => h) rfl (by intro wx hx; go_simp <;> rfl) g4 ?_
  refine wpM_one 16 rfl (by kernel_rfl) rfl ?_
  go_wp2_with fail
  refine Calls.mono (C1 _).out ?_
  rintro _ v5 ⟨rfl, l5⟩
  have g5 := g4.next l5
  clear l5 C1
  go_wp2_with fail
  refine ⟨fun _ => g5, ?_⟩
  refine wpM_one 18 rfl (by kernel_rfl) rfl ?_
  go_wp2_with fail
  refine Calls.mono (C2 _).out ?_
  rintro _ v6 ⟨rfl, l6⟩
  have g6 := g5.next l6
  clear l6 C2
  go_wp2_with fail
  refine ⟨fun _ => g6, ?_⟩
  refine wpM_one 19 rfl (by kernel_rfl) rfl ?_
  go_wp2_with fail
  refine ⟨fun _ => g6, ?_⟩
  refine wpM_one 20 rfl (by kernel_rfl) rfl ?_
  go_wp2_with fail
  refine ⟨fun _ => g6, ?_⟩
  refine wpM_one 21 rfl (by kernel_rfl) rfl ?_
  go_wp2_with fail
  refine ⟨fun _ => g6, ?_⟩
  refine wpM_held 22 (v := .int .i64 code) rfl (by kernel_rfl) (by kernel_rfl) rfl (fun _ _ _ h => h) rfl (by intro wx hx; go_simp <;> rfl) g6 ?_
  refine wpM_held 24 (v := .string ⟨#[]⟩) rfl (by kernel_rfl) (by kernel_rfl) rfl (fun _ _ _ h => h) rfl (by intro wx hx; go_simp <;> rfl) g6 ?_
  refine wpM_one 23 rfl (by kernel_rfl) rfl ?_
  go_wp2_with fail
  refine Calls.mono (D1 _ (hE.next g6.2)).out ?_
  rintro _ v7 ⟨rfl, l7⟩
  have g7 := g6.next l7
  clear l7 D1
  go_wp2_with fail
  refine ⟨fun _ => g7, ?_⟩
  refine wpM_one 25 rfl (by kernel_rfl) rfl ?_
  go_wp2_with fail
  refine ⟨fun _ => g7, ?_⟩
  refine wpM_one 26 rfl (by kernel_rfl) rfl ?_
  go_wp2_with fail
  refine ⟨fun _ => g7, ?_⟩
  refine wpM_one 27 rfl (by kernel_rfl) rfl ?_
  go_wp2_with fail
  refine ⟨fun _ => g7, ?_⟩
  refine wpM_held 28 (v := .int .i64 n) rfl (by kernel_rfl) (by kernel_rfl) rfl (fun _ _ _ h => h) rfl (by intro wx hx; go_simp <;> rfl) g7 ?_
  refine wpM_one 29 rfl (by kernel_rfl) rfl ?_
  go_wp2_with fail
  refine ⟨fun _ => g7, ?_⟩
  refine wpM_one 30 rfl (by kernel_rfl) rfl ?_
  go_wp2_with fail
  refine ⟨fun _ => g7, ?_⟩
  refine wpM_one 31 rfl (by kernel_rfl) rfl ?_
  go_wp2_with fail
  refine ⟨fun _ => g7, ?_⟩
  refine wpM_one 32 rfl (by kernel_rfl) rfl ?_
  go_wp2_with fail
  refine ⟨fun _ => g7, ?_⟩
  refine wpM_held 33 (v := .bool is) rfl (by kernel_rfl) (by kernel_rfl) rfl (fun _ _ _ h => h) rfl (by intro wx hx; go_simp <;> rfl) g7 ?_
  refine wpM_one 34 rfl (by kernel_rfl) rfl ?_
  go_wp2_with fail
  refine ⟨fun _ => g7, ?_⟩
  refine wpM_one 35 rfl (by kernel_rfl) rfl ?_
  go_wp2_with fail
  refine ⟨fun _ => g7, ?_⟩
  refine wpM_one 36 rfl (by kernel_rfl) rfl ?_
  go_wp2_with fail
  refine ⟨fun _ => g7, ?_⟩
  refine wpM_one 37 rfl (by kernel_rfl) rfl ?_
  go_wp2_with fail
  refine ⟨fun _ => g7, ?_⟩
  refine wpM_held 38 (v := .string S) rfl (by kernel_rfl) (by kernel_rfl) rfl (fun _ _ _ h => h) rfl (by intro wx hx; go_simp <;> rfl) g7 ?_
  refine wpM_held 40 (v := .string S) rfl (by kernel_rfl) (by kernel_rfl) rfl (fun _ _ _ h => h) rfl (by intro wx hx; go_simp <;> rfl) g7 ?_
  refine wpM_one 39 rfl (by kernel_rfl) rfl ?_
  go_wp2_with fail
  refine Calls.mono (E1 _ (hE.next g7.2)).out ?_
  rintro _ v8 ⟨rfl, l8⟩
  have g8 := g7.next l8
  clear l8 E1
  go_wp2_with fail
  refine ⟨fun _ => g8, ?_⟩
  refine wpM_one 41 rfl (by kernel_rfl) rfl ?_
  go_wp2_with fail
  refine Calls.mono (E2 _).out ?_
  rintro _ v9 ⟨rfl, l9⟩
  have g9 := g8.next l9
  clear l9 E2
  go_wp2_with fail
  refine ⟨fun _ => g9, ?_⟩
  refine wpM_one 42 rfl (by kernel_rfl) rfl ?_
  go_wp2_with fail
  refine ⟨fun _ => g9, ?_⟩
  refine wpM_one 43 rfl (by kernel_rfl) rfl ?_
  go_wp2_with fail
  refine ⟨fun _ => g9, ?_⟩
  refine wpM_one 44 rfl (by kernel_rfl) rfl ?_
  go_wp2_with fail
  refine ⟨fun _ => g9, ?_⟩
  refine wpM_held 45 (v := .int .i64 code) rfl (by kernel_rfl) (by kernel_rfl) rfl (fun _ _ _ h => h) rfl (by intro wx hx; go_simp <;> rfl) g9 ?_
  refine wpM_held 46 (v := .bool B) rfl (by kernel_rfl) (by kernel_rfl) rfl (fun _ _ _ h => h) rfl (by intro wx hx; go_simp <;> rfl) g9 ?_
  refine wpM_held 48 (v := .int .i64 code) rfl (by kernel_rfl) (by kernel_rfl) rfl (fun _ _ _ h => h) rfl (by intro wx hx; go_simp <;> rfl) g9 ?_
  refine wpM_held 49 (v := .bool B) rfl (by kernel_rfl) (by kernel_rfl) rfl (fun _ _ _ h => h) rfl (by intro wx hx; go_simp <;> rfl) g9 ?_
  refine wpM_one 47 rfl (by kernel_rfl) rfl ?_
  go_wp2_with fail
  refine Calls.mono (F1 _).out ?_
  rintro _ v10 ⟨rfl, l10⟩
  have g10 := g9.next l10
  clear l10 F1
  go_wp2_with fail
  refine ⟨fun _ => g10, ?_⟩
  refine wpM_one 50 rfl (by kernel_rfl) rfl ?_
  go_wp2_with fail
  refine Calls.mono (F2 _).out ?_
  rintro _ v11 ⟨rfl, l11⟩
  have g11 := g10.next l11
  clear l11 F2
  go_wp2_with fail
  refine ⟨fun _ => g11, ?_⟩
  refine wpM_one 51 rfl (by kernel_rfl) rfl ?_
  go_wp2_with fail
  refine ⟨fun _ => g11, ?_⟩
  refine wpM_one 52 rfl (by kernel_rfl) rfl ?_
  go_wp2_with fail
  refine ⟨fun _ => g11, ?_⟩
  refine wpM_one 53 rfl (by kernel_rfl) rfl ?_
  go_wp2_with fail
  refine ⟨fun _ => g11, ?_⟩
  refine wpM_one 54 rfl (by kernel_rfl) rfl ?_
  go_wp2_with fail
  refine Calls.mono (HL _ (hE.next g11.2)).out ?_
  rintro _ v12 ⟨rfl, l12⟩
  have g12 := g11.next l12
  clear l12 HL
  go_wp2_with fail
  refine ⟨fun _ => g12, ?_⟩
  refine wpM_one 55 rfl (by kernel_rfl) rfl ?_
  go_wp2_with fail
  refine ⟨fun _ => g12, ?_⟩
  refine wpM_one 56 rfl (by kernel_rfl) rfl ?_
  go_wp2_with fail
  refine ⟨fun _ => g12, ?_⟩
  refine wpM_done (by kernel_rfl) ?_
  go_wp2
  go_ret
  exact ⟨rfl, g12.2⟩
end Go.Proofs.YtnhflnpjepiceaaGreatDoor
/- val: ValMakes' law, one more way. -/
namespace Go.Proofs.YtnhflnpjepiceaaGreatDoor
open Go.RowKit

theorem names_at {W : World} {K : Nat} {code : Int} {nm : ByteArray} (hN : Row W K 9 #[.string ⟨#[]⟩, .string ⟨#[35, 68, 73, 86, 47, 48, 33]⟩, .string ⟨#[35, 86, 65, 76, 85, 69, 33]⟩, .string ⟨#[35, 82, 69, 70, 33]⟩, .string ⟨#[35, 78, 65, 77, 69, 63]⟩, .string ⟨#[35, 78, 85, 77, 33]⟩, .string ⟨#[35, 78, 47, 65]⟩, .string ⟨#[35, 67, 89, 67, 76, 69, 33]⟩]) (hx : 1 ≤ code) (hy : code ≤ 7) (hnm : nameS code = nm) : W.cell? ⟨K, code.toNat, none⟩ = some (.string nm) := by
  subst hnm
  obtain h | h | h | h | h | h | h : code = 1 ∨ code = 2 ∨ code = 3 ∨ code = 4 ∨ code = 5 ∨ code = 6 ∨ code = 7 := by omega
  all_goals
    subst h
    exact hN.cell rfl
set_option maxRecDepth 100000 in
set_option maxHeartbeats 8000000 in
theorem makes_ok (c e er : Int) (hc : I64 c) (l : List UInt8) (hl : l.length ≤ 140737488351232) (code : Int) (hx : 1 ≤ code) (hy : code ≤ 7) (nm : ByteArray) (hnm : nameS code = nm) (w : World) (hE : Env w) : Calls Tryz.prog 4 #[.agg #[.int .i64 c, .int .i64 e], .int .i64 er, .string (bs l), .int .i64 code] w fun r w' => r = .returned (.bool true) ∧ Below w.heap.size w w' := by
  have K1 : ∀ V, Env V → Hid (Calls Tryz.prog 20 #[.string (bs l)] V fun r w' => r = .returned (.tuple #[.int .i64 (codeN (bs l)), .bool (decide (codeN (bs l) ≠ 0))]) ∧ Below V.heap.size V w') := fun V hV => (errCode_any (bs l) V hV.nam).mono (fun r w h => ⟨h.1, by rw [h.2]; exact Below.refl _ _⟩)
  have K2 : ∀ V, Hid (Calls Tryz.prog 21 #[.string (bs l)] V fun r w' => r = .returned (.tuple #[.int .i64 (codeN (bs l)), .bool (decide (codeN (bs l) ≠ 0))]) ∧ Below V.heap.size V w') := fun V => rerrCode_any (bs l) V
  have A1 : ∀ V, Hid (Calls Tryz.prog 23 #[.agg #[.int .i64 c, .int .i64 e], .int .i64 er] V fun r w' => r = .returned ((ofW c e er).v) ∧ Below V.heap.size V w') := fun V => of_val c e er hc V
  have A2 : ∀ V, Hid (Calls Tryz.prog 24 #[.agg #[.int .i64 c, .int .i64 e], .int .i64 er] V fun r w' => r = .returned ((ofW c e er).v) ∧ Below V.heap.size V w') := fun V => rof_val c e er hc V
  have B1 : ∀ V, Hid (Calls Tryz.prog 25 #[.string (bs l)] V fun r w' => r = .returned ((strW (bs l)).v) ∧ Below V.heap.size V w') := fun V => str_any (bs l) V
  have B2 : ∀ V, Hid (Calls Tryz.prog 26 #[.string (bs l)] V fun r w' => r = .returned ((strW (bs l)).v) ∧ Below V.heap.size V w') := fun V => rstr_any (bs l) V
  have C1 : ∀ V, Hid (Calls Tryz.prog 27 #[.int .i64 code] V fun r w' => r = .returned ((errW code).v) ∧ Below V.heap.size V w') := fun V => err_any code V
  have C2 : ∀ V, Hid (Calls Tryz.prog 28 #[.int .i64 code] V fun r w' => r = .returned ((errW code).v) ∧ Below V.heap.size V w') := fun V => rerr_any code V
  have D1 : ∀ V, Env V → Hid (Calls Tryz.prog 29 #[.int .i64 code] V fun r w' => r = .returned (.string nm) ∧ Below V.heap.size V w') := fun V hV => (errName_any code V hV.nam).mono (fun r w h => ⟨by rw [h.1, hnm], by rw [h.2]; exact Below.refl _ _⟩)
  have E1 : ∀ V, Env V → Hid (Calls Tryz.prog 30 #[.string (bs l)] V fun r w' => r = .returned ((typedV l).v) ∧ Below V.heap.size V w') := fun V hV => vtyped_any l hl V hV
  have E2 : ∀ V, Hid (Calls Tryz.prog 31 #[.string (bs l)] V fun r w' => r = .returned ((typedV l).v) ∧ Below V.heap.size V w') := fun V => rvtyped_any l hl V
  obtain ⟨B, hB⟩ : ∃ B, decide (0 < code) = B := ⟨_, rfl⟩
  have F1 : ∀ V, Hid (Calls Tryz.prog 32 #[.bool B] V fun r w' => r = .returned ((vB B).v) ∧ Below V.heap.size V w') := fun V => truth_any B V
  have F2 : ∀ V, Hid (Calls Tryz.prog 33 #[.bool B] V fun r w' => r = .returned ((vB B).v) ∧ Below V.heap.size V w') := fun V => rtruth_any B V
  have HL : ∀ V, Env V → Hid (Calls Tryz.prog 19 #[] V fun r w' => r = .returned (.bool true) ∧ Below V.heap.size V w') := fun V hV => valive_any V hV
  rw [vB_v] at F1 F2
  generalize decide (codeN (bs l) ≠ 0) = is at K1 K2
  generalize codeN (bs l) = n at K1 K2
  obtain ⟨ka, ca, ea, sa, ba, xa, hav⟩ := (ofW c e er).v_form
  obtain ⟨kb, cb, eb, sb, bb, xb, hbv⟩ := (strW (bs l)).v_form
  obtain ⟨kc, cc, ec, sc', bc, xc, hcv⟩ := (errW code).v_form
  obtain ⟨kd, cd, ed, sd, bd, xd, hdv⟩ := (typedV l).v_form
  rw [hav] at A1 A2
  rw [hbv] at B1 B2
  rw [hcv] at C1 C2
  rw [hdv] at E1 E2
  have qa := same25 ka ca ea xa sa ba
  have qb := same25 kb cb eb xb sb bb
  have qc := same25 kc cc ec xc sc' bc
  have qd := same25 kd cd ed xd sd bd
  have qf := same25 3 0 0 0 .empty B
  have qi : (is == is) = true := by simp
  clear hav hbv hcv hdv hc hl
  generalize bs l = S at *
  have h0 : D1r w (w.alloc (.cells #[.int .i64 c, .int .i64 e] 23)) #[.int .i64 c, .int .i64 e] := ⟨Row.new w 23 _, (Below.refl _ w).alloc (Nat.le_refl _) _⟩
  go_enter Tryz.func4, Tryz.ntmps4
  go_wp2_with fail
  refine Calls.mono (K1 _ (hE.next h0.2)).out ?_
  rintro _ w1 ⟨rfl, b1⟩
  have h1 := h0.next b1
  clear b1 h0 K1
  go_wp2_with fail
  refine Calls.mono (K2 _).out ?_
  rintro _ w2 ⟨rfl, b2⟩
  have h2 := h1.next b2
  clear b2 h1 K2
  go_wp2_with fail
  refine Calls.mono (names_any _) ?_
  rintro _ w3 ⟨rfl, hw3⟩
  have hN := names_row w2
  rw [← hw3] at hN
  have hW : D1r w w3 #[.int .i64 c, .int .i64 e] := by rw [hw3]; exact h2.next ((Below.refl _ w2).alloc (Nat.le_refl _) _)
  have hfz := hN.frozen
  have c0 : w3.cell? ⟨w2.heap.size, code.toNat, none⟩ = some (.string nm) := names_at hN hx hy hnm
  have hc8 : code < 8 := by omega
  have hc0 : 0 ≤ code := by omega
  clear hw3 h2 hN
  generalize w2.heap.size = K at *
  go_upto_region 6 with fail
  have g0 := hW.drew
  refine wp_region_M (fun wx : World => D1r w wx #[.int .i64 c, .int .i64 e]) (fun j => decide (j < 57)) 57 rfl (by kernel_rfl) ?_
  refine wpM_held 0 (v := .agg #[.int .i64 c, .int .i64 e]) rfl (by kernel_rfl) (by kernel_rfl) rfl (fun _ _ _ h => h) rfl (by intro wx hx; obtain ⟨z0, z1⟩ := hx.1.duo; go_simp <;> rfl) g0 ?_
  refine wpM_held 1 (v := .int .i64 er) rfl (by kernel_rfl) (by kernel_rfl) rfl (fun _ _ _ h => h) rfl (by intro wx hx; go_simp <;> rfl) g0 ?_
  refine wpM_held 3 (v := .agg #[.int .i64 c, .int .i64 e]) rfl (by kernel_rfl) (by kernel_rfl) rfl (fun _ _ _ h => h) rfl (by intro wx hx; obtain ⟨z0, z1⟩ := hx.1.duo; go_simp <;> rfl) g0 ?_
  refine wpM_held 4 (v := .int .i64 er) rfl (by kernel_rfl) (by kernel_rfl) rfl (fun _ _ _ h => h) rfl (by intro wx hx; go_simp <;> rfl) g0 ?_
  refine wpM_one 2 rfl (by kernel_rfl) rfl ?_
  go_wp2_with fail
  refine Calls.mono (A1 _).out ?_
  rintro _ v1 ⟨rfl, l1⟩
  have g1 := g0.next l1
  clear l1 A1
  go_wp2_with fail
  refine ⟨fun _ => g1, ?_⟩
  refine wpM_one 5 rfl (by kernel_rfl) rfl ?_
  go_wp2_with fail
  refine Calls.mono (A2 _).out ?_
  rintro _ v2 ⟨rfl, l2⟩
  have g2 := g1.next l2
  clear l2 A2
  go_wp2_with fail
  refine ⟨fun _ => g2, ?_⟩
  refine wpM_one 6 rfl (by kernel_rfl) rfl ?_
  go_wp2_with fail
  refine ⟨fun _ => g2, ?_⟩
  refine wpM_one 7 rfl (by kernel_rfl) rfl ?_
  go_wp2_with fail
  refine ⟨fun _ => g2, ?_⟩
  refine wpM_held 8 (v := .string S) rfl (by kernel_rfl) (by kernel_rfl) rfl (fun _ _ _ h => h) rfl (by intro wx hx; go_simp <;> rfl) g2 ?_
  refine wpM_held 10 (v := .string S) rfl (by kernel_rfl) (by kernel_rfl) rfl (fun _ _ _ h => h) rfl (by intro wx hx; go_simp <;> rfl) g2 ?_
  refine wpM_one 9 rfl (by kernel_rfl) rfl ?_
  go_wp2_with fail
  refine Calls.mono (B1 _).out ?_
  rintro _ v3 ⟨rfl, l3⟩
  have g3 := g2.next l3
  clear l3 B1
  go_wp2_with fail
  refine ⟨fun _ => g3, ?_⟩
  refine wpM_one 11 rfl (by kernel_rfl) rfl ?_
  go_wp2_with fail
  refine Calls.mono (B2 _).out ?_
  rintro _ v4 ⟨rfl, l4⟩
  have g4 := g3.next l4
  clear l4 B2
  go_wp2_with fail
  refine ⟨fun _ => g4, ?_⟩
  refine wpM_one 12 rfl (by kernel_rfl) rfl ?_
  go_wp2_with fail
  refine ⟨fun _ => g4, ?_⟩
  refine wpM_one 13 rfl (by kernel_rfl) rfl ?_
  go_wp2_with fail
  refine ⟨fun _ => g4, ?_⟩
  refine wpM_one 14 rfl (by kernel_rfl) rfl ?_
  go_wp2_with fail
  refine ⟨fun _ => g4, ?_⟩
  refine wpM_held 15 (v := .int .i64 code) rfl (by kernel_rfl) (by kernel_rfl) rfl (fun _ _ _ h => h) rfl (by intro wx hx; go_simp <;> rfl) g4 ?_
  refine wpM_held 17 (v := .int .i64 code) rfl (by kernel_rfl) (by kernel_rfl) rfl (fun _ _ _ h => h) rfl (by intro wx hx; go_simp <;> rfl) g4 ?_
  refine wpM_one 16 rfl (by kernel_rfl) rfl ?_
  go_wp2_with fail
  refine Calls.mono (C1 _).out ?_
  rintro _ v5 ⟨rfl, l5⟩
  have g5 := g4.next l5
  clear l5 C1
  go_wp2_with fail
  refine ⟨fun _ => g5, ?_⟩
  refine wpM_one 18 rfl (by kernel_rfl) rfl ?_
  go_wp2_with fail
  refine Calls.mono (C2 _).out ?_
  rintro _ v6 ⟨rfl, l6⟩
  have g6 := g5.next l6
  clear l6 C2
  go_wp2_with fail
  refine ⟨fun _ => g6, ?_⟩
  refine wpM_one 19 rfl (by kernel_rfl) rfl ?_
  go_wp2_with fail
  refine ⟨fun _ => g6, ?_⟩
  refine wpM_one 20 rfl (by kernel_rfl) rfl ?_
  go_wp2_with fail
  refine ⟨fun _ => g6, ?_⟩
  refine wpM_one 21 rfl (by kernel_rfl) rfl ?_
  go_wp2_with fail
  refine ⟨fun _ => g6, ?_⟩
  refine wpM_held 22 (v := .int .i64 code) rfl (by kernel_rfl) (by kernel_rfl) rfl (fun _ _ _ h => h) rfl (by intro wx hx; go_simp <;> rfl) g6 ?_
  refine wpM_held 24 (v := .string nm) rfl (by kernel_rfl) (by kernel_rfl) rfl (fun _ _ _ h => h) rfl (by intro wx hx; go_simp <;> rfl) g6 ?_
  refine wpM_one 23 rfl (by kernel_rfl) rfl ?_
  go_wp2_with fail
  refine Calls.mono (D1 _ (hE.next g6.2)).out ?_
  rintro _ v7 ⟨rfl, l7⟩
  have g7 := g6.next l7
  clear l7 D1
  go_wp2_with fail
  refine ⟨fun _ => g7, ?_⟩
  refine wpM_one 25 rfl (by kernel_rfl) rfl ?_
  go_wp2_with fail
  refine ⟨fun _ => g7, ?_⟩
  refine wpM_one 26 rfl (by kernel_rfl) rfl ?_
  go_wp2_with fail
  refine ⟨fun _ => g7, ?_⟩
  refine wpM_one 27 rfl (by kernel_rfl) rfl ?_
  go_wp2_with fail
  refine ⟨fun _ => g7, ?_⟩
  refine wpM_held 28 (v := .int .i64 n) rfl (by kernel_rfl) (by kernel_rfl) rfl (fun _ _ _ h => h) rfl (by intro wx hx; go_simp <;> rfl) g7 ?_
  refine wpM_one 29 rfl (by kernel_rfl) rfl ?_
  go_wp2_with fail
  refine ⟨fun _ => g7, ?_⟩
  refine wpM_one 30 rfl (by kernel_rfl) rfl ?_
  go_wp2_with fail
  refine ⟨fun _ => g7, ?_⟩
  refine wpM_one 31 rfl (by kernel_rfl) rfl ?_
  go_wp2_with fail
  refine ⟨fun _ => g7, ?_⟩
  refine wpM_one 32 rfl (by kernel_rfl) rfl ?_
  go_wp2_with fail
  refine ⟨fun _ => g7, ?_⟩
  refine wpM_held 33 (v := .bool is) rfl (by kernel_rfl) (by kernel_rfl) rfl (fun _ _ _ h => h) rfl (by intro wx hx; go_simp <;> rfl) g7 ?_
  refine wpM_one 34 rfl (by kernel_rfl) rfl ?_
  go_wp2_with fail
  refine ⟨fun _ => g7, ?_⟩
  refine wpM_one 35 rfl (by kernel_rfl) rfl ?_
  go_wp2_with fail
  refine ⟨fun _ => g7, ?_⟩
  refine wpM_one 36 rfl (by kernel_rfl) rfl ?_
  go_wp2_with fail
  refine ⟨fun _ => g7, ?_⟩
  refine wpM_one 37 rfl (by kernel_rfl) rfl ?_
  go_wp2_with fail
  refine ⟨fun _ => g7, ?_⟩
  refine wpM_held 38 (v := .string S) rfl (by kernel_rfl) (by kernel_rfl) rfl (fun _ _ _ h => h) rfl (by intro wx hx; go_simp <;> rfl) g7 ?_
  refine wpM_held 40 (v := .string S) rfl (by kernel_rfl) (by kernel_rfl) rfl (fun _ _ _ h => h) rfl (by intro wx hx; go_simp <;> rfl) g7 ?_
  refine wpM_one 39 rfl (by kernel_rfl) rfl ?_
  go_wp2_with fail
  refine Calls.mono (E1 _ (hE.next g7.2)).out ?_
  rintro _ v8 ⟨rfl, l8⟩
  have g8 := g7.next l8
  clear l8 E1
  go_wp2_with fail
  refine ⟨fun _ => g8, ?_⟩
  refine wpM_one 41 rfl (by kernel_rfl) rfl ?_
  go_wp2_with fail
  refine Calls.mono (E2 _).out ?_
  rintro _ v9 ⟨rfl, l9⟩
  have g9 := g8.next l9
  clear l9 E2
  go_wp2_with fail
  refine ⟨fun _ => g9, ?_⟩
  refine wpM_one 42 rfl (by kernel_rfl) rfl ?_
  go_wp2_with fail
  refine ⟨fun _ => g9, ?_⟩
  refine wpM_one 43 rfl (by kernel_rfl) rfl ?_
  go_wp2_with fail
  refine ⟨fun _ => g9, ?_⟩
  refine wpM_one 44 rfl (by kernel_rfl) rfl ?_
  go_wp2_with fail
  refine ⟨fun _ => g9, ?_⟩
  refine wpM_held 45 (v := .int .i64 code) rfl (by kernel_rfl) (by kernel_rfl) rfl (fun _ _ _ h => h) rfl (by intro wx hx; go_simp <;> rfl) g9 ?_
  refine wpM_held 46 (v := .bool B) rfl (by kernel_rfl) (by kernel_rfl) rfl (fun _ _ _ h => h) rfl (by intro wx hx; go_simp <;> rfl) g9 ?_
  refine wpM_held 48 (v := .int .i64 code) rfl (by kernel_rfl) (by kernel_rfl) rfl (fun _ _ _ h => h) rfl (by intro wx hx; go_simp <;> rfl) g9 ?_
  refine wpM_held 49 (v := .bool B) rfl (by kernel_rfl) (by kernel_rfl) rfl (fun _ _ _ h => h) rfl (by intro wx hx; go_simp <;> rfl) g9 ?_
  refine wpM_one 47 rfl (by kernel_rfl) rfl ?_
  go_wp2_with fail
  refine Calls.mono (F1 _).out ?_
  rintro _ v10 ⟨rfl, l10⟩
  have g10 := g9.next l10
  clear l10 F1
  go_wp2_with fail
  refine ⟨fun _ => g10, ?_⟩
  refine wpM_one 50 rfl (by kernel_rfl) rfl ?_
  go_wp2_with fail
  refine Calls.mono (F2 _).out ?_
  rintro _ v11 ⟨rfl, l11⟩
  have g11 := g10.next l11
  clear l11 F2
  go_wp2_with fail
  refine ⟨fun _ => g11, ?_⟩
  refine wpM_one 51 rfl (by kernel_rfl) rfl ?_
  go_wp2_with fail
  refine ⟨fun _ => g11, ?_⟩
  refine wpM_one 52 rfl (by kernel_rfl) rfl ?_
  go_wp2_with fail
  refine ⟨fun _ => g11, ?_⟩
  refine wpM_one 53 rfl (by kernel_rfl) rfl ?_
  go_wp2_with fail
  refine ⟨fun _ => g11, ?_⟩
  refine wpM_one 54 rfl (by kernel_rfl) rfl ?_
  go_wp2_with fail
  refine Calls.mono (HL _ (hE.next g11.2)).out ?_
  rintro _ v12 ⟨rfl, l12⟩
  have g12 := g11.next l12
  clear l12 HL
  go_wp2_with fail
  refine ⟨fun _ => g12, ?_⟩
  refine wpM_one 55 rfl (by kernel_rfl) rfl ?_
  go_wp2_with fail
  refine ⟨fun _ => g12, ?_⟩
  refine wpM_one 56 rfl (by kernel_rfl) rfl ?_
  go_wp2_with fail
  refine ⟨fun _ => g12, ?_⟩
  refine wpM_done (by kernel_rfl) ?_
  go_wp2
  go_ret
  exact ⟨rfl, g12.2⟩
end Go.Proofs.YtnhflnpjepiceaaGreatDoor
/- val: ValMakes' law, whole. -/
namespace Go.Proofs.YtnhflnpjepiceaaGreatDoor
open Go.RowKit

theorem vmakes_any (c e er : Int) (hc : I64 c) (l : List UInt8) (hl : l.length ≤ 140737488351232) (code : Int) (w : World) (hE : Env w) : Calls Tryz.prog 4 #[.agg #[.int .i64 c, .int .i64 e], .int .i64 er, .string (bs l), .int .i64 code] w fun r w' => r = .returned (.bool true) ∧ Below w.heap.size w w' := by
  have hno : ¬ (1 ≤ code ∧ code ≤ 7) → nameS code = ⟨#[]⟩ := fun h => by
    unfold nameS
    repeat rw [if_neg (by omega)]
    rfl
  by_cases hx : 1 ≤ code
  · by_cases hy : code ≤ 7
    · exact makes_ok c e er hc l hl code hx hy _ rfl w hE
    · exact makes_hi c e er hc l hl code hx hy (hno (by omega)) w hE
  · exact makes_lo c e er hc l hl code hx (hno (by omega)) w hE
end Go.Proofs.YtnhflnpjepiceaaGreatDoor
