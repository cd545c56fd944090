import Derived.Test.YtoncpcdepemlcaaGreatDoorNpuM
import Derived.Lib.SmallJoins
/- numfmt: a section's digits are read. -/
namespace Go.Proofs.YtoncpcdepemlcaaGreatDoor
open Go.RowKit Go.Shelf

theorem Row.sec {W : World} {S : Nat} {t : TypeId} {a b c d e f g h i j k : Value} (hr : Row W S t #[a, b, c, d, e, f, g, h, i, j, k]) :
    W.cell? ⟨S, 0, none⟩ = some a ∧ W.cell? ⟨S, 1, none⟩ = some b ∧ W.cell? ⟨S, 2, none⟩ = some c ∧ W.cell? ⟨S, 3, none⟩ = some d ∧ W.cell? ⟨S, 4, none⟩ = some e ∧ W.cell? ⟨S, 5, none⟩ = some f ∧ W.cell? ⟨S, 6, none⟩ = some g ∧ W.cell? ⟨S, 7, none⟩ = some h ∧ W.cell? ⟨S, 8, none⟩ = some i ∧ W.cell? ⟨S, 9, none⟩ = some j ∧ W.cell? ⟨S, 10, none⟩ = some k :=
  ⟨hr.cell rfl, hr.cell rfl, hr.cell rfl, hr.cell rfl, hr.cell rfl, hr.cell rfl, hr.cell rfl, hr.cell rfl, hr.cell rfl, hr.cell rfl, hr.cell rfl⟩
def MaxAt (w : World) : Prop := ∃ m : Int, w.cell? ⟨2, 0, none⟩ = some (.int .i64 m)
theorem MaxAt.kept {S : Nat → Prop} {w w' : World} (h : MaxAt w) (hk : Kept S w w') (hS : S 2) : MaxAt w' := by
  obtain ⟨m, hm⟩ := h
  exact ⟨m, (hk.cell (p := ⟨2, 0, none⟩) hS).trans hm⟩
theorem contains_any (a b : List UInt8) (ha : a.length ≤ 100) (V : World) (hm : MaxAt V) : Calls Tryz.prog 101 #[.string (bs a), .string (bs b)] V fun e w' => e = .returned (.bool (Lib.contains a b)) ∧ w' = V := by
  obtain ⟨m, hm⟩ := hm
  exact Tryz.strings_Contains (bs a) (bs b) m V (by rw [bs_size]; omega) hm
theorem replace_none (a : List UInt8) (ha : a.length ≤ 100) (V : World) (hm : MaxAt V) : Calls Tryz.prog 24 #[.string (bs a), .string (bs [44]), .string (bs [])] V fun e w' => e = .returned (.string (bs (Lib.replaceAll a [44] []))) ∧ Below V.heap.size V w' := by
  obtain ⟨m, hm⟩ := hm
  exact Tryz.strings_ReplaceAll (bs a) (bs [44]) (bs []) m V (by rw [bs_size]; omega) hm (by decide) (by rw [bs_size, bs_size]; simp; omega)
theorem bs_join2 (a b : List UInt8) : bs a ++ bs b = bs (a ++ b) := bs_ext (by rw [Go.Joins.data_append]; rfl)
theorem replaceK_len (old : List UInt8) : ∀ k s, (Lib.replaceK old [] k s).length ≤ s.length
  | 0, s => Nat.le_refl _
  | k + 1, s => by
    rw [Lib.replaceK]
    split
    · exact Nat.le_refl _
    · have ih := replaceK_len old k (s.drop ((Lib.index s old).toNat + old.length))
      simp only [List.length_append, List.length_take, List.length_drop, List.length_nil] at ih ⊢
      omega
theorem replace_len (old s : List UInt8) : (Lib.replaceAll s old []).length ≤ s.length := by
  unfold Lib.replaceAll Lib.replace
  split
  · exact Nat.le_refl _
  · exact replaceK_len _ _ _
theorem digP_len (l : List UInt8) (x : Sec) : (digP l x).2.2.length ≤ l.length := by
  unfold digP
  simp only
  have h1 := ntrim_len l [35, 48, 44]
  split
  · exact h1
  · split
    · exact h1
    · have h2 := ntrim_len ((Lib.trimLeftS l [35, 48, 44]).drop 1) [35, 48]
      simp at h2 ⊢
      omega
set_option maxRecDepth 100000 in
set_option maxHeartbeats 8000000 in
theorem ndigits_any (R S : Nat) (l : List UInt8) (x : Sec) (hl : l.length ≤ 64) (hne : R ≠ S) (h2 : 2 < R ∧ 2 < S) (w : World) (hR : Row w R 78 #[.string (bs l)]) (hS : Row w S 33 x.cells) (hM : MaxAt w) :
    Calls Tryz.prog 71 #[.pointer (some ⟨R, 0, none⟩), .pointer (some ⟨S, 0, none⟩)] w fun r w' => r = .returned (.bool (digP l x).1) ∧ Row w' R 78 #[.string (bs (digP l x).2.2)] ∧ Row w' S 33 (digP l x).2.1.cells ∧ Kept (fun k => k < w.heap.size ∧ k ≠ R ∧ k ≠ S) w w' := by
  have H1 := nrun_any R l [35, 48, 44] hl (by decide) (by intro j b h; have := List.mem_of_getElem? h; simp at this; rcases this with rfl | rfl | rfl <;> decide) w hR
  have hA := run_len l [35, 48, 44]
  obtain ⟨d, hd⟩ : ∃ d, digP l x = d := ⟨_, rfl⟩
  rw [hd]
  unfold digP at hd
  simp only at hd
  have hlt := ntrim_len l [35, 48, 44]
  generalize runA l [35, 48, 44] = A at *
  generalize Lib.trimLeftS l [35, 48, 44] = B at *
  obtain ⟨bf, af, wh, ze, pt, pa, pz, gr, pc, dg, tx⟩ := x
  unfold Sec.cells at hS
  simp only at hS
  by_cases hA0 : A = []
  · rw [if_pos hA0] at hd
    have e0 : (bs A).toList.isEmpty = true := by rw [hA0, bs_toList]; rfl
    have HD : Hid (_ = d) := hd
    clear hA0 hd
    go_enter Tryz.func71, Tryz.ntmps71
    go_wp2_with fail
    refine Calls.mono H1 ?_
    rintro _ w1 ⟨rfl, hR1, hk1⟩
    have hS1 : Row w1 S 33 _ := hS.kept hk1 ⟨hS.lt, fun e => hne e.symm⟩
    go_wp2
    go_ret
    rw [← HD.out]
    exact ⟨rfl, hR1, hS1, hk1.mono (fun k h => ⟨h.1, h.2.1⟩)⟩
  · rw [if_neg hA0] at hd
    have HD : Hid (_ = d) := hd
    clear hd
    have e0 : (bs A).toList.isEmpty = false := by rw [bs_toList]; cases A with | nil => exact absurd rfl hA0 | cons a r => rfl
    have HRP : ∀ V, MaxAt V → Hid (Calls Tryz.prog 24 #[.string (bs A), .string ⟨#[44]⟩, .string ⟨#[]⟩] V fun e w' => e = .returned (.string (bs (Lib.replaceAll A [44] []))) ∧ Below V.heap.size V w') := fun V h => replace_none A (by omega) V h
    have hrl : (Lib.replaceAll A [44] []).length ≤ 100 := Nat.le_trans (replace_len [44] A) (by omega)
    generalize Lib.replaceAll A [44] [] = C at *
    have HCT : ∀ V, Hid (Calls Tryz.prog 87 #[.string (bs C), .string ⟨#[48]⟩] V fun e w' => e = .returned (.int .i64 (Lib.countByte C 48)) ∧ w' = V) := fun V => Tryz.strings_Count_one (bs C) 48 V
    have HC1 : ∀ V, MaxAt V → Hid (Calls Tryz.prog 101 #[.string (bs C), .string ⟨#[48, 35]⟩] V fun e w' => e = .returned (.bool (Lib.contains C [48, 35])) ∧ w' = V) := fun V h => contains_any C [48, 35] hrl V h
    have HC2 : ∀ V, MaxAt V → Hid (Calls Tryz.prog 101 #[.string (⟨#[44]⟩ ++ bs A ++ ⟨#[44]⟩), .string ⟨#[44, 44]⟩] V fun e w' => e = .returned (.bool (Lib.contains ([44] ++ A ++ [44]) [44, 44])) ∧ w' = V) := fun V h => by
      have := contains_any ([44] ++ A ++ [44]) [44, 44] (by simp; omega) V h
      rw [← bs_join2, ← bs_join2] at this
      exact this
    generalize Lib.contains C [48, 35] = c1 at *
    generalize Lib.contains ([44] ++ A ++ [44]) [44, 44] = c2 at *
    have hcz : Lib.countByte C 48 ≤ 100 := Nat.le_trans (List.count_le_length ..) hrl
    generalize Lib.countByte C 48 = nz at *
    have sC : (bs C).size = C.length := bs_size C
    have kA : (bs A).size ≤ 64 := by rw [bs_size]; omega
    have kA2 : ((⟨#[44]⟩ : ByteArray) ++ bs A).size ≤ 100 := by rw [show (⟨#[44]⟩ : ByteArray) = bs [44] from rfl, bs_join2, bs_size]; simp; omega
    have hwl : 2 < w.heap.size := by have := hS.lt; omega
    go_enter Tryz.func71, Tryz.ntmps71
    go_wp2_with fail
    refine Calls.mono H1 ?_
    rintro _ w1 ⟨rfl, hR1, hk1⟩
    have hS1 : Row w1 S 33 _ := hS.kept hk1 ⟨hS.lt, fun e => hne e.symm⟩
    have hM1 := hM.kept hk1 ⟨by have := hS.lt; omega, by omega⟩
    go_wp2_with fail
    refine Calls.mono (HRP _ hM1).out ?_
    rintro _ w3 ⟨rfl, b2⟩
    have hR2 := hR1.below b2 hR1.lt
    have hS2 := hS1.below b2 hS1.lt
    have hk2 := hk1.trans (Kept.of_below b2 (fun k h => Nat.lt_of_lt_of_le h.1 hk1.size))
    have hM2 := hM.kept hk2 ⟨by have := hS.lt; omega, by omega⟩
    obtain ⟨s0, s1, s2, s3, s4, s5, s6, s7, s8, s9, s10⟩ := hS2.sec
    have zS := hS2.frozen
    have lS := hS2.lt
    clear hR1 hS1 hk1 b2 hM1 HRP H1 hR hS
    have hg : (!(bs C).toList == (bs A).toList) = !decide (C = A) := by rw [bs_toList, bs_toList]; congr 1; exact Bool.eq_iff_iff.2 (by simp)
    generalize (!decide (C = A)) = g at *
    go_wp2_with fail
    refine Calls.mono (HCT _).out ?_
    rintro _ w4 ⟨rfl, rfl⟩
    clear HCT
    have hS4 := (((hS2.set 9 (.bool true)).set 7 (.bool g)).set 2 (.int .i64 (C.length : Int))).set 3 (.int .i64 (nz : Int))
    have hR4 := (((hR2.off (B' := S) 9 (.bool true) hne).off (B' := S) 7 (.bool g) hne).off (B' := S) 2 (.int .i64 (C.length : Int)) hne).off (B' := S) 3 (.int .i64 (nz : Int)) hne
    have nS : ¬ (S < w.heap.size ∧ S ≠ R ∧ S ≠ S) := fun h => h.2.2 rfl
    have hk4 := ((((hk2.mono (T := fun k => k < w.heap.size ∧ k ≠ R ∧ k ≠ S) (fun k h => ⟨h.1, h.2.1⟩)).setCell (p := ⟨S, 9, none⟩) nS (.bool true)).setCell (p := ⟨S, 7, none⟩) nS (.bool g)).setCell (p := ⟨S, 2, none⟩) nS (.int .i64 (C.length : Int))).setCell (p := ⟨S, 3, none⟩) nS (.int .i64 (nz : Int))
    go_upto_region 8 with fail
    generalize ((((w3.setCell ⟨S, 9, none⟩ (.bool true)).setCell ⟨S, 7, none⟩ (.bool g)).setCell ⟨S, 2, none⟩ (.int .i64 (C.length : Int))).setCell ⟨S, 3, none⟩ (.int .i64 (nz : Int))) = w5 at *
    have hM5 : MaxAt w5 := hM.kept hk4 ⟨by omega, by omega, by omega⟩
    clear s0 s1 s2 s3 s4 s5 s6 s7 s8 s9 s10 zS lS hR2 hS2 hk2 hM2 hg
    cases c1 with
    | true =>
      go_upto_region 9 with (refine Calls.mono (HC1 _ hM5).out ?_; rintro _ w6 ⟨rfl, rfl⟩)
      have HHP : ∀ V, Hid (Calls Tryz.prog 37 #[.string (bs B), .string ⟨#[46]⟩] V fun e w' => e = .returned (.bool (Lib.hasPrefix B [46])) ∧ w' = V) := fun V => Tryz.strings_HasPrefix (bs B) (bs [46]) V
      have hB0 : Lib.hasPrefix B [46] = true → 1 ≤ B.length := fun h => by cases B with | nil => cases h | cons a r => simp
      have c0 := hR4.cell (i := 0) rfl
      generalize Lib.hasPrefix B [46] = hp at *
      cases hp with
      | false =>
        have HE : Hid (_ = d) := (if_pos (rfl : false = false)).symm.trans HD.out
        clear HD
        go_wp2_with fail
        refine Calls.mono (HHP _).out ?_
        rintro _ w6 ⟨rfl, rfl⟩
        go_wp2
        go_ret
        rw [← HE.out]
        exact ⟨rfl, hR4, hS4, hk4⟩
      | true =>
        have HE : Hid (_ = d) := (if_neg (by decide : ¬ true = false)).symm.trans HD.out
        clear HD
        have hB1 := hB0 rfl
        have hx : (bs B).extract 1 (bs B).size = bs (B.drop 1) := bs_drop B 1
        have sB : 1 ≤ (bs B).size := by rw [bs_size]; exact hB1
        have hDl : (B.drop 1).length ≤ 64 := by simp; omega
        have zR := hR4.frozen
        have lR := hR4.lt
        have H2 := fun V h => nrun_any R (B.drop 1) [35, 48] hDl (by decide) (by intro j b h; have := List.mem_of_getElem? h; simp at this; rcases this with rfl | rfl <;> decide) V h
        have hPl := run_len (B.drop 1) [35, 48]
        generalize B.drop 1 = D at *
        generalize runA D [35, 48] = P at *
        generalize Lib.trimLeftS D [35, 48] = E at *
        have HCP : ∀ V, Hid (Calls Tryz.prog 87 #[.string (bs P), .string ⟨#[48]⟩] V fun e w' => e = .returned (.int .i64 (Lib.countByte P 48)) ∧ w' = V) := fun V => Tryz.strings_Count_one (bs P) 48 V
        have HC3 : ∀ V, MaxAt V → Hid (Calls Tryz.prog 101 #[.string (bs P), .string ⟨#[35, 48]⟩] V fun e w' => e = .returned (.bool (Lib.contains P [35, 48])) ∧ w' = V) := fun V h => contains_any P [35, 48] (by omega) V h
        generalize Lib.contains P [35, 48] = c3 at *
        have hczp : Lib.countByte P 48 ≤ 100 := Nat.le_trans (List.count_le_length ..) (by omega)
        generalize Lib.countByte P 48 = np at *
        have sP : (bs P).size = P.length := bs_size P
        go_wp2_with fail
        refine Calls.mono (HHP _).out ?_
        rintro _ w6 ⟨rfl, rfl⟩
        go_wp2_with fail
        have hR6 := hR4.set 0 (.string (bs D))
        have hS6 := hS4.off (B' := R) 0 (.string (bs D)) (fun e => hne e.symm)
        have hk6 := hk4.setCell (p := ⟨R, 0, none⟩) (fun h => h.2.1 rfl) (.string (bs D))
        generalize (w6.setCell ⟨R, 0, none⟩ (.string (bs D))) = w7 at *
        refine Calls.mono (H2 _ hR6) ?_
        rintro _ w8 ⟨rfl, hR8, hk8⟩
        have hS8 : Row w8 S 33 _ := hS6.kept hk8 ⟨hS6.lt, fun e => hne e.symm⟩
        have hk9 := hk6.trans (hk8.mono (fun k h => ⟨Nat.lt_of_lt_of_le h.1 hk6.size, h.2.1⟩))
        have hM8 := hM.kept hk9 ⟨by omega, by omega, by omega⟩
        clear hR6 hS6 hk6 hk8 hR4 hS4 hk4 zR lR c0 H2 HHP hB0
        obtain ⟨s0, s1, s2, s3, s4, s5, s6, s7, s8, s9, s10⟩ := hS8.sec
        have zS := hS8.frozen
        have lS := hS8.lt
        have hSf := ((hS8.set 4 (.bool true)).set 5 (.int .i64 (P.length : Int))).set 6 (.int .i64 (np : Int))
        have hRf := ((hR8.off (B' := S) 4 (.bool true) hne).off (B' := S) 5 (.int .i64 (P.length : Int)) hne).off (B' := S) 6 (.int .i64 (np : Int)) hne
        have hkf := ((hk9.setCell (p := ⟨S, 4, none⟩) nS (.bool true)).setCell (p := ⟨S, 5, none⟩) nS (.int .i64 (P.length : Int))).setCell (p := ⟨S, 6, none⟩) nS (.int .i64 (np : Int))
        have hMf : MaxAt (((w8.setCell ⟨S, 4, none⟩ (.bool true)).setCell ⟨S, 5, none⟩ (.int .i64 (P.length : Int))).setCell ⟨S, 6, none⟩ (.int .i64 (np : Int))) := hM.kept hkf ⟨by omega, by omega, by omega⟩
        go_wp2_with fail
        refine Calls.mono (HCP _).out ?_
        rintro _ w9 ⟨rfl, rfl⟩
        go_wp2
        go_ret
        rw [← HE.out]
        exact ⟨rfl, hRf, hSf, hkf⟩
    | false =>
      go_wp2_with fail
      refine Calls.mono (HC1 _ hM5).out ?_
      rintro _ w6 ⟨rfl, rfl⟩
      go_wp2_with fail
      refine Calls.mono (HC2 _ hM5).out ?_
      rintro _ w6 ⟨rfl, rfl⟩
      generalize c2 = cc at *
      go_upto_region 9 with fail
      have HHP : ∀ V, Hid (Calls Tryz.prog 37 #[.string (bs B), .string ⟨#[46]⟩] V fun e w' => e = .returned (.bool (Lib.hasPrefix B [46])) ∧ w' = V) := fun V => Tryz.strings_HasPrefix (bs B) (bs [46]) V
      have hB0 : Lib.hasPrefix B [46] = true → 1 ≤ B.length := fun h => by cases B with | nil => cases h | cons a r => simp
      have c0 := hR4.cell (i := 0) rfl
      generalize Lib.hasPrefix B [46] = hp at *
      cases hp with
      | false =>
        have HE : Hid (_ = d) := (if_pos (rfl : false = false)).symm.trans HD.out
        clear HD
        go_wp2_with fail
        refine Calls.mono (HHP _).out ?_
        rintro _ w6 ⟨rfl, rfl⟩
        go_wp2
        go_ret
        rw [← HE.out]
        exact ⟨rfl, hR4, hS4, hk4⟩
      | true =>
        have HE : Hid (_ = d) := (if_neg (by decide : ¬ true = false)).symm.trans HD.out
        clear HD
        have hB1 := hB0 rfl
        have hx : (bs B).extract 1 (bs B).size = bs (B.drop 1) := bs_drop B 1
        have sB : 1 ≤ (bs B).size := by rw [bs_size]; exact hB1
        have hDl : (B.drop 1).length ≤ 64 := by simp; omega
        have zR := hR4.frozen
        have lR := hR4.lt
        have H2 := fun V h => nrun_any R (B.drop 1) [35, 48] hDl (by decide) (by intro j b h; have := List.mem_of_getElem? h; simp at this; rcases this with rfl | rfl <;> decide) V h
        have hPl := run_len (B.drop 1) [35, 48]
        generalize B.drop 1 = D at *
        generalize runA D [35, 48] = P at *
        generalize Lib.trimLeftS D [35, 48] = E at *
        have HCP : ∀ V, Hid (Calls Tryz.prog 87 #[.string (bs P), .string ⟨#[48]⟩] V fun e w' => e = .returned (.int .i64 (Lib.countByte P 48)) ∧ w' = V) := fun V => Tryz.strings_Count_one (bs P) 48 V
        have HC3 : ∀ V, MaxAt V → Hid (Calls Tryz.prog 101 #[.string (bs P), .string ⟨#[35, 48]⟩] V fun e w' => e = .returned (.bool (Lib.contains P [35, 48])) ∧ w' = V) := fun V h => contains_any P [35, 48] (by omega) V h
        generalize Lib.contains P [35, 48] = c3 at *
        have hczp : Lib.countByte P 48 ≤ 100 := Nat.le_trans (List.count_le_length ..) (by omega)
        generalize Lib.countByte P 48 = np at *
        have sP : (bs P).size = P.length := bs_size P
        go_wp2_with fail
        refine Calls.mono (HHP _).out ?_
        rintro _ w6 ⟨rfl, rfl⟩
        go_wp2_with fail
        have hR6 := hR4.set 0 (.string (bs D))
        have hS6 := hS4.off (B' := R) 0 (.string (bs D)) (fun e => hne e.symm)
        have hk6 := hk4.setCell (p := ⟨R, 0, none⟩) (fun h => h.2.1 rfl) (.string (bs D))
        generalize (w6.setCell ⟨R, 0, none⟩ (.string (bs D))) = w7 at *
        refine Calls.mono (H2 _ hR6) ?_
        rintro _ w8 ⟨rfl, hR8, hk8⟩
        have hS8 : Row w8 S 33 _ := hS6.kept hk8 ⟨hS6.lt, fun e => hne e.symm⟩
        have hk9 := hk6.trans (hk8.mono (fun k h => ⟨Nat.lt_of_lt_of_le h.1 hk6.size, h.2.1⟩))
        have hM8 := hM.kept hk9 ⟨by omega, by omega, by omega⟩
        clear hR6 hS6 hk6 hk8 hR4 hS4 hk4 zR lR c0 H2 HHP hB0
        obtain ⟨s0, s1, s2, s3, s4, s5, s6, s7, s8, s9, s10⟩ := hS8.sec
        have zS := hS8.frozen
        have lS := hS8.lt
        have hSf := ((hS8.set 4 (.bool true)).set 5 (.int .i64 (P.length : Int))).set 6 (.int .i64 (np : Int))
        have hRf := ((hR8.off (B' := S) 4 (.bool true) hne).off (B' := S) 5 (.int .i64 (P.length : Int)) hne).off (B' := S) 6 (.int .i64 (np : Int)) hne
        have hkf := ((hk9.setCell (p := ⟨S, 4, none⟩) nS (.bool true)).setCell (p := ⟨S, 5, none⟩) nS (.int .i64 (P.length : Int))).setCell (p := ⟨S, 6, none⟩) nS (.int .i64 (np : Int))
        have hMf : MaxAt (((w8.setCell ⟨S, 4, none⟩ (.bool true)).setCell ⟨S, 5, none⟩ (.int .i64 (P.length : Int))).setCell ⟨S, 6, none⟩ (.int .i64 (np : Int))) := hM.kept hkf ⟨by omega, by omega, by omega⟩
        go_wp2_with fail
        refine Calls.mono (HCP _).out ?_
        rintro _ w9 ⟨rfl, rfl⟩
        cases cc with
        | true =>
          go_wp2
          go_ret
          rw [← HE.out]
          exact ⟨rfl, hRf, hSf, hkf⟩
        | false =>
          go_wp2_with fail
          refine Calls.mono (HC3 _ hMf).out ?_
          rintro _ wa ⟨rfl, rfl⟩
          go_wp2
          go_ret
          rw [← HE.out]
          exact ⟨rfl, hRf, hSf, hkf⟩
end Go.Proofs.YtoncpcdepemlcaaGreatDoor
