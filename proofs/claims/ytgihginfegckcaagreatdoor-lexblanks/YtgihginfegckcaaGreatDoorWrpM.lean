import Derived.Test.YtgihginfegckcaaGreatDoorWcqM
/- readPlace: a text without a sheet, taken apart. -/
namespace Go.Proofs.YtgihginfegckcaaGreatDoor
open Go.RowKit

/-- What a text without a sheet is made of. -/
structure Pl where
  letters : List UInt8
  digits : List UInt8
  rest : List UInt8
  ac : Bool
  ar : Bool
def placeP (l : List UInt8) : Pl :=
  ⟨aheadL (Lib.trimPrefix l [36]) capL, aheadL (Lib.trimPrefix (behindL (Lib.trimPrefix l [36]) capL) [36]) digL, behindL (Lib.trimPrefix (behindL (Lib.trimPrefix l [36]) capL) [36]) digL, Lib.hasPrefix l [36], Lib.hasPrefix (behindL (Lib.trimPrefix l [36]) capL) [36]⟩
def lettersOk (l : List UInt8) : Bool := !l.isEmpty && decide (l.length ≤ 3)
def digitsOk (l : List UInt8) : Bool := !l.isEmpty && decide (l.length ≤ 7) && !decide (l.head? = some 48)
/-- Is it written as a reference is? -/
def Pl.ok (p : Pl) : Bool := lettersOk p.letters && digitsOk p.digits && p.rest.isEmpty
def wrV (s : ByteArray) (p : Pl) : Value := .agg #[.string s, .string (bs p.letters), .string (bs p.digits), .bool p.ac, .bool p.ar]

set_option maxRecDepth 100000 in
set_option maxHeartbeats 4000000 in
theorem readPlace_raw (l l1 L l2 l3 D R : List UInt8) (a1 a2 r : Bool) (w : World)
    (h1 : ∀ w, Hid (Calls Tryz.prog 29 #[.string (bs l), .string ⟨#[36]⟩] w fun e w' => e = .returned (.tuple #[.string (bs l1), .bool a1]) ∧ w' = w))
    (h2 : ∀ w, Hid (Calls Tryz.prog 119 #[.string (bs l1), .string ⟨#[65, 66, 67, 68, 69, 70, 71, 72, 73, 74, 75, 76, 77, 78, 79, 80, 81, 82, 83, 84, 85, 86, 87, 88, 89, 90]⟩] w fun e w' => e = .returned (.tuple #[.string (bs L), .string (bs l2)]) ∧ Below w.heap.size w w'))
    (h3 : ∀ w, Hid (Calls Tryz.prog 29 #[.string (bs l2), .string ⟨#[36]⟩] w fun e w' => e = .returned (.tuple #[.string (bs l3), .bool a2]) ∧ w' = w))
    (h4 : ∀ w, Hid (Calls Tryz.prog 119 #[.string (bs l3), .string ⟨#[48, 49, 50, 51, 52, 53, 54, 55, 56, 57]⟩] w fun e w' => e = .returned (.tuple #[.string (bs D), .string (bs R)]) ∧ Below w.heap.size w w'))
    (H : Hid ((lettersOk L && digitsOk D && R.isEmpty) = r)) :
    Calls Tryz.prog 90 #[.string (bs l)] w fun e w' => e = .returned (.tuple #[.agg #[.string .empty, .string (bs L), .string (bs D), .bool a1, .bool a2], .bool r]) ∧ Below w.heap.size w w' := by
  go_enter Tryz.func90, Tryz.ntmps90
  go_wp2_with fail
  refine Calls.mono (h1 _).out ?_
  rintro _ w0 ⟨rfl, rfl⟩
  go_wp2_with fail
  refine Calls.mono (h2 _).out ?_
  rintro _ w1 ⟨rfl, b1⟩
  obtain ⟨hZ, hA, hB⟩ := two_rows w w1 _ _ _ _ b1
  obtain ⟨c0, c1, c2, c3, c4⟩ := hA.five
  have z1 := hA.frozen
  clear b1 h1 h2
  go_wp2_with fail
  refine Calls.mono (h3 _).out ?_
  rintro _ w0 ⟨rfl, rfl⟩
  have hA1 := (hA.set 1 (.string (bs L))).set 4 (.bool a2)
  have hZ1 := (hZ.off (B' := w.heap.size + 1) 1 (.string (bs L)) (by omega)).off (B' := w.heap.size + 1) 4 (.bool a2) (by omega)
  have hB1 := below_set (below_set hB (B := w.heap.size + 1) 1 (.string (bs L)) (by omega)) (B := w.heap.size + 1) 4 (.bool a2) (by omega)
  go_wp2_with fail
  refine Calls.mono (h4 _).out ?_
  rintro _ w2 ⟨rfl, b2⟩
  clear c0 c1 c2 c3 c4 z1 hA hZ hB
  have hA := hA1.below b2 hA1.lt
  have hZ := hZ1.below b2 hZ1.lt
  have hB := hB1.trans (b2.mono hB1.size)
  clear hA1 hZ1 hB1 b2 h3 h4
  change Row w2 (w.heap.size + 1) 86 #[.string .empty, .string (bs L), .string .empty, .bool a1, .bool a2] at hA
  obtain ⟨c0, c1, c2, c3, c4⟩ := hA.five
  obtain ⟨d0, d1, d2, d3, d4⟩ := hZ.five
  have z1 := hA.frozen
  have z2 := hZ.frozen
  have hZ2 := hZ.off (B' := w.heap.size + 1) 2 (.string (bs D)) (by omega)
  have hB2 := below_set hB (B := w.heap.size + 1) 2 (.string (bs D)) (by omega)
  have fin : ∀ tmps : Array Value, tmps.getD 2 undef = .pointer (some ⟨w.heap.size, 0, none⟩) → tmps.getD 3 undef = .bool r →
      bodyPost Tryz.prog Tryz.f90 (fun e w' => e = .returned (.tuple #[.agg #[.string .empty, .string (bs L), .string (bs D), .bool a1, .bool a2], .bool r]) ∧ Below w.heap.size w w') Exit.ret { tmps := tmps, defers := [] }
        ((((((w2.setCell ⟨w.heap.size + 1, 2, none⟩ (.string (bs D))).setCell ⟨w.heap.size, 0, none⟩ (.string .empty)).setCell ⟨w.heap.size, 1, none⟩ (.string (bs L))).setCell ⟨w.heap.size, 2, none⟩ (.string (bs D))).setCell ⟨w.heap.size, 3, none⟩ (.bool a1)).setCell ⟨w.heap.size, 4, none⟩ (.bool a2)) := by
    intro tmps t2 t3
    refine bodyPost_ret (ret_two rfl (g := w.heap.size) t2 t3 (load40 (Row.set5 hZ2 _ _ _ _ _) rfl)) rfl ⟨rfl, ?_⟩
    exact below_set5 hB2 (by omega) _ _ _ _ _
  have HF : Hid _ := fin
  clear fin hZ2 hB2 hA hZ hB
  have nE : ∀ (a : UInt8) (x : List UInt8), (bs (a :: x)).toList.isEmpty = false := fun a x => by rw [bs_toList]; rfl
  have eE : (bs []).toList.isEmpty = true := by rw [bs_toList]; rfl
  have HS : ∀ x : List UInt8, Hid ((bs x).size = x.length) := fun x => bs_size x
  have HG : ∀ (a : UInt8) (x : List UInt8) (h : 0 < (bs (a :: x)).size), Hid ((bs (a :: x))[0] = a) := fun _ _ _ => rfl
  rcases L with _ | ⟨a, L⟩
  · have n1 := eE
    have HL : Hid (lettersOk [] = false) := rfl
    rcases D with _ | ⟨d, D⟩
    · have m1 := eE
      have HD : Hid (digitsOk [] = false) := rfl
      rcases R with _ | ⟨x, R⟩
      · have u1 := eE
        obtain rfl : r = false := by rw [← H.out, HL.out, HD.out]; rfl
        clear H HL HD HS HG nE eE
        go_wp2
        exact HF.out _ rfl rfl
      · have u1 := nE x R
        obtain rfl : r = false := by rw [← H.out, HL.out, HD.out]; rfl
        clear H HL HD HS HG nE eE
        go_wp2
        exact HF.out _ rfl rfl
    · have m1 := nE d D
      by_cases c2 : (d :: D).length ≤ 7
      · have m2 : ((bs (d :: D)).size : Int) ≤ 7 := by have := (HS (d :: D)).out; omega
        have m3 : 0 < (bs (d :: D)).size := by have := (HS (d :: D)).out; simp at this; omega
        by_cases c3 : d.toNat = 48
        · have m4 : (((bs (d :: D))[0].toNat : Int) != 48) = false := by rw [(HG d D m3).out, c3]; rfl
          have HD : Hid (digitsOk (d :: D) = false) := by show _ = _; unfold digitsOk; rw [show d = 48 from UInt8.toNat_inj.1 c3]; simp
          clear c2 c3
          rcases R with _ | ⟨x, R⟩
          · have u1 := eE
            obtain rfl : r = false := by rw [← H.out, HL.out, HD.out]; rfl
            clear H HL HD HS HG nE eE
            go_wp2
            exact HF.out _ rfl rfl
          · have u1 := nE x R
            obtain rfl : r = false := by rw [← H.out, HL.out, HD.out]; rfl
            clear H HL HD HS HG nE eE
            go_wp2
            exact HF.out _ rfl rfl
        · have m4 : (((bs (d :: D))[0].toNat : Int) != 48) = true := by rw [(HG d D m3).out, bne_iff_ne]; omega
          have HD : Hid (digitsOk (d :: D) = true) := by show _ = _; unfold digitsOk; rw [decide_eq_true c2, show decide ((d :: D).head? = some 48) = false from decide_eq_false (fun e => c3 (by rw [Option.some.inj e]; rfl))]; rfl
          clear c2 c3
          rcases R with _ | ⟨x, R⟩
          · have u1 := eE
            obtain rfl : r = false := by rw [← H.out, HL.out, HD.out]; rfl
            clear H HL HD HS HG nE eE
            go_wp2
            exact HF.out _ rfl rfl
          · have u1 := nE x R
            obtain rfl : r = false := by rw [← H.out, HL.out, HD.out]; rfl
            clear H HL HD HS HG nE eE
            go_wp2
            exact HF.out _ rfl rfl
      · have m2 : ¬ (((bs (d :: D)).size : Int) ≤ 7) := by have := (HS (d :: D)).out; omega
        have HD : Hid (digitsOk (d :: D) = false) := by show _ = _; unfold digitsOk; rw [decide_eq_false c2]; rfl
        clear c2
        rcases R with _ | ⟨x, R⟩
        · have u1 := eE
          obtain rfl : r = false := by rw [← H.out, HL.out, HD.out]; rfl
          clear H HL HD HS HG nE eE
          go_wp2
          exact HF.out _ rfl rfl
        · have u1 := nE x R
          obtain rfl : r = false := by rw [← H.out, HL.out, HD.out]; rfl
          clear H HL HD HS HG nE eE
          go_wp2
          exact HF.out _ rfl rfl
  · have n1 := nE a L
    by_cases c1 : (a :: L).length ≤ 3
    · have n2 : ((bs (a :: L)).size : Int) ≤ 3 := by have := (HS (a :: L)).out; omega
      have HL : Hid (lettersOk (a :: L) = true) := by show _ = _; unfold lettersOk; rw [decide_eq_true c1]; rfl
      clear c1
      rcases D with _ | ⟨d, D⟩
      · have m1 := eE
        have HD : Hid (digitsOk [] = false) := rfl
        rcases R with _ | ⟨x, R⟩
        · have u1 := eE
          obtain rfl : r = false := by rw [← H.out, HL.out, HD.out]; rfl
          clear H HL HD HS HG nE eE
          go_wp2
          exact HF.out _ rfl rfl
        · have u1 := nE x R
          obtain rfl : r = false := by rw [← H.out, HL.out, HD.out]; rfl
          clear H HL HD HS HG nE eE
          go_wp2
          exact HF.out _ rfl rfl
      · have m1 := nE d D
        by_cases c2 : (d :: D).length ≤ 7
        · have m2 : ((bs (d :: D)).size : Int) ≤ 7 := by have := (HS (d :: D)).out; omega
          have m3 : 0 < (bs (d :: D)).size := by have := (HS (d :: D)).out; simp at this; omega
          by_cases c3 : d.toNat = 48
          · have m4 : (((bs (d :: D))[0].toNat : Int) != 48) = false := by rw [(HG d D m3).out, c3]; rfl
            have HD : Hid (digitsOk (d :: D) = false) := by show _ = _; unfold digitsOk; rw [show d = 48 from UInt8.toNat_inj.1 c3]; simp
            clear c2 c3
            rcases R with _ | ⟨x, R⟩
            · have u1 := eE
              obtain rfl : r = false := by rw [← H.out, HL.out, HD.out]; rfl
              clear H HL HD HS HG nE eE
              go_wp2
              exact HF.out _ rfl rfl
            · have u1 := nE x R
              obtain rfl : r = false := by rw [← H.out, HL.out, HD.out]; rfl
              clear H HL HD HS HG nE eE
              go_wp2
              exact HF.out _ rfl rfl
          · have m4 : (((bs (d :: D))[0].toNat : Int) != 48) = true := by rw [(HG d D m3).out, bne_iff_ne]; omega
            have HD : Hid (digitsOk (d :: D) = true) := by show _ = _; unfold digitsOk; rw [decide_eq_true c2, show decide ((d :: D).head? = some 48) = false from decide_eq_false (fun e => c3 (by rw [Option.some.inj e]; rfl))]; rfl
            clear c2 c3
            rcases R with _ | ⟨x, R⟩
            · have u1 := eE
              obtain rfl : r = true := by rw [← H.out, HL.out, HD.out]; rfl
              clear H HL HD HS HG nE eE
              go_wp2
              exact HF.out _ rfl rfl
            · have u1 := nE x R
              obtain rfl : r = false := by rw [← H.out, HL.out, HD.out]; rfl
              clear H HL HD HS HG nE eE
              go_wp2
              exact HF.out _ rfl rfl
        · have m2 : ¬ (((bs (d :: D)).size : Int) ≤ 7) := by have := (HS (d :: D)).out; omega
          have HD : Hid (digitsOk (d :: D) = false) := by show _ = _; unfold digitsOk; rw [decide_eq_false c2]; rfl
          clear c2
          rcases R with _ | ⟨x, R⟩
          · have u1 := eE
            obtain rfl : r = false := by rw [← H.out, HL.out, HD.out]; rfl
            clear H HL HD HS HG nE eE
            go_wp2
            exact HF.out _ rfl rfl
          · have u1 := nE x R
            obtain rfl : r = false := by rw [← H.out, HL.out, HD.out]; rfl
            clear H HL HD HS HG nE eE
            go_wp2
            exact HF.out _ rfl rfl
    · have n2 : ¬ (((bs (a :: L)).size : Int) ≤ 3) := by have := (HS (a :: L)).out; omega
      have HL : Hid (lettersOk (a :: L) = false) := by show _ = _; unfold lettersOk; rw [decide_eq_false c1]; rfl
      clear c1
      rcases D with _ | ⟨d, D⟩
      · have m1 := eE
        have HD : Hid (digitsOk [] = false) := rfl
        rcases R with _ | ⟨x, R⟩
        · have u1 := eE
          obtain rfl : r = false := by rw [← H.out, HL.out, HD.out]; rfl
          clear H HL HD HS HG nE eE
          go_wp2
          exact HF.out _ rfl rfl
        · have u1 := nE x R
          obtain rfl : r = false := by rw [← H.out, HL.out, HD.out]; rfl
          clear H HL HD HS HG nE eE
          go_wp2
          exact HF.out _ rfl rfl
      · have m1 := nE d D
        by_cases c2 : (d :: D).length ≤ 7
        · have m2 : ((bs (d :: D)).size : Int) ≤ 7 := by have := (HS (d :: D)).out; omega
          have m3 : 0 < (bs (d :: D)).size := by have := (HS (d :: D)).out; simp at this; omega
          by_cases c3 : d.toNat = 48
          · have m4 : (((bs (d :: D))[0].toNat : Int) != 48) = false := by rw [(HG d D m3).out, c3]; rfl
            have HD : Hid (digitsOk (d :: D) = false) := by show _ = _; unfold digitsOk; rw [show d = 48 from UInt8.toNat_inj.1 c3]; simp
            clear c2 c3
            rcases R with _ | ⟨x, R⟩
            · have u1 := eE
              obtain rfl : r = false := by rw [← H.out, HL.out, HD.out]; rfl
              clear H HL HD HS HG nE eE
              go_wp2
              exact HF.out _ rfl rfl
            · have u1 := nE x R
              obtain rfl : r = false := by rw [← H.out, HL.out, HD.out]; rfl
              clear H HL HD HS HG nE eE
              go_wp2
              exact HF.out _ rfl rfl
          · have m4 : (((bs (d :: D))[0].toNat : Int) != 48) = true := by rw [(HG d D m3).out, bne_iff_ne]; omega
            have HD : Hid (digitsOk (d :: D) = true) := by show _ = _; unfold digitsOk; rw [decide_eq_true c2, show decide ((d :: D).head? = some 48) = false from decide_eq_false (fun e => c3 (by rw [Option.some.inj e]; rfl))]; rfl
            clear c2 c3
            rcases R with _ | ⟨x, R⟩
            · have u1 := eE
              obtain rfl : r = false := by rw [← H.out, HL.out, HD.out]; rfl
              clear H HL HD HS HG nE eE
              go_wp2
              exact HF.out _ rfl rfl
            · have u1 := nE x R
              obtain rfl : r = false := by rw [← H.out, HL.out, HD.out]; rfl
              clear H HL HD HS HG nE eE
              go_wp2
              exact HF.out _ rfl rfl
        · have m2 : ¬ (((bs (d :: D)).size : Int) ≤ 7) := by have := (HS (d :: D)).out; omega
          have HD : Hid (digitsOk (d :: D) = false) := by show _ = _; unfold digitsOk; rw [decide_eq_false c2]; rfl
          clear c2
          rcases R with _ | ⟨x, R⟩
          · have u1 := eE
            obtain rfl : r = false := by rw [← H.out, HL.out, HD.out]; rfl
            clear H HL HD HS HG nE eE
            go_wp2
            exact HF.out _ rfl rfl
          · have u1 := nE x R
            obtain rfl : r = false := by rw [← H.out, HL.out, HD.out]; rfl
            clear H HL HD HS HG nE eE
            go_wp2
            exact HF.out _ rfl rfl
theorem trimPrefix_le (l p : List UInt8) : (Lib.trimPrefix l p).length ≤ l.length := by unfold Lib.trimPrefix; split <;> simp
theorem readPlace_any (l : List UInt8) (hl : l.length ≤ 9223372036854775807) (w : World) :
    Calls Tryz.prog 90 #[.string (bs l)] w fun e w' => e = .returned (.tuple #[wrV .empty (placeP l), .bool (placeP l).ok]) ∧ Below w.heap.size w w' := by
  have k1 := trimPrefix_le l [36]
  have k2 := ahead_len (Lib.trimPrefix l [36]) capL
  have k3 := trimPrefix_le (behindL (Lib.trimPrefix l [36]) capL) [36]
  exact readPlace_raw l _ _ _ _ _ _ _ _ _ w (fun w => Tryz.strings_CutPrefix (bs l) ⟨#[36]⟩ w) (fun w => ahead_any (Lib.trimPrefix l [36]) capL (by omega) (by decide) (by decide) w)
    (fun w => Tryz.strings_CutPrefix (bs (behindL (Lib.trimPrefix l [36]) capL)) ⟨#[36]⟩ w) (fun w => ahead_any (Lib.trimPrefix (behindL (Lib.trimPrefix l [36]) capL) [36]) digL (by omega) (by decide) (by decide) w) rfl
end Go.Proofs.YtgihginfegckcaaGreatDoor
/- read: a reference's text, taken apart. -/
namespace Go.Proofs.YtgihginfegckcaaGreatDoor
open Go.RowKit

theorem below_allocS {a w : World} (h : Below a.heap.size a w) (o : Obj) : Below a.heap.size a (w.alloc o) := h.alloc h.size o
theorem sheetC_len (l : List UInt8) : (sheetC l).1.length ≤ l.length ∧ (sheetC l).2.1.length ≤ l.length := by
  unfold sheetC
  have h1 := cutQ_len _ (l.drop 1) (Nat.le_refl _)
  have h2 := trimPrefix_le (cutQ (l.drop 1)).2 [39, 33]
  have h3 := cutB_len l 33
  simp only [List.length_drop] at h1
  split
  · simp only; omega
  · split
    · exact h3
    · simp
/-- Is it written as a reference is? -/
def readOk (l : List UInt8) : Bool := (sheetC l).2.2 && (placeP (sheetC l).2.1).ok
set_option maxRecDepth 100000 in
set_option maxHeartbeats 2000000 in
theorem read_any (l : List UInt8) (hl : l.length ≤ 140737488351232) (w : World) :
    Calls Tryz.prog 56 #[.string (bs l)] w fun e w' => e = .returned (.tuple #[wrV (bs (sheetC l).1) (placeP (sheetC l).2.1), .bool (readOk l)]) ∧ Below w.heap.size w w' := by
  have HC : ∀ W, Hid _ := fun W => cutSheet_any l hl W
  have hlen := sheetC_len l
  unfold readOk
  generalize sheetC l = q at HC hlen ⊢
  obtain ⟨A, B, f⟩ := q
  simp only at HC hlen ⊢
  have HR : ∀ W, Hid _ := fun W => readPlace_any B (by omega) W
  generalize placeP B = p at HR ⊢
  generalize p.ok = k at HR ⊢
  obtain ⟨L, D, R, ac, ar⟩ := p
  unfold wrV at HR ⊢
  simp only at HR ⊢
  clear hlen hl
  go_enter Tryz.func56, Tryz.ntmps56
  go_wp2_with fail
  refine Calls.mono (HC _).out ?_
  rintro _ w1 ⟨rfl, b1⟩
  go_wp2_with fail
  refine Calls.mono (HR _).out ?_
  rintro _ w2 ⟨rfl, b2⟩
  obtain ⟨hZ, hB⟩ := one_row w w2 _ _ (b1.trans (b2.mono b1.size))
  clear b1 b2 HC HR
  have hlt := hZ.lt
  obtain ⟨d0, d1, d2, d3, d4⟩ := (hZ.alloc (.cells #[.string (bs A), .string (bs L), .string (bs D), .bool ac, .bool ar] 86)).five
  have z1 := (hZ.alloc (.cells #[.string (bs A), .string (bs L), .string (bs D), .bool ac, .bool ar] 86)).frozen
  obtain ⟨e0, e1, e2, e3, e4⟩ := hZ.five
  have z2 := hZ.frozen
  cases f
  all_goals
    go_wp2
    refine bodyPost_ret (ret_two rfl (g := w.heap.size) rfl rfl (load40 ((Row.set5 hZ _ _ _ _ _).alloc _) rfl)) rfl ⟨rfl, ?_⟩
    exact below_allocS (below_set5 hB (Nat.le_refl _) _ _ _ _ _) _
end Go.Proofs.YtgihginfegckcaaGreatDoor
