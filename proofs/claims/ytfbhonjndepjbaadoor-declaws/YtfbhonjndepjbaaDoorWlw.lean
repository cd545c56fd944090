/- DecLaws: its walk. -/
import Derived.Test.YtfbhonjndepjbaaDoorWll
namespace Go.Proofs.YtfbhonjndepjbaaDoor
open Go.RowKit

set_option maxRecDepth 100000 in
set_option maxHeartbeats 4000000 in
theorem laws_any (c1 e1 c2 e2 : Int) (h1 : I64 c1) (h2 : I64 c2) (w : World) :
    Calls Tryd.prog 7 #[dv c1 e1, dv c2 e2] w fun r w' => r = .returned (.bool true) ∧ Below w.heap.size w w' := by
  obtain ⟨s, se, v, aA, aB, AF⟩ := add_two c1 e1 c2 e2 h1 h2
  obtain ⟨p, pe, g, mA, mB, MF⟩ := mul_two c1 e1 c2 e2 h1 h2
  have kAdd : v = 0 → ∃ x y, (∀ w, Calls Tryd.prog 26 #[.agg #[.int .i64 s, .int .i64 se]] w fun r w' => r = .returned (.bool true) ∧ Below w.heap.size w w') ∧ (∀ w, Calls Tryd.prog 11 #[.agg #[.int .i64 s, .int .i64 se], .agg #[.int .i64 c2, .int .i64 e2]] w fun r w' => r = .returned (.tuple #[.agg #[.int .i64 x, .int .i64 y], .int .i64 0]) ∧ Below w.heap.size w w') ∧ (∀ w, Calls Tryd.prog 24 #[.int .i64 c1, .int .i64 e1] w fun r w' => r = .returned (.tuple #[.agg #[.int .i64 x, .int .i64 y], .int .i64 0]) ∧ Below w.heap.size w w') := fun hv => by
    obtain ⟨i1, i2, i3, i4, i5, i6⟩ := AF hv
    obtain ⟨x, y, ht, hm⟩ := make_two c1 e1 h1 i1
    exact ⟨x, y, right_ok s se i3 i4 i5, sub_two c1 e1 c2 e2 s se x y h2 i3 i1 i2 i4 i6 ht, hm⟩
  have kMul : g = 0 → (∀ w, Calls Tryd.prog 26 #[.agg #[.int .i64 p, .int .i64 pe]] w fun r w' => r = .returned (.bool true) ∧ Below w.heap.size w w') ∧ ∃ sg x y, (∀ w, Calls Tryd.prog 30 #[.agg #[.int .i64 c2, .int .i64 e2]] w fun r w' => r = .returned (.int .i64 sg) ∧ Below w.heap.size w w') ∧ (sg ≠ 0 → ∀ w, Calls Tryd.prog 18 #[.agg #[.int .i64 p, .int .i64 pe], .agg #[.int .i64 c2, .int .i64 e2]] w fun r w' => r = .returned (.tuple #[.agg #[.int .i64 x, .int .i64 y], .int .i64 0]) ∧ Below w.heap.size w w') ∧ (∀ w, Calls Tryd.prog 24 #[.int .i64 c1, .int .i64 e1] w fun r w' => r = .returned (.tuple #[.agg #[.int .i64 x, .int .i64 y], .int .i64 0]) ∧ Below w.heap.size w w') := fun hg => by
    obtain ⟨i1, i2, i3, i4, i5, i6⟩ := MF hg
    obtain ⟨x, y, ht, hm⟩ := make_two c1 e1 h1 i1
    refine ⟨right_ok p pe i3 i4 i5, sgW (decW c2 e2), x, y, sign_ok c2 e2 h2 i2, fun hs => ?_, hm⟩
    have h0 : c2 ≠ 0 := by
      intro hz
      apply hs
      unfold sgW
      rw [if_pos ((dec_zero c2 e2).2 hz)]
    exact div_two c1 e1 c2 e2 p pe x y h1 h2 i3 i1 i2 i4 h0 i6 ht
  unfold D2 at aA aB mA mB
  clear AF MF h1 h2
  unfold dv
  go_enter Tryd.func7, Tryd.ntmps7
  go_wp2_with fail
  refine (aA _).mono ?_
  rintro _ X0 ⟨rfl, hn⟩
  obtain ⟨hA, hC, hB⟩ := two_rows w X0 _ _ _ _ hn
  clear hn
  have hA := hA.alloc (.cells #[.int .i64 s, .int .i64 se] 23)
  have hC := hC.alloc (.cells #[.int .i64 s, .int .i64 se] 23)
  have r1 := Row.new X0 23 #[.int .i64 s, .int .i64 se]
  have hB := hB.alloc hB.size (.cells #[.int .i64 s, .int .i64 se] 23)
  obtain ⟨hA0, hA1⟩ := hA.duo
  obtain ⟨hC0, hC1⟩ := hC.duo
  go_wp2_with fail
  refine (aB _).mono ?_
  rintro _ X1 ⟨rfl, hn⟩
  clear hA0 hA1 hC0 hC1
  have hA := hA.below hn hA.lt
  have hC := hC.below hn hC.lt
  have r1 := r1.below hn r1.lt
  have hB := hB.trans (hn.mono hB.size)
  clear hn
  have hA := hA.alloc (.cells #[.int .i64 s, .int .i64 se] 23)
  have hC := hC.alloc (.cells #[.int .i64 s, .int .i64 se] 23)
  have r1 := r1.alloc (.cells #[.int .i64 s, .int .i64 se] 23)
  have r2 := Row.new X1 23 #[.int .i64 s, .int .i64 se]
  have hB := hB.alloc hB.size (.cells #[.int .i64 s, .int .i64 se] 23)
  obtain ⟨hA0, hA1⟩ := hA.duo
  obtain ⟨hC0, hC1⟩ := hC.duo
  go_wp2_with fail
  refine (mA _).mono ?_
  rintro _ X2 ⟨rfl, hn⟩
  clear hA0 hA1 hC0 hC1
  have hA := hA.below hn hA.lt
  have hC := hC.below hn hC.lt
  have r1 := r1.below hn r1.lt
  have r2 := r2.below hn r2.lt
  have hB := hB.trans (hn.mono hB.size)
  clear hn
  have hA := hA.alloc (.cells #[.int .i64 p, .int .i64 pe] 23)
  have hC := hC.alloc (.cells #[.int .i64 p, .int .i64 pe] 23)
  have r1 := r1.alloc (.cells #[.int .i64 p, .int .i64 pe] 23)
  have r2 := r2.alloc (.cells #[.int .i64 p, .int .i64 pe] 23)
  have r3 := Row.new X2 23 #[.int .i64 p, .int .i64 pe]
  have hB := hB.alloc hB.size (.cells #[.int .i64 p, .int .i64 pe] 23)
  obtain ⟨hA0, hA1⟩ := hA.duo
  obtain ⟨hC0, hC1⟩ := hC.duo
  go_wp2_with fail
  refine (mB _).mono ?_
  rintro _ X3 ⟨rfl, hn⟩
  clear hA0 hA1 hC0 hC1
  have hA := hA.below hn hA.lt
  have hC := hC.below hn hC.lt
  have r1 := r1.below hn r1.lt
  have r2 := r2.below hn r2.lt
  have r3 := r3.below hn r3.lt
  have hB := hB.trans (hn.mono hB.size)
  clear hn
  have hA := hA.alloc (.cells #[.int .i64 p, .int .i64 pe] 23)
  have hC := hC.alloc (.cells #[.int .i64 p, .int .i64 pe] 23)
  have r1 := r1.alloc (.cells #[.int .i64 p, .int .i64 pe] 23)
  have r2 := r2.alloc (.cells #[.int .i64 p, .int .i64 pe] 23)
  have r3 := r3.alloc (.cells #[.int .i64 p, .int .i64 pe] 23)
  have r4 := Row.new X3 23 #[.int .i64 p, .int .i64 pe]
  have hB := hB.alloc hB.size (.cells #[.int .i64 p, .int .i64 pe] 23)
  obtain ⟨r10, r11⟩ := r1.duo
  obtain ⟨r20, r21⟩ := r2.duo
  obtain ⟨r30, r31⟩ := r3.duo
  obtain ⟨r40, r41⟩ := r4.duo
  go_wp2_with fail
  refine (alive_any _).mono ?_
  rintro _ X4 ⟨rfl, hn⟩
  clear r10 r11 r20 r21 r30 r31 r40 r41
  have hA := hA.below hn hA.lt
  have hC := hC.below hn hC.lt
  have r1 := r1.below hn r1.lt
  have r2 := r2.below hn r2.lt
  have r3 := r3.below hn r3.lt
  have r4 := r4.below hn r4.lt
  have hB := hB.trans (hn.mono hB.size)
  clear hn
  by_cases zv : v = 0
  · obtain ⟨x, y, kR1, kS1, kM1⟩ := kAdd zv
    subst zv
    clear kAdd
    obtain ⟨r10, r11⟩ := r1.duo
    go_wp2_with fail
    refine (kR1 _).mono ?_
    rintro _ X5 ⟨rfl, hn⟩
    clear r10 r11
    have hA := hA.below hn hA.lt
    have hC := hC.below hn hC.lt
    have r1 := r1.below hn r1.lt
    have r2 := r2.below hn r2.lt
    have r3 := r3.below hn r3.lt
    have r4 := r4.below hn r4.lt
    have hB := hB.trans (hn.mono hB.size)
    clear hn
    obtain ⟨r10, r11⟩ := r1.duo
    obtain ⟨hC0, hC1⟩ := hC.duo
    go_wp2_with fail
    refine (kS1 _).mono ?_
    rintro _ X6 ⟨rfl, hn⟩
    clear r10 r11 hC0 hC1
    have hA := hA.below hn hA.lt
    have hC := hC.below hn hC.lt
    have r1 := r1.below hn r1.lt
    have r2 := r2.below hn r2.lt
    have r3 := r3.below hn r3.lt
    have r4 := r4.below hn r4.lt
    have hB := hB.trans (hn.mono hB.size)
    clear hn
    have hA := hA.alloc (.cells #[.int .i64 x, .int .i64 y] 23)
    have hC := hC.alloc (.cells #[.int .i64 x, .int .i64 y] 23)
    have r1 := r1.alloc (.cells #[.int .i64 x, .int .i64 y] 23)
    have r2 := r2.alloc (.cells #[.int .i64 x, .int .i64 y] 23)
    have r3 := r3.alloc (.cells #[.int .i64 x, .int .i64 y] 23)
    have r4 := r4.alloc (.cells #[.int .i64 x, .int .i64 y] 23)
    have r5 := Row.new X6 23 #[.int .i64 x, .int .i64 y]
    have hB := hB.alloc hB.size (.cells #[.int .i64 x, .int .i64 y] 23)
    obtain ⟨hA0, hA1⟩ := hA.duo
    go_wp2_with fail
    refine (kM1 _).mono ?_
    rintro _ X7 ⟨rfl, hn⟩
    clear hA0 hA1
    have hA := hA.below hn hA.lt
    have hC := hC.below hn hC.lt
    have r1 := r1.below hn r1.lt
    have r2 := r2.below hn r2.lt
    have r3 := r3.below hn r3.lt
    have r4 := r4.below hn r4.lt
    have r5 := r5.below hn r5.lt
    have hB := hB.trans (hn.mono hB.size)
    clear hn
    have hA := hA.alloc (.cells #[.int .i64 x, .int .i64 y] 23)
    have hC := hC.alloc (.cells #[.int .i64 x, .int .i64 y] 23)
    have r1 := r1.alloc (.cells #[.int .i64 x, .int .i64 y] 23)
    have r2 := r2.alloc (.cells #[.int .i64 x, .int .i64 y] 23)
    have r3 := r3.alloc (.cells #[.int .i64 x, .int .i64 y] 23)
    have r4 := r4.alloc (.cells #[.int .i64 x, .int .i64 y] 23)
    have r5 := r5.alloc (.cells #[.int .i64 x, .int .i64 y] 23)
    have r6 := Row.new X7 23 #[.int .i64 x, .int .i64 y]
    have hB := hB.alloc hB.size (.cells #[.int .i64 x, .int .i64 y] 23)
    obtain ⟨r50, r51⟩ := r5.duo
    obtain ⟨r60, r61⟩ := r6.duo
    by_cases zg : g = 0
    · obtain ⟨kR, sg, x', y', kS, kD, kM⟩ := kMul zg
      subst zg
      clear kMul
      obtain ⟨hC0, hC1⟩ := hC.duo
      go_wp2_with fail
      refine (kS _).mono ?_
      rintro _ X8 ⟨rfl, hn⟩
      clear hC0 hC1
      have hA := hA.below hn hA.lt
      have hC := hC.below hn hC.lt
      have r1 := r1.below hn r1.lt
      have r2 := r2.below hn r2.lt
      have r3 := r3.below hn r3.lt
      have r4 := r4.below hn r4.lt
      have r5 := r5.below hn r5.lt
      have r6 := r6.below hn r6.lt
      have hB := hB.trans (hn.mono hB.size)
      clear hn
      by_cases zs : sg = 0
      · subst zs
        go_wp2
        go_ret
        exact ⟨rfl, hB⟩
      · have kD := kD zs
        have ys : (sg != 0) = true := by simpa using zs
        clear zs
        obtain ⟨r30, r31⟩ := r3.duo
        obtain ⟨hC0, hC1⟩ := hC.duo
        go_wp2_with fail
        refine (kD _).mono ?_
        rintro _ X9 ⟨rfl, hn⟩
        clear r30 r31 hC0 hC1
        have hA := hA.below hn hA.lt
        have hC := hC.below hn hC.lt
        have r1 := r1.below hn r1.lt
        have r2 := r2.below hn r2.lt
        have r3 := r3.below hn r3.lt
        have r4 := r4.below hn r4.lt
        have r5 := r5.below hn r5.lt
        have r6 := r6.below hn r6.lt
        have hB := hB.trans (hn.mono hB.size)
        clear hn
        have hA := hA.alloc (.cells #[.int .i64 x', .int .i64 y'] 23)
        have hC := hC.alloc (.cells #[.int .i64 x', .int .i64 y'] 23)
        have r1 := r1.alloc (.cells #[.int .i64 x', .int .i64 y'] 23)
        have r2 := r2.alloc (.cells #[.int .i64 x', .int .i64 y'] 23)
        have r3 := r3.alloc (.cells #[.int .i64 x', .int .i64 y'] 23)
        have r4 := r4.alloc (.cells #[.int .i64 x', .int .i64 y'] 23)
        have r5 := r5.alloc (.cells #[.int .i64 x', .int .i64 y'] 23)
        have r6 := r6.alloc (.cells #[.int .i64 x', .int .i64 y'] 23)
        have r7 := Row.new X9 23 #[.int .i64 x', .int .i64 y']
        have hB := hB.alloc hB.size (.cells #[.int .i64 x', .int .i64 y'] 23)
        obtain ⟨hA0, hA1⟩ := hA.duo
        go_wp2_with fail
        refine (kM _).mono ?_
        rintro _ X10 ⟨rfl, hn⟩
        clear hA0 hA1
        have hA := hA.below hn hA.lt
        have hC := hC.below hn hC.lt
        have r1 := r1.below hn r1.lt
        have r2 := r2.below hn r2.lt
        have r3 := r3.below hn r3.lt
        have r4 := r4.below hn r4.lt
        have r5 := r5.below hn r5.lt
        have r6 := r6.below hn r6.lt
        have r7 := r7.below hn r7.lt
        have hB := hB.trans (hn.mono hB.size)
        clear hn
        have hA := hA.alloc (.cells #[.int .i64 x', .int .i64 y'] 23)
        have hC := hC.alloc (.cells #[.int .i64 x', .int .i64 y'] 23)
        have r1 := r1.alloc (.cells #[.int .i64 x', .int .i64 y'] 23)
        have r2 := r2.alloc (.cells #[.int .i64 x', .int .i64 y'] 23)
        have r3 := r3.alloc (.cells #[.int .i64 x', .int .i64 y'] 23)
        have r4 := r4.alloc (.cells #[.int .i64 x', .int .i64 y'] 23)
        have r5 := r5.alloc (.cells #[.int .i64 x', .int .i64 y'] 23)
        have r6 := r6.alloc (.cells #[.int .i64 x', .int .i64 y'] 23)
        have r7 := r7.alloc (.cells #[.int .i64 x', .int .i64 y'] 23)
        have r8 := Row.new X10 23 #[.int .i64 x', .int .i64 y']
        have hB := hB.alloc hB.size (.cells #[.int .i64 x', .int .i64 y'] 23)
        obtain ⟨r30, r31⟩ := r3.duo
        obtain ⟨r70, r71⟩ := r7.duo
        obtain ⟨r80, r81⟩ := r8.duo
        go_wp2_with fail
        refine (kR _).mono ?_
        rintro _ X11 ⟨rfl, hn⟩
        clear r30 r31 r70 r71 r80 r81
        have hA := hA.below hn hA.lt
        have hC := hC.below hn hC.lt
        have r1 := r1.below hn r1.lt
        have r2 := r2.below hn r2.lt
        have r3 := r3.below hn r3.lt
        have r4 := r4.below hn r4.lt
        have r5 := r5.below hn r5.lt
        have r6 := r6.below hn r6.lt
        have r7 := r7.below hn r7.lt
        have r8 := r8.below hn r8.lt
        have hB := hB.trans (hn.mono hB.size)
        clear hn
        go_wp2
        go_ret
        exact ⟨rfl, hB⟩
    · have yg : (g == 0) = false := by simpa using zg
      clear kMul zg
      go_wp2
      go_ret
      exact ⟨rfl, hB⟩
  · have yv : (v == 0) = false := by simpa using zv
    clear kAdd zv
    by_cases zg : g = 0
    · obtain ⟨kR, sg, x', y', kS, kD, kM⟩ := kMul zg
      subst zg
      clear kMul
      obtain ⟨hC0, hC1⟩ := hC.duo
      go_wp2_with fail
      refine (kS _).mono ?_
      rintro _ X5 ⟨rfl, hn⟩
      clear hC0 hC1
      have hA := hA.below hn hA.lt
      have hC := hC.below hn hC.lt
      have r1 := r1.below hn r1.lt
      have r2 := r2.below hn r2.lt
      have r3 := r3.below hn r3.lt
      have r4 := r4.below hn r4.lt
      have hB := hB.trans (hn.mono hB.size)
      clear hn
      by_cases zs : sg = 0
      · subst zs
        go_wp2
        go_ret
        exact ⟨rfl, hB⟩
      · have kD := kD zs
        have ys : (sg != 0) = true := by simpa using zs
        clear zs
        obtain ⟨r30, r31⟩ := r3.duo
        obtain ⟨hC0, hC1⟩ := hC.duo
        go_wp2_with fail
        refine (kD _).mono ?_
        rintro _ X6 ⟨rfl, hn⟩
        clear r30 r31 hC0 hC1
        have hA := hA.below hn hA.lt
        have hC := hC.below hn hC.lt
        have r1 := r1.below hn r1.lt
        have r2 := r2.below hn r2.lt
        have r3 := r3.below hn r3.lt
        have r4 := r4.below hn r4.lt
        have hB := hB.trans (hn.mono hB.size)
        clear hn
        have hA := hA.alloc (.cells #[.int .i64 x', .int .i64 y'] 23)
        have hC := hC.alloc (.cells #[.int .i64 x', .int .i64 y'] 23)
        have r1 := r1.alloc (.cells #[.int .i64 x', .int .i64 y'] 23)
        have r2 := r2.alloc (.cells #[.int .i64 x', .int .i64 y'] 23)
        have r3 := r3.alloc (.cells #[.int .i64 x', .int .i64 y'] 23)
        have r4 := r4.alloc (.cells #[.int .i64 x', .int .i64 y'] 23)
        have r7 := Row.new X6 23 #[.int .i64 x', .int .i64 y']
        have hB := hB.alloc hB.size (.cells #[.int .i64 x', .int .i64 y'] 23)
        obtain ⟨hA0, hA1⟩ := hA.duo
        go_wp2_with fail
        refine (kM _).mono ?_
        rintro _ X7 ⟨rfl, hn⟩
        clear hA0 hA1
        have hA := hA.below hn hA.lt
        have hC := hC.below hn hC.lt
        have r1 := r1.below hn r1.lt
        have r2 := r2.below hn r2.lt
        have r3 := r3.below hn r3.lt
        have r4 := r4.below hn r4.lt
        have r7 := r7.below hn r7.lt
        have hB := hB.trans (hn.mono hB.size)
        clear hn
        have hA := hA.alloc (.cells #[.int .i64 x', .int .i64 y'] 23)
        have hC := hC.alloc (.cells #[.int .i64 x', .int .i64 y'] 23)
        have r1 := r1.alloc (.cells #[.int .i64 x', .int .i64 y'] 23)
        have r2 := r2.alloc (.cells #[.int .i64 x', .int .i64 y'] 23)
        have r3 := r3.alloc (.cells #[.int .i64 x', .int .i64 y'] 23)
        have r4 := r4.alloc (.cells #[.int .i64 x', .int .i64 y'] 23)
        have r7 := r7.alloc (.cells #[.int .i64 x', .int .i64 y'] 23)
        have r8 := Row.new X7 23 #[.int .i64 x', .int .i64 y']
        have hB := hB.alloc hB.size (.cells #[.int .i64 x', .int .i64 y'] 23)
        obtain ⟨r30, r31⟩ := r3.duo
        obtain ⟨r70, r71⟩ := r7.duo
        obtain ⟨r80, r81⟩ := r8.duo
        go_wp2_with fail
        refine (kR _).mono ?_
        rintro _ X8 ⟨rfl, hn⟩
        clear r30 r31 r70 r71 r80 r81
        have hA := hA.below hn hA.lt
        have hC := hC.below hn hC.lt
        have r1 := r1.below hn r1.lt
        have r2 := r2.below hn r2.lt
        have r3 := r3.below hn r3.lt
        have r4 := r4.below hn r4.lt
        have r7 := r7.below hn r7.lt
        have r8 := r8.below hn r8.lt
        have hB := hB.trans (hn.mono hB.size)
        clear hn
        go_wp2
        go_ret
        exact ⟨rfl, hB⟩
    · have yg : (g == 0) = false := by simpa using zg
      clear kMul zg
      go_wp2
      go_ret
      exact ⟨rfl, hB⟩
end Go.Proofs.YtfbhonjndepjbaaDoor
