import Derived.Test.YtgihginfegckcaaGreatDoorLwd
/- LexBack, walked. -/
namespace Go.Proofs.YtgihginfegckcaaGreatDoor
open Go.RowKit

theorem word_true {s : List UInt8} (h : wordB s = true) : ∃ t p, lexR s = ([t], p, 0) ∧ t.k = 4 ∧ t.s = s := by
  unfold wordB at h
  generalize lexR s = q at h ⊢
  obtain ⟨ts, p, er⟩ := q
  simp only [Bool.and_eq_true, decide_eq_true_eq] at h
  obtain ⟨rfl, h⟩ := h
  match ts, h with
  | [t], h =>
    simp only [wordO, wordT, Bool.and_eq_true, decide_eq_true_eq] at h
    exact ⟨t, p, rfl, h.1.1.1, h.1.1.2⟩
set_option maxRecDepth 100000 in
set_option maxHeartbeats 1000000 in
theorem back_0t (s : List UInt8) (w : World) (hE : LexE w)
    (h1 : ∀ W, LexE W → Hid (Calls Tryz.prog 12 #[.string (bs s)] W fun e w' => e = .returned (.string (bs (quoteQ s))) ∧ Below W.heap.size W w'))
    (h2 : ∀ W, LexE W → Hid (Calls Tryz.prog 7 #[.string (bs (quoteQ s))] W (LexPost W ([⟨2, 0, s, 0, 0, Rf.zero⟩], 0, 0))))
    (h3 : ∀ W, LexE W → Hid (Calls Tryz.prog 10 #[.string (bs s)] W fun e w' => e = .returned (.bool true) ∧ Below W.heap.size W w'))
    (t : Tk) (p : Nat) (hk : t.k = 4) (ht : t.s = s) (h4 : ∀ W, LexE W → Hid (Calls Tryz.prog 7 #[.string (bs s)] W (LexPost W ([t], p, 0))))
    (h5 : ∀ W, LexE W → Hid (Calls Tryz.prog 9 #[] W fun e w' => e = .returned (.bool true) ∧ Below W.heap.size W w')) :
    Calls Tryz.prog 5 #[.string (bs s)] w fun e w' => e = .returned (.bool true) ∧ Below w.heap.size w w' := by
  have HE : Hid (LexE w) := hE
  have es : ((bs s).toList == (bs s).toList) = true := by simp
  have es2 : ((bs s).toList != (bs s).toList) = false := by simp
  clear hE
  go_enter Tryz.func5, Tryz.ntmps5
  go_wp2_with fail
  refine Calls.mono (h1 _ HE.out).out ?_
  rintro _ w1 ⟨rfl, b1⟩
  clear h1
  go_wp2_with fail
  refine Calls.mono (h2 _ (HE.out.below b1)).out ?_
  rintro _ w2 ⟨⟨v, rfl, o1⟩, b2⟩
  have B2 := b1.trans (b2.mono b1.size)
  clear h2 b2 b1
  obtain ⟨g, cap, rfl, c1⟩ := owns_cells o1 (by simp)
  have c0 := c1 0 (.int .i64 2) rfl
  have c2 := c1 2 (.string (bs s)) rfl
  clear c1 o1
  go_wp2_with fail
  refine Calls.mono (h3 _ (HE.out.below B2)).out ?_
  rintro _ w3 ⟨rfl, b3⟩
  have B3 := B2.trans (b3.mono B2.size)
  clear h3 b3 B2
  clear c0 c2
  go_wp2_with fail
  refine Calls.mono (h4 _ (HE.out.below B3)).out ?_
  rintro _ w4 ⟨⟨v4, rfl, o4⟩, b4⟩
  have B4 := B3.trans (b4.mono B3.size)
  clear h4 b4 B3
  obtain ⟨g4, cap4, rfl, c4⟩ := owns_cells o4 (by simp)
  have d0 := c4 0 (.int .i64 t.k) rfl
  have d2 := c4 2 (.string (bs t.s)) rfl
  rw [hk] at d0
  rw [ht] at d2
  clear c4 o4 hk ht
  go_wp2_with fail
  refine Calls.mono (h5 _ (HE.out.below B4)).out ?_
  rintro _ w5 ⟨rfl, b5⟩
  have B5 := B4.trans (b5.mono B4.size)
  clear h5 b5 B4 d0 d2
  go_wp2
  go_ret
  exact ⟨rfl, B5⟩
set_option maxRecDepth 100000 in
set_option maxHeartbeats 1000000 in
theorem back_0f (s : List UInt8) (w : World) (hE : LexE w)
    (h1 : ∀ W, LexE W → Hid (Calls Tryz.prog 12 #[.string (bs s)] W fun e w' => e = .returned (.string (bs (quoteQ s))) ∧ Below W.heap.size W w'))
    (h2 : ∀ W, LexE W → Hid (Calls Tryz.prog 7 #[.string (bs (quoteQ s))] W (LexPost W ([⟨2, 0, s, 0, 0, Rf.zero⟩], 0, 0))))
    (h3 : ∀ W, LexE W → Hid (Calls Tryz.prog 10 #[.string (bs s)] W fun e w' => e = .returned (.bool false) ∧ Below W.heap.size W w'))
    (h5 : ∀ W, LexE W → Hid (Calls Tryz.prog 9 #[] W fun e w' => e = .returned (.bool true) ∧ Below W.heap.size W w')) :
    Calls Tryz.prog 5 #[.string (bs s)] w fun e w' => e = .returned (.bool true) ∧ Below w.heap.size w w' := by
  have HE : Hid (LexE w) := hE
  have es : ((bs s).toList == (bs s).toList) = true := by simp
  have es2 : ((bs s).toList != (bs s).toList) = false := by simp
  clear hE
  go_enter Tryz.func5, Tryz.ntmps5
  go_wp2_with fail
  refine Calls.mono (h1 _ HE.out).out ?_
  rintro _ w1 ⟨rfl, b1⟩
  clear h1
  go_wp2_with fail
  refine Calls.mono (h2 _ (HE.out.below b1)).out ?_
  rintro _ w2 ⟨⟨v, rfl, o1⟩, b2⟩
  have B2 := b1.trans (b2.mono b1.size)
  clear h2 b2 b1
  obtain ⟨g, cap, rfl, c1⟩ := owns_cells o1 (by simp)
  have c0 := c1 0 (.int .i64 2) rfl
  have c2 := c1 2 (.string (bs s)) rfl
  clear c1 o1
  go_wp2_with fail
  refine Calls.mono (h3 _ (HE.out.below B2)).out ?_
  rintro _ w3 ⟨rfl, b3⟩
  have B3 := B2.trans (b3.mono B2.size)
  clear h3 b3 B2
  clear c0 c2
  go_wp2_with fail
  refine Calls.mono (h5 _ (HE.out.below B3)).out ?_
  rintro _ w5 ⟨rfl, b5⟩
  have B5 := B3.trans (b5.mono B3.size)
  clear h5 b5 B3
  go_wp2
  go_ret
  exact ⟨rfl, B5⟩
set_option maxRecDepth 100000 in
set_option maxHeartbeats 1000000 in
theorem back_3t (s : List UInt8) (w : World) (hE : LexE w)
    (h1 : ∀ W, LexE W → Hid (Calls Tryz.prog 12 #[.string (bs s)] W fun e w' => e = .returned (.string (bs (quoteQ s))) ∧ Below W.heap.size W w'))
    (h2 : ∀ W, LexE W → Hid (Calls Tryz.prog 7 #[.string (bs (quoteQ s))] W (LexPost W ([], 0, 3))))
    (h3 : ∀ W, LexE W → Hid (Calls Tryz.prog 10 #[.string (bs s)] W fun e w' => e = .returned (.bool true) ∧ Below W.heap.size W w'))
    (t : Tk) (p : Nat) (hk : t.k = 4) (ht : t.s = s) (h4 : ∀ W, LexE W → Hid (Calls Tryz.prog 7 #[.string (bs s)] W (LexPost W ([t], p, 0))))
    (h5 : ∀ W, LexE W → Hid (Calls Tryz.prog 9 #[] W fun e w' => e = .returned (.bool true) ∧ Below W.heap.size W w')) :
    Calls Tryz.prog 5 #[.string (bs s)] w fun e w' => e = .returned (.bool true) ∧ Below w.heap.size w w' := by
  have HE : Hid (LexE w) := hE
  have es : ((bs s).toList == (bs s).toList) = true := by simp
  have es2 : ((bs s).toList != (bs s).toList) = false := by simp
  clear hE
  go_enter Tryz.func5, Tryz.ntmps5
  go_wp2_with fail
  refine Calls.mono (h1 _ HE.out).out ?_
  rintro _ w1 ⟨rfl, b1⟩
  clear h1
  go_wp2_with fail
  refine Calls.mono (h2 _ (HE.out.below b1)).out ?_
  rintro _ w2 ⟨⟨v, rfl, o1⟩, b2⟩
  have B2 := b1.trans (b2.mono b1.size)
  clear h2 b2 b1
  obtain ⟨g, cap, rfl⟩ := owns_form o1
  clear o1
  go_wp2_with fail
  refine Calls.mono (h3 _ (HE.out.below B2)).out ?_
  rintro _ w3 ⟨rfl, b3⟩
  have B3 := B2.trans (b3.mono B2.size)
  clear h3 b3 B2
  go_wp2_with fail
  refine Calls.mono (h4 _ (HE.out.below B3)).out ?_
  rintro _ w4 ⟨⟨v4, rfl, o4⟩, b4⟩
  have B4 := B3.trans (b4.mono B3.size)
  clear h4 b4 B3
  obtain ⟨g4, cap4, rfl, c4⟩ := owns_cells o4 (by simp)
  have d0 := c4 0 (.int .i64 t.k) rfl
  have d2 := c4 2 (.string (bs t.s)) rfl
  rw [hk] at d0
  rw [ht] at d2
  clear c4 o4 hk ht
  go_wp2_with fail
  refine Calls.mono (h5 _ (HE.out.below B4)).out ?_
  rintro _ w5 ⟨rfl, b5⟩
  have B5 := B4.trans (b5.mono B4.size)
  clear h5 b5 B4 d0 d2
  go_wp2
  go_ret
  exact ⟨rfl, B5⟩
set_option maxRecDepth 100000 in
set_option maxHeartbeats 1000000 in
theorem back_3f (s : List UInt8) (w : World) (hE : LexE w)
    (h1 : ∀ W, LexE W → Hid (Calls Tryz.prog 12 #[.string (bs s)] W fun e w' => e = .returned (.string (bs (quoteQ s))) ∧ Below W.heap.size W w'))
    (h2 : ∀ W, LexE W → Hid (Calls Tryz.prog 7 #[.string (bs (quoteQ s))] W (LexPost W ([], 0, 3))))
    (h3 : ∀ W, LexE W → Hid (Calls Tryz.prog 10 #[.string (bs s)] W fun e w' => e = .returned (.bool false) ∧ Below W.heap.size W w'))
    (h5 : ∀ W, LexE W → Hid (Calls Tryz.prog 9 #[] W fun e w' => e = .returned (.bool true) ∧ Below W.heap.size W w')) :
    Calls Tryz.prog 5 #[.string (bs s)] w fun e w' => e = .returned (.bool true) ∧ Below w.heap.size w w' := by
  have HE : Hid (LexE w) := hE
  have es : ((bs s).toList == (bs s).toList) = true := by simp
  have es2 : ((bs s).toList != (bs s).toList) = false := by simp
  clear hE
  go_enter Tryz.func5, Tryz.ntmps5
  go_wp2_with fail
  refine Calls.mono (h1 _ HE.out).out ?_
  rintro _ w1 ⟨rfl, b1⟩
  clear h1
  go_wp2_with fail
  refine Calls.mono (h2 _ (HE.out.below b1)).out ?_
  rintro _ w2 ⟨⟨v, rfl, o1⟩, b2⟩
  have B2 := b1.trans (b2.mono b1.size)
  clear h2 b2 b1
  obtain ⟨g, cap, rfl⟩ := owns_form o1
  clear o1
  go_wp2_with fail
  refine Calls.mono (h3 _ (HE.out.below B2)).out ?_
  rintro _ w3 ⟨rfl, b3⟩
  have B3 := B2.trans (b3.mono B2.size)
  clear h3 b3 B2
  go_wp2_with fail
  refine Calls.mono (h5 _ (HE.out.below B3)).out ?_
  rintro _ w5 ⟨rfl, b5⟩
  have B5 := B3.trans (b5.mono B3.size)
  clear h5 b5 B3
  go_wp2
  go_ret
  exact ⟨rfl, B5⟩
set_option maxRecDepth 100000 in
set_option maxHeartbeats 1000000 in
theorem back_20t (s : List UInt8) (w : World) (hE : LexE w)
    (h1 : ∀ W, LexE W → Hid (Calls Tryz.prog 12 #[.string (bs s)] W fun e w' => e = .returned (.string (bs (quoteQ s))) ∧ Below W.heap.size W w'))
    (h2 : ∀ W, LexE W → Hid (Calls Tryz.prog 7 #[.string (bs (quoteQ s))] W (LexPost W ([], 0, 20))))
    (h3 : ∀ W, LexE W → Hid (Calls Tryz.prog 10 #[.string (bs s)] W fun e w' => e = .returned (.bool true) ∧ Below W.heap.size W w'))
    (t : Tk) (p : Nat) (hk : t.k = 4) (ht : t.s = s) (h4 : ∀ W, LexE W → Hid (Calls Tryz.prog 7 #[.string (bs s)] W (LexPost W ([t], p, 0))))
    (h5 : ∀ W, LexE W → Hid (Calls Tryz.prog 9 #[] W fun e w' => e = .returned (.bool true) ∧ Below W.heap.size W w')) :
    Calls Tryz.prog 5 #[.string (bs s)] w fun e w' => e = .returned (.bool true) ∧ Below w.heap.size w w' := by
  have HE : Hid (LexE w) := hE
  have es : ((bs s).toList == (bs s).toList) = true := by simp
  have es2 : ((bs s).toList != (bs s).toList) = false := by simp
  clear hE
  go_enter Tryz.func5, Tryz.ntmps5
  go_wp2_with fail
  refine Calls.mono (h1 _ HE.out).out ?_
  rintro _ w1 ⟨rfl, b1⟩
  clear h1
  go_wp2_with fail
  refine Calls.mono (h2 _ (HE.out.below b1)).out ?_
  rintro _ w2 ⟨⟨v, rfl, o1⟩, b2⟩
  have B2 := b1.trans (b2.mono b1.size)
  clear h2 b2 b1
  obtain ⟨g, cap, rfl⟩ := owns_form o1
  clear o1
  go_wp2_with fail
  refine Calls.mono (h3 _ (HE.out.below B2)).out ?_
  rintro _ w3 ⟨rfl, b3⟩
  have B3 := B2.trans (b3.mono B2.size)
  clear h3 b3 B2
  go_wp2_with fail
  refine Calls.mono (h4 _ (HE.out.below B3)).out ?_
  rintro _ w4 ⟨⟨v4, rfl, o4⟩, b4⟩
  have B4 := B3.trans (b4.mono B3.size)
  clear h4 b4 B3
  obtain ⟨g4, cap4, rfl, c4⟩ := owns_cells o4 (by simp)
  have d0 := c4 0 (.int .i64 t.k) rfl
  have d2 := c4 2 (.string (bs t.s)) rfl
  rw [hk] at d0
  rw [ht] at d2
  clear c4 o4 hk ht
  go_wp2_with fail
  refine Calls.mono (h5 _ (HE.out.below B4)).out ?_
  rintro _ w5 ⟨rfl, b5⟩
  have B5 := B4.trans (b5.mono B4.size)
  clear h5 b5 B4 d0 d2
  go_wp2
  go_ret
  exact ⟨rfl, B5⟩
set_option maxRecDepth 100000 in
set_option maxHeartbeats 1000000 in
theorem back_20f (s : List UInt8) (w : World) (hE : LexE w)
    (h1 : ∀ W, LexE W → Hid (Calls Tryz.prog 12 #[.string (bs s)] W fun e w' => e = .returned (.string (bs (quoteQ s))) ∧ Below W.heap.size W w'))
    (h2 : ∀ W, LexE W → Hid (Calls Tryz.prog 7 #[.string (bs (quoteQ s))] W (LexPost W ([], 0, 20))))
    (h3 : ∀ W, LexE W → Hid (Calls Tryz.prog 10 #[.string (bs s)] W fun e w' => e = .returned (.bool false) ∧ Below W.heap.size W w'))
    (h5 : ∀ W, LexE W → Hid (Calls Tryz.prog 9 #[] W fun e w' => e = .returned (.bool true) ∧ Below W.heap.size W w')) :
    Calls Tryz.prog 5 #[.string (bs s)] w fun e w' => e = .returned (.bool true) ∧ Below w.heap.size w w' := by
  have HE : Hid (LexE w) := hE
  have es : ((bs s).toList == (bs s).toList) = true := by simp
  have es2 : ((bs s).toList != (bs s).toList) = false := by simp
  clear hE
  go_enter Tryz.func5, Tryz.ntmps5
  go_wp2_with fail
  refine Calls.mono (h1 _ HE.out).out ?_
  rintro _ w1 ⟨rfl, b1⟩
  clear h1
  go_wp2_with fail
  refine Calls.mono (h2 _ (HE.out.below b1)).out ?_
  rintro _ w2 ⟨⟨v, rfl, o1⟩, b2⟩
  have B2 := b1.trans (b2.mono b1.size)
  clear h2 b2 b1
  obtain ⟨g, cap, rfl⟩ := owns_form o1
  clear o1
  go_wp2_with fail
  refine Calls.mono (h3 _ (HE.out.below B2)).out ?_
  rintro _ w3 ⟨rfl, b3⟩
  have B3 := B2.trans (b3.mono B2.size)
  clear h3 b3 B2
  go_wp2_with fail
  refine Calls.mono (h5 _ (HE.out.below B3)).out ?_
  rintro _ w5 ⟨rfl, b5⟩
  have B5 := B3.trans (b5.mono B3.size)
  clear h5 b5 B3
  go_wp2
  go_ret
  exact ⟨rfl, B5⟩
theorem back_any (s : List UInt8) (hs : s.length ≤ 1048576) (w : World) (hE : LexE w) :
    Calls Tryz.prog 5 #[.string (bs s)] w fun e w' => e = .returned (.bool true) ∧ Below w.heap.size w w' := by
  have h1 : ∀ W, LexE W → Hid (Calls Tryz.prog 12 #[.string (bs s)] W fun e w' => e = .returned (.string (bs (quoteQ s))) ∧ Below W.heap.size W w') := fun W hW => quote_any s hs W hW
  have h2 : ∀ W, LexE W → Hid (Calls Tryz.prog 7 #[.string (bs (quoteQ s))] W (LexPost W (lexR (quoteQ s)))) := fun W hW => lex_any (quoteQ s) W hW
  have h3 : ∀ W, LexE W → Hid (Calls Tryz.prog 10 #[.string (bs s)] W fun e w' => e = .returned (.bool (wordB s)) ∧ Below W.heap.size W w') := fun W hW => word_any s W hW
  have h4 : ∀ W, LexE W → Hid (Calls Tryz.prog 7 #[.string (bs s)] W (LexPost W (lexR s))) := fun W hW => lex_any s W hW
  have h5 : ∀ W, LexE W → Hid (Calls Tryz.prog 9 #[] W fun e w' => e = .returned (.bool true) ∧ Below W.heap.size W w') := fun W hW => alive_any W hW
  rw [lex_quote s] at h2
  cases hw : wordB s
  · rw [hw] at h3
    by_cases c1 : 512 < (quoteQ s).length ∨ 255 < s.length
    · rw [if_pos c1] at h2
      exact back_3f s w hE h1 h2 h3 h5
    · rw [if_neg c1] at h2
      by_cases c2 : xmlL (natsOf (bs s)) = true
      · rw [if_pos c2] at h2
        exact back_0f s w hE h1 h2 h3 h5
      · rw [if_neg c2] at h2
        exact back_20f s w hE h1 h2 h3 h5
  · rw [hw] at h3
    obtain ⟨t, p, e, hk, ht⟩ := word_true hw
    rw [e] at h4
    by_cases c1 : 512 < (quoteQ s).length ∨ 255 < s.length
    · rw [if_pos c1] at h2
      exact back_3t s w hE h1 h2 h3 t p hk ht h4 h5
    · rw [if_neg c1] at h2
      by_cases c2 : xmlL (natsOf (bs s)) = true
      · rw [if_pos c2] at h2
        exact back_0t s w hE h1 h2 h3 t p hk ht h4 h5
      · rw [if_neg c2] at h2
        exact back_20t s w hE h1 h2 h3 t p hk ht h4 h5
end Go.Proofs.YtgihginfegckcaaGreatDoor
