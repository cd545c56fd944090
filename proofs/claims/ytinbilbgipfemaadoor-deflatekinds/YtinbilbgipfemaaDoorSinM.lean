import Derived.Test.YtinbilbgipfemaaDoorInsM
import Derived.Test.YtinbilbgipfemaaDoorSyg
/- Insertion sort sorts; what blocks become (pure). -/
namespace Go.Proofs.YtinbilbgipfemaaDoor

theorem ltF_key (fs : List Int) (x y : Int) : ltF fs x y = decide (keyF fs x < keyF fs y) := by
  unfold ltF keyF cmpZ
  split
  · rename_i h; simp [h]
  · split
    · rename_i h h2; simp; omega
    · rename_i h h2; simp; omega
theorem swL_sw (l : List Int) (j : Nat) : swL l j = sw l (j + 1) j := rfl
/-- Sorted but for the element at j, which is at most what stands behind it. -/
structure InsSt (K : Int → Int) (a t j : Nat) (l : List Int) : Prop where
  pairs : ∀ x y, a ≤ x → x < y → y ≤ t → x ≠ j → y ≠ j → K (gt l x) ≤ K (gt l y)
  up : ∀ y, j < y → y ≤ t → K (gt l j) ≤ K (gt l y)
theorem insIn_ok (fs : List Int) (a t : Nat) : ∀ (j : Nat) (l : List Int), a ≤ j → j ≤ t → t < l.length → InsSt (keyF fs) a t j l → Seg a (t + 1) l (insIn (ltF fs) a j l) ∧ Srt (keyF fs) (insIn (ltF fs) a j l) a (t + 1)
  | 0, l, ha, hj, ht, h => by
    refine ⟨Seg.refl _ _ _, fun x y x1 x2 x3 => ?_⟩
    rw [insIn]
    by_cases e : x = y
    · rw [e]; omega
    · by_cases e0 : x = 0
      · rw [e0]
        exact h.up y (by omega) (by omega)
      · exact h.pairs x y x1 (by omega) (by omega) e0 (by omega)
  | j + 1, l, ha, hj, ht, h => by
    rw [insIn]
    split
    · rename_i hc
      have hlt : keyF fs (gt l (j + 1)) < keyF fs (gt l j) := by
        have := hc.2
        rw [ltF_key] at this
        exact of_decide_eq_true this
      have hg := gt_sw (l := l) (i := j + 1) (j := j) (by omega) (by omega)
      have hst : InsSt (keyF fs) a t j (swL l j) := by
        rw [swL_sw]
        refine ⟨fun x y x1 x2 x3 x4 x5 => ?_, fun y y1 y2 => ?_⟩
        · rw [hg x, hg y, if_neg x4, if_neg x5]
          by_cases e1 : x = j + 1
          · rw [if_pos e1, if_neg (by omega)]
            exact h.pairs j y (by omega) (by omega) x3 (by omega) (by omega)
          · rw [if_neg e1]
            by_cases e2 : y = j + 1
            · rw [if_pos e2]
              exact h.pairs x j x1 (by omega) (by omega) e1 (by omega)
            · rw [if_neg e2]
              exact h.pairs x y x1 x2 x3 e1 e2
        · rw [hg j, hg y, if_pos rfl, if_neg (by omega)]
          by_cases e1 : y = j + 1
          · rw [if_pos e1]
            omega
          · rw [if_neg e1]
            exact h.up y (by omega) y2
      obtain ⟨g1, g2⟩ := insIn_ok fs a t j (swL l j) (by omega) (by omega) (by rw [swL_length]; exact ht) hst
      refine ⟨Seg.trans ?_ g1, g2⟩
      rw [swL_sw]
      refine ⟨sw_perm (by omega) (by omega), fun k hk => by rw [hg k, if_neg (by omega), if_neg (by omega)], fun k k1 k2 => ?_⟩
      rw [hg k]
      split
      · exact ⟨j + 1, by omega, by omega, rfl⟩
      · split
        · exact ⟨j, by omega, by omega, rfl⟩
        · exact ⟨k, k1, k2, rfl⟩
    · rename_i hc
      refine ⟨Seg.refl _ _ _, fun x y x1 x2 x3 => ?_⟩
      have hge : a < j + 1 → keyF fs (gt l j) ≤ keyF fs (gt l (j + 1)) := fun h1 => by
        have : ¬ ltF fs (l[j + 1]?.getD 0) (l[j]?.getD 0) = true := fun h2 => hc ⟨h1, h2⟩
        rw [ltF_key] at this
        have : ¬ keyF fs (gt l (j + 1)) < keyF fs (gt l j) := fun h2 => this (decide_eq_true h2)
        omega
      by_cases e : x = y
      · rw [e]; omega
      · by_cases e0 : x = j + 1
        · rw [e0]
          exact h.up y (by omega) (by omega)
        · by_cases e1 : y = j + 1
          · rw [e1]
            have h1 := hge (by omega)
            by_cases e2 : x = j
            · rw [e2]; exact h1
            · have := h.pairs x j x1 (by omega) (by omega) e0 (by omega)
              omega
          · exact h.pairs x y x1 (by omega) (by omega) e0 e1
theorem insOut_ok (fs : List Int) (a : Nat) (l : List Int) : ∀ k, a + k < l.length → Seg a (a + k + 1) l (insOut (ltF fs) a l k) ∧ Srt (keyF fs) (insOut (ltF fs) a l k) a (a + k + 1)
  | 0, h => by
    refine ⟨Seg.refl _ _ _, fun x y x1 x2 x3 => ?_⟩
    obtain rfl : x = y := by omega
    exact Int.le_refl _
  | k + 1, h => by
    obtain ⟨g1, g2⟩ := insOut_ok fs a l k (by omega)
    have hst : InsSt (keyF fs) a (a + (k + 1)) (a + (k + 1)) (insOut (ltF fs) a l k) :=
      ⟨fun x y x1 x2 x3 x4 x5 => g2 x y x1 (by omega) (by omega), fun y y1 y2 => by omega⟩
    obtain ⟨g3, g4⟩ := insIn_ok fs a (a + (k + 1)) (a + (k + 1)) _ (by omega) (by omega) (by rw [g1.len]; omega) hst
    rw [insOut]
    exact ⟨(g1.mono (Nat.le_refl _) (by omega)).trans g3, g4⟩
/-- The block [a, b) is sorted by itself. -/
theorem ins_block (fs : List Int) (a b : Nat) (l : List Int) (h1 : a ≤ b) (h2 : b ≤ l.length) : Seg a b l (insOut (ltF fs) a l (b - a - 1)) ∧ Srt (keyF fs) (insOut (ltF fs) a l (b - a - 1)) a b := by
  by_cases e : a = b
  · subst e
    rw [show a - a - 1 = 0 by omega]
    exact ⟨Seg.refl _ _ _, fun x y x1 x2 x3 => by omega⟩
  · have := insOut_ok fs a l (b - a - 1) (by omega)
    rwa [show a + (b - a - 1) + 1 = b by omega] at this

theorem dvd_step {d s a : Nat} (h1 : d ∣ s) (h2 : d ∣ a) (h : s < a) : s + d ≤ a := by
  obtain ⟨x, rfl⟩ := h1
  obtain ⟨y, rfl⟩ := h2
  have hxy : x < y := by
    rcases Nat.lt_or_ge x y with h3 | h3
    · exact h3
    · exact absurd (Nat.mul_le_mul_left d h3) (by omega)
  have := Nat.mul_le_mul_left d (show x + 1 ≤ y from hxy)
  rw [Nat.mul_add, Nat.mul_one] at this
  exact this
/-- All blocks of z places are sorted by themselves. -/
def Blocks (K : Int → Int) (z n : Nat) (l : List Int) : Prop := ∀ s, z ∣ s → Srt K l s (min (s + z) n)
/-- Blocks of z places behind a, blocks of y places ahead of it. -/
structure Halfway (K : Int → Int) (z y n a : Nat) (l : List Int) : Prop where
  lo : ∀ s, y ∣ s → s < a → Srt K l s (s + y)
  hi : ∀ s, z ∣ s → a ≤ s → Srt K l s (min (s + z) n)
theorem Halfway.next {K : Int → Int} {z y n a : Nat} {l l' : List Int} (h : Halfway K z y n a l) (hd : y ∣ a) (hg : Seg a (a + y) l l') (hs : Srt K l' a (a + y)) : Halfway K z y n (a + y) l' := by
  refine ⟨fun s h1 h2 => ?_, fun s h1 h2 => (h.hi s h1 (by omega)).of_out (fun k k1 _ => hg.out k (.inr (by omega)))⟩
  by_cases c : s < a
  · have h3 := dvd_step h1 hd c
    exact (h.lo s h1 c).of_out (fun k _ k2 => hg.out k (.inl (by omega)))
  · have : ¬ a < s := fun h4 => by have := dvd_step hd h1 h4; omega
    obtain rfl : s = a := by omega
    exact hs
theorem Halfway.done {K : Int → Int} {z y n a : Nat} {l : List Int} (h : Halfway K z y n a l) (hd : y ∣ a) (ha : a ≤ n) (hn : n < a + y) (hs : Srt K l a n) : Blocks K y n l := by
  intro s h1
  by_cases c : s < a
  · have h3 := dvd_step h1 hd c
    rw [Nat.min_eq_left (by omega)]
    exact h.lo s h1 c
  · by_cases e : s = a
    · rw [e, Nat.min_eq_right (by omega)]
      exact hs
    · have h3 := dvd_step hd h1 (by omega)
      intro i j i1 i2 i3
      rw [Nat.min_eq_right (by omega)] at i3
      omega
end Go.Proofs.YtinbilbgipfemaaDoor
/- slices: the stable sort of any number of symbols. -/
namespace Go.Proofs.YtinbilbgipfemaaDoor
open Go.RowKit

theorem ins_st (S : Nat → Prop) (GO Bf cap : Nat) (fa : Option Addr) (fc : Nat) (fs l : List Int) (w wr : World) (h : SSt S GO Bf fa fc fs l w wr) (hl : InB fs l) (hn : l.length ≤ 320) (a b : Nat) (hab : a ≤ b) (hb : b ≤ l.length) :
    Calls Tryd.prog 96 #[.slice (some ⟨GO, 0, none⟩) l.length cap, .int .i64 a, .int .i64 b, .func (.func 84) #[] #[.pointer (some ⟨Bf, 0, none⟩)]] wr fun e w' =>
      e = .returned (.tuple #[]) ∧ ∃ l', SSt S GO Bf fa fc fs l' w w' ∧ Seg a b l l' ∧ Srt (keyF fs) l' a b := by
  refine (ins_any S GO Bf cap a b fa fc fs l wr h.ord h.env.hG h.env.hSB h.env.hc h.env.hF hl hab hb hn).mono ?_
  rintro e w' ⟨rfl, hO, hK⟩
  obtain ⟨g1, g2⟩ := ins_block fs a b l hab hb
  exact ⟨rfl, _, h.go hK hO, g1, g2⟩
theorem sym_st (S : Nat → Prop) (GO Bf cap : Nat) (fa : Option Addr) (fc : Nat) (fs l : List Int) (w wr : World) (h : SSt S GO Bf fa fc fs l w wr) (hl : InB fs l) (hn : l.length ≤ 320) (a m b : Nat) (ham : a < m) (hmb : m < b) (hb : b ≤ l.length) (s1 : Srt (keyF fs) l a m) (s2 : Srt (keyF fs) l m b) :
    Calls Tryd.prog 97 #[.slice (some ⟨GO, 0, none⟩) l.length cap, .int .i64 a, .int .i64 m, .int .i64 b, .func (.func 84) #[] #[.pointer (some ⟨Bf, 0, none⟩)]] wr fun e w' =>
      e = .returned (.tuple #[]) ∧ ∃ l', SSt S GO Bf fa fc fs l' w w' ∧ Seg a b l l' ∧ Srt (keyF fs) l' a b := by
  refine (sym_any S GO Bf cap fa fc fs _ a m b l wr (Nat.le_refl _) h.env h.ord hl ham hmb hb (by omega) s1 s2).mono ?_
  rintro e w' ⟨rfl, l', hO, hg, hs, hK⟩
  exact ⟨rfl, _, h.go hK hO, hg, hs⟩

set_option maxRecDepth 100000 in
set_option maxHeartbeats 8000000 in
theorem stable_any (S : Nat → Prop) (GO Bf cap : Nat) (fa : Option Addr) (fc : Nat) (fs l : List Int) (w : World) (hE : SEnv S GO Bf fa fc fs w) (hO : OrdIn w GO l) (hl : InB fs l) (hn : l.length ≤ 320) :
    Calls Tryd.prog 89 #[.slice (some ⟨GO, 0, none⟩) l.length cap, .int .i64 l.length, .func (.func 84) #[] #[.pointer (some ⟨Bf, 0, none⟩)]] w fun e w' =>
      e = .returned (.tuple #[]) ∧ ∃ l', OrdIn w' GO l' ∧ l'.Perm l ∧ Srt (keyF fs) l' 0 l.length ∧ Kept (fun k => k ≠ GO) w w' := by
  obtain ⟨N, hN⟩ : ∃ N, l.length = N := ⟨_, rfl⟩
  have HST : Hid _ := SSt.start hE hO
  have HIB : Hid (InB fs l) := hl
  rw [hN] at hn ⊢
  clear hE hO hl
  go_enter Tryd.func89, Tryd.ntmps89
  go_wp2_with fail
  go_loopw [7, 8] (fun v7 v8 wr => ∃ (a b : Nat) (l1 : List Int), v7 = .int .i64 (a : Int) ∧ v8 = .int .i64 (b : Int) ∧ b = a + 20 ∧ a ≤ N ∧ Hid (20 ∣ a) ∧ Hid (l1.Perm l) ∧ Hid (∀ s, 20 ∣ s → s < a → Srt (keyF fs) l1 s (s + 20)) ∧ Hid (SSt S GO Bf fa fc fs l1 w wr)) (fun v7 _ _ => N - (intOf v7).toNat)
  case atStart => exact ⟨0, 20, l, rfl, rfl, rfl, by omega, ⟨0, rfl⟩, List.Perm.refl _, fun s _ h => by omega, HST⟩
  case round =>
    obtain ⟨a, b, l1, rfl, rfl, hb, haN, HD, HP, HB, HW⟩ := hrel
    clear HST
    have hl1 : l1.length = N := HP.out.length_eq.trans hN
    have HI1 : Hid (InB fs l1) := HIB.out.perm HP.out
    by_cases hlt : b ≤ N
    · have hltz : (b : Int) ≤ (N : Int) := by omega
      have HC : Hid _ := ins_st S GO Bf cap fa fc fs l1 w wr HW.out HI1.out (by omega) a b (by omega) (by omega)
      rw [hl1] at HC
      have HBE : Hid _ := hb
      clear hb
      go_wp2_with fail
      refine Calls.mono HC.out ?_
      rintro e w1 ⟨rfl, l2, hW2, hg, hs⟩
      clear HC
      have HW2 : Hid _ := hW2
      have HP2 : Hid (l2.Perm l) := hg.perm.trans HP.out
      have hb := HBE.out
      have HD2 : Hid (20 ∣ b) := by show 20 ∣ b; rw [hb]; exact Nat.dvd_add HD.out ⟨1, rfl⟩
      have HB2 : Hid (∀ s, 20 ∣ s → s < b → Srt (keyF fs) l2 s (s + 20)) := by
        intro s h1 h2
        by_cases c : s < a
        · have h3 := dvd_step h1 HD.out c
          exact (HB.out s h1 c).of_out (fun k _ k2 => hg.out k (.inl (by omega)))
        · have : ¬ a < s := fun h4 => by have := dvd_step HD.out h1 h4; omega
          obtain rfl : s = a := by omega
          rw [← hb]
          exact hs
      clear hb hW2 hg hs HB HD HP HW
      go_wp2
      exact ⟨⟨b, b + 20, l2, rfl, by simp, rfl, by omega, HD2, HP2, HB2, HW2⟩, by have := HBE.out; simp [intOf]; omega⟩
    · have hltz : ¬ (b : Int) ≤ (N : Int) := by omega
      have HC : Hid _ := ins_st S GO Bf cap fa fc fs l1 w wr HW.out HI1.out (by omega) a N haN (by omega)
      rw [hl1] at HC
      have HBE : Hid _ := hb
      clear hb
      go_wp2_with fail
      refine Calls.mono HC.out ?_
      rintro e w1 ⟨rfl, l2, hW2, hg, hs⟩
      clear HC
      have HW2 : Hid _ := hW2
      have HP2 : Hid (l2.Perm l) := hg.perm.trans HP.out
      have hb := HBE.out
      have HB2 : Hid (Blocks (keyF fs) 20 N l2) := by
        intro s h1
        by_cases c : s < a
        · have h3 := dvd_step h1 HD.out c
          rw [Nat.min_eq_left (by omega)]
          exact (HB.out s h1 c).of_out (fun k _ k2 => hg.out k (.inl (by omega)))
        · by_cases e : s = a
          · rw [e, Nat.min_eq_right (by omega)]
            exact hs
          · have h3 := dvd_step HD.out h1 (by omega)
            intro i j i1 i2 i3
            rw [Nat.min_eq_right (by omega)] at i3
            omega
      clear hb hW2 hg hs HB HD HP HW HI1 hl1
      go_wp2_with fail
      go_loopw [6] (fun v6 wr2 => ∃ (z : Nat) (l3 : List Int), v6 = .int .i64 (z : Int) ∧ 20 ≤ z ∧ z ≤ 640 ∧ Hid (l3.Perm l) ∧ Hid (Blocks (keyF fs) z N l3) ∧ Hid (SSt S GO Bf fa fc fs l3 w wr2)) (fun v6 _ => 640 - (intOf v6).toNat)
      case atStart => exact ⟨20, l2, rfl, by omega, by omega, HP2, HB2, HW2⟩
      case round =>
        obtain ⟨z, l3, rfl, z1, z2, HP3, HB3, HW3⟩ := hrel
        clear HP2 HB2 HW2
        by_cases hz : z < N
        · have hzz : (z : Int) < (N : Int) := by omega
          have hz320 : z < 320 := by omega
          have HH0 : Hid (Halfway (keyF fs) z (2 * z) N 0 l3) := ⟨fun s _ h => by omega, fun s h1 _ => HB3.out s h1⟩
          clear HB3
          go_wp2_with fail
          go_loopw [7, 8] (fun v7 v8 wr3 => ∃ (c d : Nat) (l4 : List Int), v7 = .int .i64 (c : Int) ∧ v8 = .int .i64 (d : Int) ∧ d = c + 2 * z ∧ c ≤ N ∧ Hid (2 * z ∣ c) ∧ Hid (l4.Perm l) ∧ Hid (Halfway (keyF fs) z (2 * z) N c l4) ∧ Hid (SSt S GO Bf fa fc fs l4 w wr3)) (fun v7 _ _ => N - (intOf v7).toNat)
          case atStart => exact ⟨0, 2 * z, l3, rfl, by simp, by omega, by omega, ⟨0, rfl⟩, HP3, HH0, HW3⟩
          case round =>
            obtain ⟨c, d, l4, rfl, rfl, hd, hcN, HD, HP4, HH, HW4⟩ := hrel
            clear HP3 HH0 HW3
            have hl4 : l4.length = N := HP4.out.length_eq.trans hN
            have HI4 : Hid (InB fs l4) := HIB.out.perm HP4.out
            have HZC : Hid (z ∣ c) := Nat.dvd_trans ⟨2, by omega⟩ HD.out
            by_cases hdN : d ≤ N
            · have hdz : (d : Int) ≤ (N : Int) := by omega
              have q1 : Srt (keyF fs) l4 c (c + z) := by
                have := HH.out.hi c HZC.out (Nat.le_refl _)
                rwa [Nat.min_eq_left (by omega)] at this
              have q2 : Srt (keyF fs) l4 (c + z) d := by
                have := HH.out.hi (c + z) (Nat.dvd_add HZC.out ⟨1, by omega⟩) (by omega)
                rwa [show min (c + z + z) N = d by omega] at this
              have HC : Hid _ := sym_st S GO Bf cap fa fc fs l4 w wr HW4.out HI4.out (by omega) c (c + z) d (by omega) (by omega) (by omega) q1 q2
              rw [hl4, Int.natCast_add] at HC
              have HDE : Hid _ := hd
              clear hd q1 q2
              go_wp2_with fail
              refine Calls.mono HC.out ?_
              rintro e w5 ⟨rfl, l5, hW5, hg, hs⟩
              clear HC
              have HW5 : Hid _ := hW5
              have HP5 : Hid (l5.Perm l) := hg.perm.trans HP4.out
              have hd := HDE.out
              have HD5 : Hid (2 * z ∣ d) := by show 2 * z ∣ d; rw [hd]; exact Nat.dvd_add HD.out ⟨1, by omega⟩
              have HH5 : Hid (Halfway (keyF fs) z (2 * z) N d l5) := by
                rw [hd] at hg hs ⊢
                exact HH.out.next HD.out hg hs
              clear hd hW5 hg hs HH HD HP4 HW4 HI4 hl4 HZC
              go_wp2
              exact ⟨⟨d, d + 2 * z, l5, rfl, congrArg (Value.int .i64) (by omega), rfl, by omega, HD5, HP5, HH5, HW5⟩, by have := HDE.out; simp [intOf]; omega⟩
            · have hdz : ¬ (d : Int) ≤ (N : Int) := by omega
              have HDE : Hid _ := hd
              by_cases hm : c + z < N
              · have hmz : (c : Int) + (z : Int) < (N : Int) := by omega
                have q1 : Srt (keyF fs) l4 c (c + z) := by
                  have := HH.out.hi c HZC.out (Nat.le_refl _)
                  rwa [Nat.min_eq_left (by omega)] at this
                have q2 : Srt (keyF fs) l4 (c + z) N := by
                  have := HH.out.hi (c + z) (Nat.dvd_add HZC.out ⟨1, by omega⟩) (by omega)
                  rwa [show min (c + z + z) N = N by omega] at this
                have HC : Hid _ := sym_st S GO Bf cap fa fc fs l4 w wr HW4.out HI4.out (by omega) c (c + z) N (by omega) (by omega) (by omega) q1 q2
                rw [hl4, Int.natCast_add] at HC
                clear hd q1 q2
                go_wp2_with fail
                refine Calls.mono HC.out ?_
                rintro e w5 ⟨rfl, l5, hW5, hg, hs⟩
                clear HC
                have HW5 : Hid _ := hW5
                have HP5 : Hid (l5.Perm l) := hg.perm.trans HP4.out
                have hd := HDE.out
                have HB5 : Hid (Blocks (keyF fs) (2 * z) N l5) := by
                  refine Halfway.done (z := z) (a := c) ⟨fun s s1 s2 => ?_, fun s s1 s2 => ?_⟩ HD.out hcN (by omega) hs
                  · have h3 := dvd_step s1 HD.out s2
                    exact (HH.out.lo s s1 s2).of_out (fun k _ k2 => hg.out k (.inl (by omega)))
                  · by_cases e1 : s = c
                    · rw [e1]
                      exact hs.sub (Nat.le_refl _) (by omega)
                    · exact hs.sub (by omega) (by omega)
                clear hd hW5 hg hs HH HD HP4 HW4 HI4 hl4 HZC
                go_wp2
                exact ⟨⟨2 * z, l5, congrArg (Value.int .i64) (by omega), by omega, by omega, HP5, HB5, HW5⟩, by simp [intOf]; omega⟩
              · have hmz : ¬ (c : Int) + (z : Int) < (N : Int) := by omega
                have HB5 : Hid (Blocks (keyF fs) (2 * z) N l4) := by
                  refine HH.out.done HD.out hcN (by omega) ?_
                  have := HH.out.hi c HZC.out (Nat.le_refl _)
                  rwa [Nat.min_eq_right (by omega)] at this
                clear hd HH HD HI4 hl4 HZC
                go_wp2
                exact ⟨⟨2 * z, l4, congrArg (Value.int .i64) (by omega), by omega, by omega, HP4, HB5, HW4⟩, by simp [intOf]; omega⟩
        · have hzz : ¬ (z : Int) < (N : Int) := by omega
          have HS : Hid (Srt (keyF fs) l3 0 N) := by
            have := HB3.out 0 ⟨0, rfl⟩
            rwa [show min (0 + z) N = N by omega] at this
          clear HB3
          go_wp2
          go_end0
          exact ⟨rfl, l3, HW3.out.ord, HP3.out, HS.out, HW3.out.kept⟩
set_option maxHeartbeats 1000000 in
theorem sort_any (S : Nat → Prop) (GO Bf cap : Nat) (fa : Option Addr) (fc : Nat) (fs l : List Int) (w : World) (hE : SEnv S GO Bf fa fc fs w) (hO : OrdIn w GO l) (hl : InB fs l) (hn : l.length ≤ 320) :
    Calls Tryd.prog 83 #[.slice (some ⟨GO, 0, none⟩) l.length cap, .func (.func 84) #[] #[.pointer (some ⟨Bf, 0, none⟩)]] w fun e w' =>
      e = .returned (.tuple #[]) ∧ ∃ l', OrdIn w' GO l' ∧ l'.Perm l ∧ Srt (keyF fs) l' 0 l.length ∧ Kept (fun k => k ≠ GO) w w' := by
  have HST : Hid _ := stable_any S GO Bf cap fa fc fs l w hE hO hl hn
  go_enter Tryd.func83, Tryd.ntmps83
  go_wp2_with fail
  refine Calls.mono HST.out ?_
  rintro e w1 ⟨rfl, h1⟩
  go_wp2
  go_end0
  exact ⟨rfl, h1⟩
end Go.Proofs.YtinbilbgipfemaaDoor
