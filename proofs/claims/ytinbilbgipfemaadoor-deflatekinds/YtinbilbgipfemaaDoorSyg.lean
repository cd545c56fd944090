import Derived.Test.YtinbilbgipfemaaDoorSyl
/- slices: two sorted stretches are merged in place: the whole. -/
namespace Go.Proofs.YtinbilbgipfemaaDoor
open Go.RowKit

/-- What merging says. -/
def SymSays (S : Nat → Prop) (GO Bf cap : Nat) (fa : Option Addr) (fc : Nat) (fs : List Int) (d : Nat) : Prop :=
  ∀ (a m b : Nat) (l : List Int) (w : World), b - a ≤ d → SEnv S GO Bf fa fc fs w → OrdIn w GO l → InB fs l → a < m → m < b → b ≤ l.length → l.length ≤ 100000 → Srt (keyF fs) l a m → Srt (keyF fs) l m b →
    Calls Tryd.prog 97 #[.slice (some ⟨GO, 0, none⟩) l.length cap, .int .i64 a, .int .i64 m, .int .i64 b, .func (.func 84) #[] #[.pointer (some ⟨Bf, 0, none⟩)]] w fun e w' =>
      e = .returned (.tuple #[]) ∧ ∃ l', OrdIn w' GO l' ∧ Seg a b l l' ∧ Srt (keyF fs) l' a b ∧ Kept (fun k => k ≠ GO) w w'

theorem half_srt {K : Int → Int} {l : List Int} {a st mid : Nat} (t1 : Srt K l a st) (t2 : Srt K l st mid) (h1 : a ≤ st) (h2 : st ≤ mid) (h : st ≤ a ∨ mid ≤ st) : Srt K l a mid := by
  rcases h with h | h
  · obtain rfl : a = st := by omega
    exact t2
  · obtain rfl : st = mid := by omega
    exact t1

set_option maxRecDepth 100000 in
set_option maxHeartbeats 16000000 in
theorem sym_gen (S : Nat → Prop) (GO Bf cap : Nat) (fa : Option Addr) (fc : Nat) (fs : List Int) (d : Nat) (ih : SymSays S GO Bf cap fa fc fs d) (a m b : Nat) (l : List Int) (w : World) (hd : b - a ≤ d + 1) (hE : SEnv S GO Bf fa fc fs w) (hO : OrdIn w GO l) (hl : InB fs l) (ham : a + 2 ≤ m) (hmb : m + 2 ≤ b) (hb : b ≤ l.length) (hn : l.length ≤ 100000) (s1 : Srt (keyF fs) l a m) (s2 : Srt (keyF fs) l m b) :
    Calls Tryd.prog 97 #[.slice (some ⟨GO, 0, none⟩) l.length cap, .int .i64 a, .int .i64 m, .int .i64 b, .func (.func 84) #[] #[.pointer (some ⟨Bf, 0, none⟩)]] w fun e w' =>
      e = .returned (.tuple #[]) ∧ ∃ l', OrdIn w' GO l' ∧ Seg a b l l' ∧ Srt (keyF fs) l' a b ∧ Kept (fun k => k ≠ GO) w w' := by
  have eg : ∀ args w, (callFunc 84 args).run Tryd.prog w = .ok (.enter 84 args) w := enters_of Tryd.func84 (by kernel_rfl) rfl
  have IH : Hid _ := ih
  have HS1 : Hid _ := s1
  have HS2 : Hid _ := s2
  have HST : Hid _ := SSt.start hE hO
  clear ih s1 s2 hE hO
  obtain ⟨mid, hmid⟩ : ∃ mid, mid = (a + b) / 2 := ⟨_, rfl⟩
  have hmz : ((a : Int) + (b : Int)) / 2 = (mid : Int) := by omega
  have HMZ : Hid _ := hmz
  have hma : 2 * mid ≤ a + b ∧ a + b ≤ 2 * mid + 1 := by omega
  clear hmid hmz
  have hda : ¬ (m : Int) - a = 1 := by omega
  have hdb : ¬ (b : Int) - m = 1 := by omega
  by_cases hcase : mid < m
  · have hmm : ((a : Int) + (b : Int)) / 2 < (m : Int) := by omega
    go_enter Tryd.func97, Tryd.ntmps97
    go_wp2_with fail
    rw [HMZ.out]
    obtain ⟨n, hnn⟩ : ∃ n, mid + m = n := ⟨_, rfl⟩
    obtain ⟨p, hpp⟩ : ∃ p, mid + m = p + 1 := ⟨mid + m - 1, by omega⟩
    rw [show (mid : Int) + (m : Int) - 1 = (p : Int) by omega, show (mid : Int) + (m : Int) = (n : Int) by omega]
    clear hmm
    obtain ⟨s0, hs0⟩ : ∃ s0, s0 + b = n := ⟨n - b, by omega⟩
    rw [show (n : Int) - (b : Int) = (s0 : Int) by omega]
    go_loopw [20, 21] (fun v20 v21 wr => ∃ (st r : Nat), v20 = .int .i64 (st : Int) ∧ v21 = .int .i64 (r : Int) ∧ s0 ≤ st ∧ st ≤ r ∧ r ≤ mid ∧ Hid (∀ c, s0 ≤ c → c < st → keyF fs (gt l c) ≤ keyF fs (gt l (p - c))) ∧ Hid (∀ c, r ≤ c → c < mid → keyF fs (gt l (p - c)) < keyF fs (gt l c)) ∧ Hid (SSt S GO Bf fa fc fs l w wr)) (fun v20 v21 _ => (intOf v21).toNat - (intOf v20).toNat)
    case atStart => exact ⟨s0, mid, rfl, rfl, by omega, by omega, by omega, fun h h1 h2 => by omega, fun h h1 h2 => by omega, HST⟩
    case round =>
      obtain ⟨st, r, rfl, rfl, i1, ij, jb, HL, HH, HW⟩ := hrel
      clear HST
      by_cases hij : st < r
      · obtain ⟨c, hh⟩ : ∃ c, c = (st + r) / 2 := ⟨_, rfl⟩
        obtain ⟨x, hr, hcmp⟩ := HW.out.env.cmp (hl.at (i := p - c) (by omega)) (hl.at (i := c) (by omega))
        have c1 := ord_gt HW.out.ord (i := p - c) (by omega)
        have c2 := ord_gt HW.out.ord (i := c) (by omega)
        have HR : Hid _ := hr
        obtain ⟨y, hy⟩ : ∃ y, gt l (p - c) = y := ⟨_, rfl⟩
        obtain ⟨z, hz⟩ : ∃ z, gt l c = z := ⟨_, rfl⟩
        rw [hy] at c1 hcmp
        rw [hz] at c2 hcmp
        clear hy hz
        have hpc0 : (0 : Int) ≤ (p : Int) - (c : Int) := by omega
        have hpcl : (p : Int) - (c : Int) < (l.length : Int) := by omega
        have hpct : ((p : Int) - (c : Int)).toNat = p - c := by omega
        have hcl : (c : Int) < (l.length : Int) := by omega
        have HHH : Hid _ := hh
        clear hr hh
        go_wp2
        rw [show ((st : Int) + (r : Int)) / 2 = (c : Int) by have := HHH.out; omega]
        by_cases hr0 : x < 0
        · go_quiet (first | (go_at_fn 84; refine Calls.quiet_of (hcmp _)))
          go_wp2
          have hh := HHH.out
          have hk := HR.out.1 hr0
          refine ⟨⟨st, c, rfl, rfl, i1, by omega, by omega, HL, fun v v1 v2 => ?_, HW.out.drewN _⟩, by simp [intOf]; omega⟩
          have e1 := HS1.out c v (by omega) v1 (by omega)
          have e2 := HS2.out (p - v) (p - c) (by omega) (by omega) (by omega)
          omega
        · go_quiet (first | (go_at_fn 84; refine Calls.quiet_of (hcmp _)))
          go_wp2
          have hh := HHH.out
          have hk : ¬ keyF fs (gt l (p - c)) < keyF fs (gt l c) := fun e => hr0 (HR.out.2 e)
          refine ⟨⟨c + 1, r, by simp, rfl, by omega, by omega, jb, fun v v1 v2 => ?_, HH, HW.out.drewN _⟩, by simp [intOf]; omega⟩
          have e1 := HS1.out v c (by omega) (by omega) (by omega)
          have e2 := HS2.out (p - c) (p - v) (by omega) (by omega) (by omega)
          omega
      · obtain rfl : st = r := by omega
        obtain ⟨e, hee⟩ : ∃ e, st + e = n := ⟨n - st, by omega⟩
        have hez : (n : Int) - (st : Int) = (e : Int) := by omega
        have HEZ : Hid _ := hez
        have hst : a ≤ st ∧ st ≤ m ∧ m ≤ e ∧ e ≤ b ∧ st ≤ mid := by omega
        have HC1 : Hid (a < st → e < b → keyF fs (gt l (st - 1)) ≤ keyF fs (gt l e)) := fun h1 h2 => by
          have := HL.out (st - 1) (by omega) (by omega)
          rwa [show p - (st - 1) = e by omega] at this
        have HC2 : Hid (st < m → m < e → keyF fs (gt l (e - 1)) ≤ keyF fs (gt l st)) := fun h1 h2 => by
          have := HH.out st (by omega) (by omega)
          rw [show p - st = e - 1 by omega] at this
          omega
        clear hez HL HH
        have hrot : ∀ l1, Rot st m e l l1 → _ := fun l1 h => rot_parts (mid := mid) h HS1.out HS2.out hst.1 hst.2.1 hst.2.2.1 hst.2.2.2.1 (by omega) HC1.out HC2.out
        have HROT : Hid _ := hrot
        clear hrot HC1 HC2
        by_cases k1 : st < m
        · by_cases k2 : m < e
          · have k1z : (st : Int) < (m : Int) := by omega
            have k2z : (m : Int) < (e : Int) := by omega
            have HC : Hid _ := rotate_any GO cap st m e (.func (.func 84) #[] #[.pointer (some ⟨Bf, 0, none⟩)]) l wr HW.out.ord k1 k2 (by omega) hn
            have k2y : (m : Int) < (n : Int) - (st : Int) := by omega
            go_wp2_with fail
            rw [HEZ.out]
            refine Calls.mono HC.out ?_
            rintro x1 w1 ⟨rfl, l1, hO1, hR1, hK1⟩
            clear HC k2y
            have HW1 : Hid _ := HW.out.go hK1 hO1
            have HR1 : Hid _ := hR1
            have hl1 := hR1.perm.length_eq
            clear hO1 hK1 hR1 HW
            obtain ⟨t1, t2, t3, t4, t5⟩ := HROT.out _ HR1.out
            have T1 : Hid _ := t1
            have T2 : Hid _ := t2
            have T3 : Hid _ := t3
            have T4 : Hid _ := t4
            have T5 : Hid _ := t5
            clear t1 t2 t3 t4 t5 HROT
            by_cases k3 : a < st
            · have k3z : (a : Int) < (st : Int) := by omega
              by_cases k4 : st < mid
              · have k4z : (st : Int) < (mid : Int) := by omega
                have HC : Hid _ := IH.out a st mid l1 w1 (by omega) HW1.out.env HW1.out.ord (hl.perm HR1.out.perm) k3 k4 (by rw [hl1]; omega) (by rw [hl1]; omega) T1.out T2.out
                rw [hl1] at HC
                go_wp2_with fail
                refine Calls.mono HC.out ?_
                rintro x2 w2 ⟨rfl, l2, hO2, hG2, hS2, hK2⟩
                clear HC
                have HW2 : Hid _ := HW1.out.go hK2 hO2
                have HG2 : Hid _ := hG2
                have HT2 : Hid _ := hS2
                have hl2 := hG2.perm.length_eq
                clear hO2 hK2 hG2 hS2
                have hlc : l2.length = l.length := hl2.trans hl1
                have T3' : Hid (Srt (keyF fs) l2 mid e) := Srt.of_out T3.out (fun k z1 z2 => HG2.out.out k (.inr z1))
                have T4' : Hid (Srt (keyF fs) l2 e b) := Srt.of_out T4.out (fun k z1 z2 => HG2.out.out k (.inr (by omega)))
                have HP : Hid (InB fs l2) := hl.perm (HG2.out.perm.trans HR1.out.perm)
                have HSG : Hid (Seg a b l l2) := ((HR1.out.seg (by omega) (by omega)).mono (by omega) (by omega)).trans (HG2.out.mono (Nat.le_refl _) (by omega))
                by_cases k5 : mid < e
                · have k5z : (mid : Int) < (n : Int) - (st : Int) := by omega
                  by_cases k6 : e < b
                  · have k6z : (n : Int) - (st : Int) < (b : Int) := by omega
                    have k5y : (mid : Int) < (e : Int) := by omega
                    have k6y : (e : Int) < (b : Int) := by omega
                    have HC : Hid _ := IH.out mid e b l2 w2 (by omega) HW2.out.env HW2.out.ord HP.out k5 k6 (by rw [hlc]; omega) (by rw [hlc]; omega) T3'.out T4'.out
                    rw [hlc] at HC
                    go_wp2_with fail
                    try rw [HEZ.out]
                    refine Calls.mono HC.out ?_
                    rintro x3 w3 ⟨rfl, l3, hO3, hG3, hS3, hK3⟩
                    clear HC
                    have HW3 : Hid _ := HW2.out.go hK3 hO3
                    have HS3 : Hid _ := merge_end T5.out HG2.out HT2.out hG3 hS3
                    have HG3 : Hid _ := HSG.out.trans (hG3.mono (by omega) (Nat.le_refl _))
                    clear hO3 hK3 hG3 hS3
                    go_wp2
                    all_goals (go_end0; exact ⟨rfl, l3, HW3.out.ord, HG3.out, HS3.out, HW3.out.kept⟩)
                  · have k6z : ¬ (n : Int) - (st : Int) < (b : Int) := by omega
                    have k6y : ¬ (e : Int) < (b : Int) := by omega
                    have k5y : (mid : Int) < (e : Int) := by omega
                    have HS3 : Hid _ := merge_end T5.out HG2.out HT2.out (Seg.refl mid b l2) (half_srt T3'.out T4'.out (by omega) (by omega) (.inr (by omega)))
                    go_wp2
                    all_goals (go_end0; exact ⟨rfl, l2, HW2.out.ord, HSG.out, HS3.out, HW2.out.kept⟩)
                · have k5z : ¬ (mid : Int) < (n : Int) - (st : Int) := by omega
                  have k5y : ¬ (mid : Int) < (e : Int) := by omega
                  have HS3 : Hid _ := merge_end T5.out HG2.out HT2.out (Seg.refl mid b l2) (half_srt T3'.out T4'.out (by omega) (by omega) (.inl (by omega)))
                  go_wp2
                  all_goals (go_end0; exact ⟨rfl, l2, HW2.out.ord, HSG.out, HS3.out, HW2.out.kept⟩)
              · have k4z : ¬ (st : Int) < (mid : Int) := by omega
                have HG2 : Hid (Seg a mid l1 l1) := Seg.refl _ _ _
                have HT2 : Hid (Srt (keyF fs) l1 a mid) := half_srt T1.out T2.out (by omega) (by omega) (.inr (by omega))
                have hlc : l1.length = l.length := hl1
                have T3' : Hid (Srt (keyF fs) l1 mid e) := Srt.of_out T3.out (fun k z1 z2 => HG2.out.out k (.inr z1))
                have T4' : Hid (Srt (keyF fs) l1 e b) := Srt.of_out T4.out (fun k z1 z2 => HG2.out.out k (.inr (by omega)))
                have HP : Hid (InB fs l1) := hl.perm (HG2.out.perm.trans HR1.out.perm)
                have HSG : Hid (Seg a b l l1) := ((HR1.out.seg (by omega) (by omega)).mono (by omega) (by omega)).trans (HG2.out.mono (Nat.le_refl _) (by omega))
                by_cases k5 : mid < e
                · have k5z : (mid : Int) < (n : Int) - (st : Int) := by omega
                  by_cases k6 : e < b
                  · have k6z : (n : Int) - (st : Int) < (b : Int) := by omega
                    have k5y : (mid : Int) < (e : Int) := by omega
                    have k6y : (e : Int) < (b : Int) := by omega
                    have HC : Hid _ := IH.out mid e b l1 w1 (by omega) HW1.out.env HW1.out.ord HP.out k5 k6 (by rw [hlc]; omega) (by rw [hlc]; omega) T3'.out T4'.out
                    rw [hlc] at HC
                    go_wp2_with fail
                    try rw [HEZ.out]
                    refine Calls.mono HC.out ?_
                    rintro x3 w3 ⟨rfl, l3, hO3, hG3, hS3, hK3⟩
                    clear HC
                    have HW3 : Hid _ := HW1.out.go hK3 hO3
                    have HS3 : Hid _ := merge_end T5.out HG2.out HT2.out hG3 hS3
                    have HG3 : Hid _ := HSG.out.trans (hG3.mono (by omega) (Nat.le_refl _))
                    clear hO3 hK3 hG3 hS3
                    go_wp2
                    all_goals (go_end0; exact ⟨rfl, l3, HW3.out.ord, HG3.out, HS3.out, HW3.out.kept⟩)
                  · have k6z : ¬ (n : Int) - (st : Int) < (b : Int) := by omega
                    have k6y : ¬ (e : Int) < (b : Int) := by omega
                    have k5y : (mid : Int) < (e : Int) := by omega
                    have HS3 : Hid _ := merge_end T5.out HG2.out HT2.out (Seg.refl mid b l1) (half_srt T3'.out T4'.out (by omega) (by omega) (.inr (by omega)))
                    go_wp2
                    all_goals (go_end0; exact ⟨rfl, l1, HW1.out.ord, HSG.out, HS3.out, HW1.out.kept⟩)
                · have k5z : ¬ (mid : Int) < (n : Int) - (st : Int) := by omega
                  have k5y : ¬ (mid : Int) < (e : Int) := by omega
                  have HS3 : Hid _ := merge_end T5.out HG2.out HT2.out (Seg.refl mid b l1) (half_srt T3'.out T4'.out (by omega) (by omega) (.inl (by omega)))
                  go_wp2
                  all_goals (go_end0; exact ⟨rfl, l1, HW1.out.ord, HSG.out, HS3.out, HW1.out.kept⟩)
            · have k3z : ¬ (a : Int) < (st : Int) := by omega
              have HG2 : Hid (Seg a mid l1 l1) := Seg.refl _ _ _
              have HT2 : Hid (Srt (keyF fs) l1 a mid) := half_srt T1.out T2.out (by omega) (by omega) (.inl (by omega))
              have hlc : l1.length = l.length := hl1
              have T3' : Hid (Srt (keyF fs) l1 mid e) := Srt.of_out T3.out (fun k z1 z2 => HG2.out.out k (.inr z1))
              have T4' : Hid (Srt (keyF fs) l1 e b) := Srt.of_out T4.out (fun k z1 z2 => HG2.out.out k (.inr (by omega)))
              have HP : Hid (InB fs l1) := hl.perm (HG2.out.perm.trans HR1.out.perm)
              have HSG : Hid (Seg a b l l1) := ((HR1.out.seg (by omega) (by omega)).mono (by omega) (by omega)).trans (HG2.out.mono (Nat.le_refl _) (by omega))
              by_cases k5 : mid < e
              · have k5z : (mid : Int) < (n : Int) - (st : Int) := by omega
                by_cases k6 : e < b
                · have k6z : (n : Int) - (st : Int) < (b : Int) := by omega
                  have k5y : (mid : Int) < (e : Int) := by omega
                  have k6y : (e : Int) < (b : Int) := by omega
                  have HC : Hid _ := IH.out mid e b l1 w1 (by omega) HW1.out.env HW1.out.ord HP.out k5 k6 (by rw [hlc]; omega) (by rw [hlc]; omega) T3'.out T4'.out
                  rw [hlc] at HC
                  go_wp2_with fail
                  try rw [HEZ.out]
                  refine Calls.mono HC.out ?_
                  rintro x3 w3 ⟨rfl, l3, hO3, hG3, hS3, hK3⟩
                  clear HC
                  have HW3 : Hid _ := HW1.out.go hK3 hO3
                  have HS3 : Hid _ := merge_end T5.out HG2.out HT2.out hG3 hS3
                  have HG3 : Hid _ := HSG.out.trans (hG3.mono (by omega) (Nat.le_refl _))
                  clear hO3 hK3 hG3 hS3
                  go_wp2
                  all_goals (go_end0; exact ⟨rfl, l3, HW3.out.ord, HG3.out, HS3.out, HW3.out.kept⟩)
                · have k6z : ¬ (n : Int) - (st : Int) < (b : Int) := by omega
                  have k6y : ¬ (e : Int) < (b : Int) := by omega
                  have k5y : (mid : Int) < (e : Int) := by omega
                  have HS3 : Hid _ := merge_end T5.out HG2.out HT2.out (Seg.refl mid b l1) (half_srt T3'.out T4'.out (by omega) (by omega) (.inr (by omega)))
                  go_wp2
                  all_goals (go_end0; exact ⟨rfl, l1, HW1.out.ord, HSG.out, HS3.out, HW1.out.kept⟩)
              · have k5z : ¬ (mid : Int) < (n : Int) - (st : Int) := by omega
                have k5y : ¬ (mid : Int) < (e : Int) := by omega
                have HS3 : Hid _ := merge_end T5.out HG2.out HT2.out (Seg.refl mid b l1) (half_srt T3'.out T4'.out (by omega) (by omega) (.inl (by omega)))
                go_wp2
                all_goals (go_end0; exact ⟨rfl, l1, HW1.out.ord, HSG.out, HS3.out, HW1.out.kept⟩)
          · have k1z : (st : Int) < (m : Int) := by omega
            have k2z : ¬ (m : Int) < (n : Int) - (st : Int) := by omega
            have HR1 : Hid (Rot st m e l l) := Rot.same l (.inr (by omega)) (by omega) (by omega)
            obtain ⟨t1, t2, t3, t4, t5⟩ := HROT.out _ HR1.out
            have T1 : Hid _ := t1
            have T2 : Hid _ := t2
            have T3 : Hid _ := t3
            have T4 : Hid _ := t4
            have T5 : Hid _ := t5
            clear t1 t2 t3 t4 t5 HROT
            by_cases k3 : a < st
            · have k3z : (a : Int) < (st : Int) := by omega
              by_cases k4 : st < mid
              · have k4z : (st : Int) < (mid : Int) := by omega
                have HC : Hid _ := IH.out a st mid l wr (by omega) HW.out.env HW.out.ord (hl.perm HR1.out.perm) k3 k4 (by omega) (by omega) T1.out T2.out
                have hl1 : True := trivial
                go_wp2_with fail
                refine Calls.mono HC.out ?_
                rintro x2 w2 ⟨rfl, l2, hO2, hG2, hS2, hK2⟩
                clear HC
                have HW2 : Hid _ := HW.out.go hK2 hO2
                have HG2 : Hid _ := hG2
                have HT2 : Hid _ := hS2
                have hl2 := hG2.perm.length_eq
                clear hO2 hK2 hG2 hS2
                have hlc : l2.length = l.length := hl2
                have T3' : Hid (Srt (keyF fs) l2 mid e) := Srt.of_out T3.out (fun k z1 z2 => HG2.out.out k (.inr z1))
                have T4' : Hid (Srt (keyF fs) l2 e b) := Srt.of_out T4.out (fun k z1 z2 => HG2.out.out k (.inr (by omega)))
                have HP : Hid (InB fs l2) := hl.perm (HG2.out.perm.trans HR1.out.perm)
                have HSG : Hid (Seg a b l l2) := ((HR1.out.seg (by omega) (by omega)).mono (by omega) (by omega)).trans (HG2.out.mono (Nat.le_refl _) (by omega))
                by_cases k5 : mid < e
                · have k5z : (mid : Int) < (n : Int) - (st : Int) := by omega
                  by_cases k6 : e < b
                  · have k6z : (n : Int) - (st : Int) < (b : Int) := by omega
                    have k5y : (mid : Int) < (e : Int) := by omega
                    have k6y : (e : Int) < (b : Int) := by omega
                    have HC : Hid _ := IH.out mid e b l2 w2 (by omega) HW2.out.env HW2.out.ord HP.out k5 k6 (by rw [hlc]; omega) (by rw [hlc]; omega) T3'.out T4'.out
                    rw [hlc] at HC
                    go_wp2_with fail
                    try rw [HEZ.out]
                    refine Calls.mono HC.out ?_
                    rintro x3 w3 ⟨rfl, l3, hO3, hG3, hS3, hK3⟩
                    clear HC
                    have HW3 : Hid _ := HW2.out.go hK3 hO3
                    have HS3 : Hid _ := merge_end T5.out HG2.out HT2.out hG3 hS3
                    have HG3 : Hid _ := HSG.out.trans (hG3.mono (by omega) (Nat.le_refl _))
                    clear hO3 hK3 hG3 hS3
                    go_wp2
                    all_goals (go_end0; exact ⟨rfl, l3, HW3.out.ord, HG3.out, HS3.out, HW3.out.kept⟩)
                  · have k6z : ¬ (n : Int) - (st : Int) < (b : Int) := by omega
                    have k6y : ¬ (e : Int) < (b : Int) := by omega
                    have k5y : (mid : Int) < (e : Int) := by omega
                    have HS3 : Hid _ := merge_end T5.out HG2.out HT2.out (Seg.refl mid b l2) (half_srt T3'.out T4'.out (by omega) (by omega) (.inr (by omega)))
                    go_wp2
                    all_goals (go_end0; exact ⟨rfl, l2, HW2.out.ord, HSG.out, HS3.out, HW2.out.kept⟩)
                · have k5z : ¬ (mid : Int) < (n : Int) - (st : Int) := by omega
                  have k5y : ¬ (mid : Int) < (e : Int) := by omega
                  have HS3 : Hid _ := merge_end T5.out HG2.out HT2.out (Seg.refl mid b l2) (half_srt T3'.out T4'.out (by omega) (by omega) (.inl (by omega)))
                  go_wp2
                  all_goals (go_end0; exact ⟨rfl, l2, HW2.out.ord, HSG.out, HS3.out, HW2.out.kept⟩)
              · have k4z : ¬ (st : Int) < (mid : Int) := by omega
                have HG2 : Hid (Seg a mid l l) := Seg.refl _ _ _
                have HT2 : Hid (Srt (keyF fs) l a mid) := half_srt T1.out T2.out (by omega) (by omega) (.inr (by omega))
                have hlc : l.length = l.length := rfl
                have T3' : Hid (Srt (keyF fs) l mid e) := Srt.of_out T3.out (fun k z1 z2 => HG2.out.out k (.inr z1))
                have T4' : Hid (Srt (keyF fs) l e b) := Srt.of_out T4.out (fun k z1 z2 => HG2.out.out k (.inr (by omega)))
                have HP : Hid (InB fs l) := hl.perm (HG2.out.perm.trans HR1.out.perm)
                have HSG : Hid (Seg a b l l) := ((HR1.out.seg (by omega) (by omega)).mono (by omega) (by omega)).trans (HG2.out.mono (Nat.le_refl _) (by omega))
                by_cases k5 : mid < e
                · have k5z : (mid : Int) < (n : Int) - (st : Int) := by omega
                  by_cases k6 : e < b
                  · have k6z : (n : Int) - (st : Int) < (b : Int) := by omega
                    have k5y : (mid : Int) < (e : Int) := by omega
                    have k6y : (e : Int) < (b : Int) := by omega
                    have HC : Hid _ := IH.out mid e b l wr (by omega) HW.out.env HW.out.ord HP.out k5 k6 (by rw [hlc]; omega) (by rw [hlc]; omega) T3'.out T4'.out
                    rw [hlc] at HC
                    go_wp2_with fail
                    try rw [HEZ.out]
                    refine Calls.mono HC.out ?_
                    rintro x3 w3 ⟨rfl, l3, hO3, hG3, hS3, hK3⟩
                    clear HC
                    have HW3 : Hid _ := HW.out.go hK3 hO3
                    have HS3 : Hid _ := merge_end T5.out HG2.out HT2.out hG3 hS3
                    have HG3 : Hid _ := HSG.out.trans (hG3.mono (by omega) (Nat.le_refl _))
                    clear hO3 hK3 hG3 hS3
                    go_wp2
                    all_goals (go_end0; exact ⟨rfl, l3, HW3.out.ord, HG3.out, HS3.out, HW3.out.kept⟩)
                  · have k6z : ¬ (n : Int) - (st : Int) < (b : Int) := by omega
                    have k6y : ¬ (e : Int) < (b : Int) := by omega
                    have k5y : (mid : Int) < (e : Int) := by omega
                    have HS3 : Hid _ := merge_end T5.out HG2.out HT2.out (Seg.refl mid b l) (half_srt T3'.out T4'.out (by omega) (by omega) (.inr (by omega)))
                    go_wp2
                    all_goals (go_end0; exact ⟨rfl, l, HW.out.ord, HSG.out, HS3.out, HW.out.kept⟩)
                · have k5z : ¬ (mid : Int) < (n : Int) - (st : Int) := by omega
                  have k5y : ¬ (mid : Int) < (e : Int) := by omega
                  have HS3 : Hid _ := merge_end T5.out HG2.out HT2.out (Seg.refl mid b l) (half_srt T3'.out T4'.out (by omega) (by omega) (.inl (by omega)))
                  go_wp2
                  all_goals (go_end0; exact ⟨rfl, l, HW.out.ord, HSG.out, HS3.out, HW.out.kept⟩)
            · have k3z : ¬ (a : Int) < (st : Int) := by omega
              have HG2 : Hid (Seg a mid l l) := Seg.refl _ _ _
              have HT2 : Hid (Srt (keyF fs) l a mid) := half_srt T1.out T2.out (by omega) (by omega) (.inl (by omega))
              have hlc : l.length = l.length := rfl
              have T3' : Hid (Srt (keyF fs) l mid e) := Srt.of_out T3.out (fun k z1 z2 => HG2.out.out k (.inr z1))
              have T4' : Hid (Srt (keyF fs) l e b) := Srt.of_out T4.out (fun k z1 z2 => HG2.out.out k (.inr (by omega)))
              have HP : Hid (InB fs l) := hl.perm (HG2.out.perm.trans HR1.out.perm)
              have HSG : Hid (Seg a b l l) := ((HR1.out.seg (by omega) (by omega)).mono (by omega) (by omega)).trans (HG2.out.mono (Nat.le_refl _) (by omega))
              by_cases k5 : mid < e
              · have k5z : (mid : Int) < (n : Int) - (st : Int) := by omega
                by_cases k6 : e < b
                · have k6z : (n : Int) - (st : Int) < (b : Int) := by omega
                  have k5y : (mid : Int) < (e : Int) := by omega
                  have k6y : (e : Int) < (b : Int) := by omega
                  have HC : Hid _ := IH.out mid e b l wr (by omega) HW.out.env HW.out.ord HP.out k5 k6 (by rw [hlc]; omega) (by rw [hlc]; omega) T3'.out T4'.out
                  rw [hlc] at HC
                  go_wp2_with fail
                  try rw [HEZ.out]
                  refine Calls.mono HC.out ?_
                  rintro x3 w3 ⟨rfl, l3, hO3, hG3, hS3, hK3⟩
                  clear HC
                  have HW3 : Hid _ := HW.out.go hK3 hO3
                  have HS3 : Hid _ := merge_end T5.out HG2.out HT2.out hG3 hS3
                  have HG3 : Hid _ := HSG.out.trans (hG3.mono (by omega) (Nat.le_refl _))
                  clear hO3 hK3 hG3 hS3
                  go_wp2
                  all_goals (go_end0; exact ⟨rfl, l3, HW3.out.ord, HG3.out, HS3.out, HW3.out.kept⟩)
                · have k6z : ¬ (n : Int) - (st : Int) < (b : Int) := by omega
                  have k6y : ¬ (e : Int) < (b : Int) := by omega
                  have k5y : (mid : Int) < (e : Int) := by omega
                  have HS3 : Hid _ := merge_end T5.out HG2.out HT2.out (Seg.refl mid b l) (half_srt T3'.out T4'.out (by omega) (by omega) (.inr (by omega)))
                  go_wp2
                  all_goals (go_end0; exact ⟨rfl, l, HW.out.ord, HSG.out, HS3.out, HW.out.kept⟩)
              · have k5z : ¬ (mid : Int) < (n : Int) - (st : Int) := by omega
                have k5y : ¬ (mid : Int) < (e : Int) := by omega
                have HS3 : Hid _ := merge_end T5.out HG2.out HT2.out (Seg.refl mid b l) (half_srt T3'.out T4'.out (by omega) (by omega) (.inl (by omega)))
                go_wp2
                all_goals (go_end0; exact ⟨rfl, l, HW.out.ord, HSG.out, HS3.out, HW.out.kept⟩)
        · have k1z : ¬ (st : Int) < (m : Int) := by omega
          have HR1 : Hid (Rot st m e l l) := Rot.same l (.inl (by omega)) (by omega) (by omega)
          obtain ⟨t1, t2, t3, t4, t5⟩ := HROT.out _ HR1.out
          have T1 : Hid _ := t1
          have T2 : Hid _ := t2
          have T3 : Hid _ := t3
          have T4 : Hid _ := t4
          have T5 : Hid _ := t5
          clear t1 t2 t3 t4 t5 HROT
          by_cases k3 : a < st
          · have k3z : (a : Int) < (st : Int) := by omega
            by_cases k4 : st < mid
            · have k4z : (st : Int) < (mid : Int) := by omega
              have HC : Hid _ := IH.out a st mid l wr (by omega) HW.out.env HW.out.ord (hl.perm HR1.out.perm) k3 k4 (by omega) (by omega) T1.out T2.out
              have hl1 : True := trivial
              go_wp2_with fail
              refine Calls.mono HC.out ?_
              rintro x2 w2 ⟨rfl, l2, hO2, hG2, hS2, hK2⟩
              clear HC
              have HW2 : Hid _ := HW.out.go hK2 hO2
              have HG2 : Hid _ := hG2
              have HT2 : Hid _ := hS2
              have hl2 := hG2.perm.length_eq
              clear hO2 hK2 hG2 hS2
              have hlc : l2.length = l.length := hl2
              have T3' : Hid (Srt (keyF fs) l2 mid e) := Srt.of_out T3.out (fun k z1 z2 => HG2.out.out k (.inr z1))
              have T4' : Hid (Srt (keyF fs) l2 e b) := Srt.of_out T4.out (fun k z1 z2 => HG2.out.out k (.inr (by omega)))
              have HP : Hid (InB fs l2) := hl.perm (HG2.out.perm.trans HR1.out.perm)
              have HSG : Hid (Seg a b l l2) := ((HR1.out.seg (by omega) (by omega)).mono (by omega) (by omega)).trans (HG2.out.mono (Nat.le_refl _) (by omega))
              by_cases k5 : mid < e
              · have k5z : (mid : Int) < (n : Int) - (st : Int) := by omega
                by_cases k6 : e < b
                · have k6z : (n : Int) - (st : Int) < (b : Int) := by omega
                  have k5y : (mid : Int) < (e : Int) := by omega
                  have k6y : (e : Int) < (b : Int) := by omega
                  have HC : Hid _ := IH.out mid e b l2 w2 (by omega) HW2.out.env HW2.out.ord HP.out k5 k6 (by rw [hlc]; omega) (by rw [hlc]; omega) T3'.out T4'.out
                  rw [hlc] at HC
                  go_wp2_with fail
                  try rw [HEZ.out]
                  refine Calls.mono HC.out ?_
                  rintro x3 w3 ⟨rfl, l3, hO3, hG3, hS3, hK3⟩
                  clear HC
                  have HW3 : Hid _ := HW2.out.go hK3 hO3
                  have HS3 : Hid _ := merge_end T5.out HG2.out HT2.out hG3 hS3
                  have HG3 : Hid _ := HSG.out.trans (hG3.mono (by omega) (Nat.le_refl _))
                  clear hO3 hK3 hG3 hS3
                  go_wp2
                  all_goals (go_end0; exact ⟨rfl, l3, HW3.out.ord, HG3.out, HS3.out, HW3.out.kept⟩)
                · have k6z : ¬ (n : Int) - (st : Int) < (b : Int) := by omega
                  have k6y : ¬ (e : Int) < (b : Int) := by omega
                  have k5y : (mid : Int) < (e : Int) := by omega
                  have HS3 : Hid _ := merge_end T5.out HG2.out HT2.out (Seg.refl mid b l2) (half_srt T3'.out T4'.out (by omega) (by omega) (.inr (by omega)))
                  go_wp2
                  all_goals (go_end0; exact ⟨rfl, l2, HW2.out.ord, HSG.out, HS3.out, HW2.out.kept⟩)
              · have k5z : ¬ (mid : Int) < (n : Int) - (st : Int) := by omega
                have k5y : ¬ (mid : Int) < (e : Int) := by omega
                have HS3 : Hid _ := merge_end T5.out HG2.out HT2.out (Seg.refl mid b l2) (half_srt T3'.out T4'.out (by omega) (by omega) (.inl (by omega)))
                go_wp2
                all_goals (go_end0; exact ⟨rfl, l2, HW2.out.ord, HSG.out, HS3.out, HW2.out.kept⟩)
            · have k4z : ¬ (st : Int) < (mid : Int) := by omega
              have HG2 : Hid (Seg a mid l l) := Seg.refl _ _ _
              have HT2 : Hid (Srt (keyF fs) l a mid) := half_srt T1.out T2.out (by omega) (by omega) (.inr (by omega))
              have hlc : l.length = l.length := rfl
              have T3' : Hid (Srt (keyF fs) l mid e) := Srt.of_out T3.out (fun k z1 z2 => HG2.out.out k (.inr z1))
              have T4' : Hid (Srt (keyF fs) l e b) := Srt.of_out T4.out (fun k z1 z2 => HG2.out.out k (.inr (by omega)))
              have HP : Hid (InB fs l) := hl.perm (HG2.out.perm.trans HR1.out.perm)
              have HSG : Hid (Seg a b l l) := ((HR1.out.seg (by omega) (by omega)).mono (by omega) (by omega)).trans (HG2.out.mono (Nat.le_refl _) (by omega))
              by_cases k5 : mid < e
              · have k5z : (mid : Int) < (n : Int) - (st : Int) := by omega
                by_cases k6 : e < b
                · have k6z : (n : Int) - (st : Int) < (b : Int) := by omega
                  have k5y : (mid : Int) < (e : Int) := by omega
                  have k6y : (e : Int) < (b : Int) := by omega
                  have HC : Hid _ := IH.out mid e b l wr (by omega) HW.out.env HW.out.ord HP.out k5 k6 (by rw [hlc]; omega) (by rw [hlc]; omega) T3'.out T4'.out
                  rw [hlc] at HC
                  go_wp2_with fail
                  try rw [HEZ.out]
                  refine Calls.mono HC.out ?_
                  rintro x3 w3 ⟨rfl, l3, hO3, hG3, hS3, hK3⟩
                  clear HC
                  have HW3 : Hid _ := HW.out.go hK3 hO3
                  have HS3 : Hid _ := merge_end T5.out HG2.out HT2.out hG3 hS3
                  have HG3 : Hid _ := HSG.out.trans (hG3.mono (by omega) (Nat.le_refl _))
                  clear hO3 hK3 hG3 hS3
                  go_wp2
                  all_goals (go_end0; exact ⟨rfl, l3, HW3.out.ord, HG3.out, HS3.out, HW3.out.kept⟩)
                · have k6z : ¬ (n : Int) - (st : Int) < (b : Int) := by omega
                  have k6y : ¬ (e : Int) < (b : Int) := by omega
                  have k5y : (mid : Int) < (e : Int) := by omega
                  have HS3 : Hid _ := merge_end T5.out HG2.out HT2.out (Seg.refl mid b l) (half_srt T3'.out T4'.out (by omega) (by omega) (.inr (by omega)))
                  go_wp2
                  all_goals (go_end0; exact ⟨rfl, l, HW.out.ord, HSG.out, HS3.out, HW.out.kept⟩)
              · have k5z : ¬ (mid : Int) < (n : Int) - (st : Int) := by omega
                have k5y : ¬ (mid : Int) < (e : Int) := by omega
                have HS3 : Hid _ := merge_end T5.out HG2.out HT2.out (Seg.refl mid b l) (half_srt T3'.out T4'.out (by omega) (by omega) (.inl (by omega)))
                go_wp2
                all_goals (go_end0; exact ⟨rfl, l, HW.out.ord, HSG.out, HS3.out, HW.out.kept⟩)
          · have k3z : ¬ (a : Int) < (st : Int) := by omega
            have HG2 : Hid (Seg a mid l l) := Seg.refl _ _ _
            have HT2 : Hid (Srt (keyF fs) l a mid) := half_srt T1.out T2.out (by omega) (by omega) (.inl (by omega))
            have hlc : l.length = l.length := rfl
            have T3' : Hid (Srt (keyF fs) l mid e) := Srt.of_out T3.out (fun k z1 z2 => HG2.out.out k (.inr z1))
            have T4' : Hid (Srt (keyF fs) l e b) := Srt.of_out T4.out (fun k z1 z2 => HG2.out.out k (.inr (by omega)))
            have HP : Hid (InB fs l) := hl.perm (HG2.out.perm.trans HR1.out.perm)
            have HSG : Hid (Seg a b l l) := ((HR1.out.seg (by omega) (by omega)).mono (by omega) (by omega)).trans (HG2.out.mono (Nat.le_refl _) (by omega))
            by_cases k5 : mid < e
            · have k5z : (mid : Int) < (n : Int) - (st : Int) := by omega
              by_cases k6 : e < b
              · have k6z : (n : Int) - (st : Int) < (b : Int) := by omega
                have k5y : (mid : Int) < (e : Int) := by omega
                have k6y : (e : Int) < (b : Int) := by omega
                have HC : Hid _ := IH.out mid e b l wr (by omega) HW.out.env HW.out.ord HP.out k5 k6 (by rw [hlc]; omega) (by rw [hlc]; omega) T3'.out T4'.out
                rw [hlc] at HC
                go_wp2_with fail
                try rw [HEZ.out]
                refine Calls.mono HC.out ?_
                rintro x3 w3 ⟨rfl, l3, hO3, hG3, hS3, hK3⟩
                clear HC
                have HW3 : Hid _ := HW.out.go hK3 hO3
                have HS3 : Hid _ := merge_end T5.out HG2.out HT2.out hG3 hS3
                have HG3 : Hid _ := HSG.out.trans (hG3.mono (by omega) (Nat.le_refl _))
                clear hO3 hK3 hG3 hS3
                go_wp2
                all_goals (go_end0; exact ⟨rfl, l3, HW3.out.ord, HG3.out, HS3.out, HW3.out.kept⟩)
              · have k6z : ¬ (n : Int) - (st : Int) < (b : Int) := by omega
                have k6y : ¬ (e : Int) < (b : Int) := by omega
                have k5y : (mid : Int) < (e : Int) := by omega
                have HS3 : Hid _ := merge_end T5.out HG2.out HT2.out (Seg.refl mid b l) (half_srt T3'.out T4'.out (by omega) (by omega) (.inr (by omega)))
                go_wp2
                all_goals (go_end0; exact ⟨rfl, l, HW.out.ord, HSG.out, HS3.out, HW.out.kept⟩)
            · have k5z : ¬ (mid : Int) < (n : Int) - (st : Int) := by omega
              have k5y : ¬ (mid : Int) < (e : Int) := by omega
              have HS3 : Hid _ := merge_end T5.out HG2.out HT2.out (Seg.refl mid b l) (half_srt T3'.out T4'.out (by omega) (by omega) (.inl (by omega)))
              go_wp2
              all_goals (go_end0; exact ⟨rfl, l, HW.out.ord, HSG.out, HS3.out, HW.out.kept⟩)
  · have hmm : ¬ ((a : Int) + (b : Int)) / 2 < (m : Int) := by omega
    go_enter Tryd.func97, Tryd.ntmps97
    go_wp2_with fail
    rw [HMZ.out]
    obtain ⟨n, hnn⟩ : ∃ n, mid + m = n := ⟨_, rfl⟩
    obtain ⟨p, hpp⟩ : ∃ p, mid + m = p + 1 := ⟨mid + m - 1, by omega⟩
    rw [show (mid : Int) + (m : Int) - 1 = (p : Int) by omega, show (mid : Int) + (m : Int) = (n : Int) by omega]
    clear hmm
    go_loopw [20, 21] (fun v20 v21 wr => ∃ (st r : Nat), v20 = .int .i64 (st : Int) ∧ v21 = .int .i64 (r : Int) ∧ a ≤ st ∧ st ≤ r ∧ r ≤ m ∧ Hid (∀ c, a ≤ c → c < st → keyF fs (gt l c) ≤ keyF fs (gt l (p - c))) ∧ Hid (∀ c, r ≤ c → c < m → keyF fs (gt l (p - c)) < keyF fs (gt l c)) ∧ Hid (SSt S GO Bf fa fc fs l w wr)) (fun v20 v21 _ => (intOf v21).toNat - (intOf v20).toNat)
    case atStart => exact ⟨a, m, rfl, rfl, by omega, by omega, by omega, fun h h1 h2 => by omega, fun h h1 h2 => by omega, HST⟩
    case round =>
      obtain ⟨st, r, rfl, rfl, i1, ij, jb, HL, HH, HW⟩ := hrel
      clear HST
      by_cases hij : st < r
      · obtain ⟨c, hh⟩ : ∃ c, c = (st + r) / 2 := ⟨_, rfl⟩
        obtain ⟨x, hr, hcmp⟩ := HW.out.env.cmp (hl.at (i := p - c) (by omega)) (hl.at (i := c) (by omega))
        have c1 := ord_gt HW.out.ord (i := p - c) (by omega)
        have c2 := ord_gt HW.out.ord (i := c) (by omega)
        have HR : Hid _ := hr
        obtain ⟨y, hy⟩ : ∃ y, gt l (p - c) = y := ⟨_, rfl⟩
        obtain ⟨z, hz⟩ : ∃ z, gt l c = z := ⟨_, rfl⟩
        rw [hy] at c1 hcmp
        rw [hz] at c2 hcmp
        clear hy hz
        have hpc0 : (0 : Int) ≤ (p : Int) - (c : Int) := by omega
        have hpcl : (p : Int) - (c : Int) < (l.length : Int) := by omega
        have hpct : ((p : Int) - (c : Int)).toNat = p - c := by omega
        have hcl : (c : Int) < (l.length : Int) := by omega
        have HHH : Hid _ := hh
        clear hr hh
        go_wp2
        rw [show ((st : Int) + (r : Int)) / 2 = (c : Int) by have := HHH.out; omega]
        by_cases hr0 : x < 0
        · go_quiet (first | (go_at_fn 84; refine Calls.quiet_of (hcmp _)))
          go_wp2
          have hh := HHH.out
          have hk := HR.out.1 hr0
          refine ⟨⟨st, c, rfl, rfl, i1, by omega, by omega, HL, fun v v1 v2 => ?_, HW.out.drewN _⟩, by simp [intOf]; omega⟩
          have e1 := HS1.out c v (by omega) v1 (by omega)
          have e2 := HS2.out (p - v) (p - c) (by omega) (by omega) (by omega)
          omega
        · go_quiet (first | (go_at_fn 84; refine Calls.quiet_of (hcmp _)))
          go_wp2
          have hh := HHH.out
          have hk : ¬ keyF fs (gt l (p - c)) < keyF fs (gt l c) := fun e => hr0 (HR.out.2 e)
          refine ⟨⟨c + 1, r, by simp, rfl, by omega, by omega, jb, fun v v1 v2 => ?_, HH, HW.out.drewN _⟩, by simp [intOf]; omega⟩
          have e1 := HS1.out v c (by omega) (by omega) (by omega)
          have e2 := HS2.out (p - c) (p - v) (by omega) (by omega) (by omega)
          omega
      · obtain rfl : st = r := by omega
        obtain ⟨e, hee⟩ : ∃ e, st + e = n := ⟨n - st, by omega⟩
        have hez : (n : Int) - (st : Int) = (e : Int) := by omega
        have HEZ : Hid _ := hez
        have hst : a ≤ st ∧ st ≤ m ∧ m ≤ e ∧ e ≤ b ∧ st ≤ mid := by omega
        have HC1 : Hid (a < st → e < b → keyF fs (gt l (st - 1)) ≤ keyF fs (gt l e)) := fun h1 h2 => by
          have := HL.out (st - 1) (by omega) (by omega)
          rwa [show p - (st - 1) = e by omega] at this
        have HC2 : Hid (st < m → m < e → keyF fs (gt l (e - 1)) ≤ keyF fs (gt l st)) := fun h1 h2 => by
          have := HH.out st (by omega) (by omega)
          rw [show p - st = e - 1 by omega] at this
          omega
        clear hez HL HH
        have hrot : ∀ l1, Rot st m e l l1 → _ := fun l1 h => rot_parts (mid := mid) h HS1.out HS2.out hst.1 hst.2.1 hst.2.2.1 hst.2.2.2.1 (by omega) HC1.out HC2.out
        have HROT : Hid _ := hrot
        clear hrot HC1 HC2
        by_cases k1 : st < m
        · by_cases k2 : m < e
          · have k1z : (st : Int) < (m : Int) := by omega
            have k2z : (m : Int) < (e : Int) := by omega
            have HC : Hid _ := rotate_any GO cap st m e (.func (.func 84) #[] #[.pointer (some ⟨Bf, 0, none⟩)]) l wr HW.out.ord k1 k2 (by omega) hn
            have k2y : (m : Int) < (n : Int) - (st : Int) := by omega
            go_wp2_with fail
            rw [HEZ.out]
            refine Calls.mono HC.out ?_
            rintro x1 w1 ⟨rfl, l1, hO1, hR1, hK1⟩
            clear HC k2y
            have HW1 : Hid _ := HW.out.go hK1 hO1
            have HR1 : Hid _ := hR1
            have hl1 := hR1.perm.length_eq
            clear hO1 hK1 hR1 HW
            obtain ⟨t1, t2, t3, t4, t5⟩ := HROT.out _ HR1.out
            have T1 : Hid _ := t1
            have T2 : Hid _ := t2
            have T3 : Hid _ := t3
            have T4 : Hid _ := t4
            have T5 : Hid _ := t5
            clear t1 t2 t3 t4 t5 HROT
            by_cases k3 : a < st
            · have k3z : (a : Int) < (st : Int) := by omega
              by_cases k4 : st < mid
              · have k4z : (st : Int) < (mid : Int) := by omega
                have HC : Hid _ := IH.out a st mid l1 w1 (by omega) HW1.out.env HW1.out.ord (hl.perm HR1.out.perm) k3 k4 (by rw [hl1]; omega) (by rw [hl1]; omega) T1.out T2.out
                rw [hl1] at HC
                go_wp2_with fail
                refine Calls.mono HC.out ?_
                rintro x2 w2 ⟨rfl, l2, hO2, hG2, hS2, hK2⟩
                clear HC
                have HW2 : Hid _ := HW1.out.go hK2 hO2
                have HG2 : Hid _ := hG2
                have HT2 : Hid _ := hS2
                have hl2 := hG2.perm.length_eq
                clear hO2 hK2 hG2 hS2
                have hlc : l2.length = l.length := hl2.trans hl1
                have T3' : Hid (Srt (keyF fs) l2 mid e) := Srt.of_out T3.out (fun k z1 z2 => HG2.out.out k (.inr z1))
                have T4' : Hid (Srt (keyF fs) l2 e b) := Srt.of_out T4.out (fun k z1 z2 => HG2.out.out k (.inr (by omega)))
                have HP : Hid (InB fs l2) := hl.perm (HG2.out.perm.trans HR1.out.perm)
                have HSG : Hid (Seg a b l l2) := ((HR1.out.seg (by omega) (by omega)).mono (by omega) (by omega)).trans (HG2.out.mono (Nat.le_refl _) (by omega))
                by_cases k5 : mid < e
                · have k5z : (mid : Int) < (n : Int) - (st : Int) := by omega
                  by_cases k6 : e < b
                  · have k6z : (n : Int) - (st : Int) < (b : Int) := by omega
                    have k5y : (mid : Int) < (e : Int) := by omega
                    have k6y : (e : Int) < (b : Int) := by omega
                    have HC : Hid _ := IH.out mid e b l2 w2 (by omega) HW2.out.env HW2.out.ord HP.out k5 k6 (by rw [hlc]; omega) (by rw [hlc]; omega) T3'.out T4'.out
                    rw [hlc] at HC
                    go_wp2_with fail
                    try rw [HEZ.out]
                    refine Calls.mono HC.out ?_
                    rintro x3 w3 ⟨rfl, l3, hO3, hG3, hS3, hK3⟩
                    clear HC
                    have HW3 : Hid _ := HW2.out.go hK3 hO3
                    have HS3 : Hid _ := merge_end T5.out HG2.out HT2.out hG3 hS3
                    have HG3 : Hid _ := HSG.out.trans (hG3.mono (by omega) (Nat.le_refl _))
                    clear hO3 hK3 hG3 hS3
                    go_wp2
                    all_goals (go_end0; exact ⟨rfl, l3, HW3.out.ord, HG3.out, HS3.out, HW3.out.kept⟩)
                  · have k6z : ¬ (n : Int) - (st : Int) < (b : Int) := by omega
                    have k6y : ¬ (e : Int) < (b : Int) := by omega
                    have k5y : (mid : Int) < (e : Int) := by omega
                    have HS3 : Hid _ := merge_end T5.out HG2.out HT2.out (Seg.refl mid b l2) (half_srt T3'.out T4'.out (by omega) (by omega) (.inr (by omega)))
                    go_wp2
                    all_goals (go_end0; exact ⟨rfl, l2, HW2.out.ord, HSG.out, HS3.out, HW2.out.kept⟩)
                · have k5z : ¬ (mid : Int) < (n : Int) - (st : Int) := by omega
                  have k5y : ¬ (mid : Int) < (e : Int) := by omega
                  have HS3 : Hid _ := merge_end T5.out HG2.out HT2.out (Seg.refl mid b l2) (half_srt T3'.out T4'.out (by omega) (by omega) (.inl (by omega)))
                  go_wp2
                  all_goals (go_end0; exact ⟨rfl, l2, HW2.out.ord, HSG.out, HS3.out, HW2.out.kept⟩)
              · have k4z : ¬ (st : Int) < (mid : Int) := by omega
                have HG2 : Hid (Seg a mid l1 l1) := Seg.refl _ _ _
                have HT2 : Hid (Srt (keyF fs) l1 a mid) := half_srt T1.out T2.out (by omega) (by omega) (.inr (by omega))
                have hlc : l1.length = l.length := hl1
                have T3' : Hid (Srt (keyF fs) l1 mid e) := Srt.of_out T3.out (fun k z1 z2 => HG2.out.out k (.inr z1))
                have T4' : Hid (Srt (keyF fs) l1 e b) := Srt.of_out T4.out (fun k z1 z2 => HG2.out.out k (.inr (by omega)))
                have HP : Hid (InB fs l1) := hl.perm (HG2.out.perm.trans HR1.out.perm)
                have HSG : Hid (Seg a b l l1) := ((HR1.out.seg (by omega) (by omega)).mono (by omega) (by omega)).trans (HG2.out.mono (Nat.le_refl _) (by omega))
                by_cases k5 : mid < e
                · have k5z : (mid : Int) < (n : Int) - (st : Int) := by omega
                  by_cases k6 : e < b
                  · have k6z : (n : Int) - (st : Int) < (b : Int) := by omega
                    have k5y : (mid : Int) < (e : Int) := by omega
                    have k6y : (e : Int) < (b : Int) := by omega
                    have HC : Hid _ := IH.out mid e b l1 w1 (by omega) HW1.out.env HW1.out.ord HP.out k5 k6 (by rw [hlc]; omega) (by rw [hlc]; omega) T3'.out T4'.out
                    rw [hlc] at HC
                    go_wp2_with fail
                    try rw [HEZ.out]
                    refine Calls.mono HC.out ?_
                    rintro x3 w3 ⟨rfl, l3, hO3, hG3, hS3, hK3⟩
                    clear HC
                    have HW3 : Hid _ := HW1.out.go hK3 hO3
                    have HS3 : Hid _ := merge_end T5.out HG2.out HT2.out hG3 hS3
                    have HG3 : Hid _ := HSG.out.trans (hG3.mono (by omega) (Nat.le_refl _))
                    clear hO3 hK3 hG3 hS3
                    go_wp2
                    all_goals (go_end0; exact ⟨rfl, l3, HW3.out.ord, HG3.out, HS3.out, HW3.out.kept⟩)
                  · have k6z : ¬ (n : Int) - (st : Int) < (b : Int) := by omega
                    have k6y : ¬ (e : Int) < (b : Int) := by omega
                    have k5y : (mid : Int) < (e : Int) := by omega
                    have HS3 : Hid _ := merge_end T5.out HG2.out HT2.out (Seg.refl mid b l1) (half_srt T3'.out T4'.out (by omega) (by omega) (.inr (by omega)))
                    go_wp2
                    all_goals (go_end0; exact ⟨rfl, l1, HW1.out.ord, HSG.out, HS3.out, HW1.out.kept⟩)
                · have k5z : ¬ (mid : Int) < (n : Int) - (st : Int) := by omega
                  have k5y : ¬ (mid : Int) < (e : Int) := by omega
                  have HS3 : Hid _ := merge_end T5.out HG2.out HT2.out (Seg.refl mid b l1) (half_srt T3'.out T4'.out (by omega) (by omega) (.inl (by omega)))
                  go_wp2
                  all_goals (go_end0; exact ⟨rfl, l1, HW1.out.ord, HSG.out, HS3.out, HW1.out.kept⟩)
            · have k3z : ¬ (a : Int) < (st : Int) := by omega
              have HG2 : Hid (Seg a mid l1 l1) := Seg.refl _ _ _
              have HT2 : Hid (Srt (keyF fs) l1 a mid) := half_srt T1.out T2.out (by omega) (by omega) (.inl (by omega))
              have hlc : l1.length = l.length := hl1
              have T3' : Hid (Srt (keyF fs) l1 mid e) := Srt.of_out T3.out (fun k z1 z2 => HG2.out.out k (.inr z1))
              have T4' : Hid (Srt (keyF fs) l1 e b) := Srt.of_out T4.out (fun k z1 z2 => HG2.out.out k (.inr (by omega)))
              have HP : Hid (InB fs l1) := hl.perm (HG2.out.perm.trans HR1.out.perm)
              have HSG : Hid (Seg a b l l1) := ((HR1.out.seg (by omega) (by omega)).mono (by omega) (by omega)).trans (HG2.out.mono (Nat.le_refl _) (by omega))
              by_cases k5 : mid < e
              · have k5z : (mid : Int) < (n : Int) - (st : Int) := by omega
                by_cases k6 : e < b
                · have k6z : (n : Int) - (st : Int) < (b : Int) := by omega
                  have k5y : (mid : Int) < (e : Int) := by omega
                  have k6y : (e : Int) < (b : Int) := by omega
                  have HC : Hid _ := IH.out mid e b l1 w1 (by omega) HW1.out.env HW1.out.ord HP.out k5 k6 (by rw [hlc]; omega) (by rw [hlc]; omega) T3'.out T4'.out
                  rw [hlc] at HC
                  go_wp2_with fail
                  try rw [HEZ.out]
                  refine Calls.mono HC.out ?_
                  rintro x3 w3 ⟨rfl, l3, hO3, hG3, hS3, hK3⟩
                  clear HC
                  have HW3 : Hid _ := HW1.out.go hK3 hO3
                  have HS3 : Hid _ := merge_end T5.out HG2.out HT2.out hG3 hS3
                  have HG3 : Hid _ := HSG.out.trans (hG3.mono (by omega) (Nat.le_refl _))
                  clear hO3 hK3 hG3 hS3
                  go_wp2
                  all_goals (go_end0; exact ⟨rfl, l3, HW3.out.ord, HG3.out, HS3.out, HW3.out.kept⟩)
                · have k6z : ¬ (n : Int) - (st : Int) < (b : Int) := by omega
                  have k6y : ¬ (e : Int) < (b : Int) := by omega
                  have k5y : (mid : Int) < (e : Int) := by omega
                  have HS3 : Hid _ := merge_end T5.out HG2.out HT2.out (Seg.refl mid b l1) (half_srt T3'.out T4'.out (by omega) (by omega) (.inr (by omega)))
                  go_wp2
                  all_goals (go_end0; exact ⟨rfl, l1, HW1.out.ord, HSG.out, HS3.out, HW1.out.kept⟩)
              · have k5z : ¬ (mid : Int) < (n : Int) - (st : Int) := by omega
                have k5y : ¬ (mid : Int) < (e : Int) := by omega
                have HS3 : Hid _ := merge_end T5.out HG2.out HT2.out (Seg.refl mid b l1) (half_srt T3'.out T4'.out (by omega) (by omega) (.inl (by omega)))
                go_wp2
                all_goals (go_end0; exact ⟨rfl, l1, HW1.out.ord, HSG.out, HS3.out, HW1.out.kept⟩)
          · have k1z : (st : Int) < (m : Int) := by omega
            have k2z : ¬ (m : Int) < (n : Int) - (st : Int) := by omega
            have HR1 : Hid (Rot st m e l l) := Rot.same l (.inr (by omega)) (by omega) (by omega)
            obtain ⟨t1, t2, t3, t4, t5⟩ := HROT.out _ HR1.out
            have T1 : Hid _ := t1
            have T2 : Hid _ := t2
            have T3 : Hid _ := t3
            have T4 : Hid _ := t4
            have T5 : Hid _ := t5
            clear t1 t2 t3 t4 t5 HROT
            by_cases k3 : a < st
            · have k3z : (a : Int) < (st : Int) := by omega
              by_cases k4 : st < mid
              · have k4z : (st : Int) < (mid : Int) := by omega
                have HC : Hid _ := IH.out a st mid l wr (by omega) HW.out.env HW.out.ord (hl.perm HR1.out.perm) k3 k4 (by omega) (by omega) T1.out T2.out
                have hl1 : True := trivial
                go_wp2_with fail
                refine Calls.mono HC.out ?_
                rintro x2 w2 ⟨rfl, l2, hO2, hG2, hS2, hK2⟩
                clear HC
                have HW2 : Hid _ := HW.out.go hK2 hO2
                have HG2 : Hid _ := hG2
                have HT2 : Hid _ := hS2
                have hl2 := hG2.perm.length_eq
                clear hO2 hK2 hG2 hS2
                have hlc : l2.length = l.length := hl2
                have T3' : Hid (Srt (keyF fs) l2 mid e) := Srt.of_out T3.out (fun k z1 z2 => HG2.out.out k (.inr z1))
                have T4' : Hid (Srt (keyF fs) l2 e b) := Srt.of_out T4.out (fun k z1 z2 => HG2.out.out k (.inr (by omega)))
                have HP : Hid (InB fs l2) := hl.perm (HG2.out.perm.trans HR1.out.perm)
                have HSG : Hid (Seg a b l l2) := ((HR1.out.seg (by omega) (by omega)).mono (by omega) (by omega)).trans (HG2.out.mono (Nat.le_refl _) (by omega))
                by_cases k5 : mid < e
                · have k5z : (mid : Int) < (n : Int) - (st : Int) := by omega
                  by_cases k6 : e < b
                  · have k6z : (n : Int) - (st : Int) < (b : Int) := by omega
                    have k5y : (mid : Int) < (e : Int) := by omega
                    have k6y : (e : Int) < (b : Int) := by omega
                    have HC : Hid _ := IH.out mid e b l2 w2 (by omega) HW2.out.env HW2.out.ord HP.out k5 k6 (by rw [hlc]; omega) (by rw [hlc]; omega) T3'.out T4'.out
                    rw [hlc] at HC
                    go_wp2_with fail
                    try rw [HEZ.out]
                    refine Calls.mono HC.out ?_
                    rintro x3 w3 ⟨rfl, l3, hO3, hG3, hS3, hK3⟩
                    clear HC
                    have HW3 : Hid _ := HW2.out.go hK3 hO3
                    have HS3 : Hid _ := merge_end T5.out HG2.out HT2.out hG3 hS3
                    have HG3 : Hid _ := HSG.out.trans (hG3.mono (by omega) (Nat.le_refl _))
                    clear hO3 hK3 hG3 hS3
                    go_wp2
                    all_goals (go_end0; exact ⟨rfl, l3, HW3.out.ord, HG3.out, HS3.out, HW3.out.kept⟩)
                  · have k6z : ¬ (n : Int) - (st : Int) < (b : Int) := by omega
                    have k6y : ¬ (e : Int) < (b : Int) := by omega
                    have k5y : (mid : Int) < (e : Int) := by omega
                    have HS3 : Hid _ := merge_end T5.out HG2.out HT2.out (Seg.refl mid b l2) (half_srt T3'.out T4'.out (by omega) (by omega) (.inr (by omega)))
                    go_wp2
                    all_goals (go_end0; exact ⟨rfl, l2, HW2.out.ord, HSG.out, HS3.out, HW2.out.kept⟩)
                · have k5z : ¬ (mid : Int) < (n : Int) - (st : Int) := by omega
                  have k5y : ¬ (mid : Int) < (e : Int) := by omega
                  have HS3 : Hid _ := merge_end T5.out HG2.out HT2.out (Seg.refl mid b l2) (half_srt T3'.out T4'.out (by omega) (by omega) (.inl (by omega)))
                  go_wp2
                  all_goals (go_end0; exact ⟨rfl, l2, HW2.out.ord, HSG.out, HS3.out, HW2.out.kept⟩)
              · have k4z : ¬ (st : Int) < (mid : Int) := by omega
                have HG2 : Hid (Seg a mid l l) := Seg.refl _ _ _
                have HT2 : Hid (Srt (keyF fs) l a mid) := half_srt T1.out T2.out (by omega) (by omega) (.inr (by omega))
                have hlc : l.length = l.length := rfl
                have T3' : Hid (Srt (keyF fs) l mid e) := Srt.of_out T3.out (fun k z1 z2 => HG2.out.out k (.inr z1))
                have T4' : Hid (Srt (keyF fs) l e b) := Srt.of_out T4.out (fun k z1 z2 => HG2.out.out k (.inr (by omega)))
                have HP : Hid (InB fs l) := hl.perm (HG2.out.perm.trans HR1.out.perm)
                have HSG : Hid (Seg a b l l) := ((HR1.out.seg (by omega) (by omega)).mono (by omega) (by omega)).trans (HG2.out.mono (Nat.le_refl _) (by omega))
                by_cases k5 : mid < e
                · have k5z : (mid : Int) < (n : Int) - (st : Int) := by omega
                  by_cases k6 : e < b
                  · have k6z : (n : Int) - (st : Int) < (b : Int) := by omega
                    have k5y : (mid : Int) < (e : Int) := by omega
                    have k6y : (e : Int) < (b : Int) := by omega
                    have HC : Hid _ := IH.out mid e b l wr (by omega) HW.out.env HW.out.ord HP.out k5 k6 (by rw [hlc]; omega) (by rw [hlc]; omega) T3'.out T4'.out
                    rw [hlc] at HC
                    go_wp2_with fail
                    try rw [HEZ.out]
                    refine Calls.mono HC.out ?_
                    rintro x3 w3 ⟨rfl, l3, hO3, hG3, hS3, hK3⟩
                    clear HC
                    have HW3 : Hid _ := HW.out.go hK3 hO3
                    have HS3 : Hid _ := merge_end T5.out HG2.out HT2.out hG3 hS3
                    have HG3 : Hid _ := HSG.out.trans (hG3.mono (by omega) (Nat.le_refl _))
                    clear hO3 hK3 hG3 hS3
                    go_wp2
                    all_goals (go_end0; exact ⟨rfl, l3, HW3.out.ord, HG3.out, HS3.out, HW3.out.kept⟩)
                  · have k6z : ¬ (n : Int) - (st : Int) < (b : Int) := by omega
                    have k6y : ¬ (e : Int) < (b : Int) := by omega
                    have k5y : (mid : Int) < (e : Int) := by omega
                    have HS3 : Hid _ := merge_end T5.out HG2.out HT2.out (Seg.refl mid b l) (half_srt T3'.out T4'.out (by omega) (by omega) (.inr (by omega)))
                    go_wp2
                    all_goals (go_end0; exact ⟨rfl, l, HW.out.ord, HSG.out, HS3.out, HW.out.kept⟩)
                · have k5z : ¬ (mid : Int) < (n : Int) - (st : Int) := by omega
                  have k5y : ¬ (mid : Int) < (e : Int) := by omega
                  have HS3 : Hid _ := merge_end T5.out HG2.out HT2.out (Seg.refl mid b l) (half_srt T3'.out T4'.out (by omega) (by omega) (.inl (by omega)))
                  go_wp2
                  all_goals (go_end0; exact ⟨rfl, l, HW.out.ord, HSG.out, HS3.out, HW.out.kept⟩)
            · have k3z : ¬ (a : Int) < (st : Int) := by omega
              have HG2 : Hid (Seg a mid l l) := Seg.refl _ _ _
              have HT2 : Hid (Srt (keyF fs) l a mid) := half_srt T1.out T2.out (by omega) (by omega) (.inl (by omega))
              have hlc : l.length = l.length := rfl
              have T3' : Hid (Srt (keyF fs) l mid e) := Srt.of_out T3.out (fun k z1 z2 => HG2.out.out k (.inr z1))
              have T4' : Hid (Srt (keyF fs) l e b) := Srt.of_out T4.out (fun k z1 z2 => HG2.out.out k (.inr (by omega)))
              have HP : Hid (InB fs l) := hl.perm (HG2.out.perm.trans HR1.out.perm)
              have HSG : Hid (Seg a b l l) := ((HR1.out.seg (by omega) (by omega)).mono (by omega) (by omega)).trans (HG2.out.mono (Nat.le_refl _) (by omega))
              by_cases k5 : mid < e
              · have k5z : (mid : Int) < (n : Int) - (st : Int) := by omega
                by_cases k6 : e < b
                · have k6z : (n : Int) - (st : Int) < (b : Int) := by omega
                  have k5y : (mid : Int) < (e : Int) := by omega
                  have k6y : (e : Int) < (b : Int) := by omega
                  have HC : Hid _ := IH.out mid e b l wr (by omega) HW.out.env HW.out.ord HP.out k5 k6 (by rw [hlc]; omega) (by rw [hlc]; omega) T3'.out T4'.out
                  rw [hlc] at HC
                  go_wp2_with fail
                  try rw [HEZ.out]
                  refine Calls.mono HC.out ?_
                  rintro x3 w3 ⟨rfl, l3, hO3, hG3, hS3, hK3⟩
                  clear HC
                  have HW3 : Hid _ := HW.out.go hK3 hO3
                  have HS3 : Hid _ := merge_end T5.out HG2.out HT2.out hG3 hS3
                  have HG3 : Hid _ := HSG.out.trans (hG3.mono (by omega) (Nat.le_refl _))
                  clear hO3 hK3 hG3 hS3
                  go_wp2
                  all_goals (go_end0; exact ⟨rfl, l3, HW3.out.ord, HG3.out, HS3.out, HW3.out.kept⟩)
                · have k6z : ¬ (n : Int) - (st : Int) < (b : Int) := by omega
                  have k6y : ¬ (e : Int) < (b : Int) := by omega
                  have k5y : (mid : Int) < (e : Int) := by omega
                  have HS3 : Hid _ := merge_end T5.out HG2.out HT2.out (Seg.refl mid b l) (half_srt T3'.out T4'.out (by omega) (by omega) (.inr (by omega)))
                  go_wp2
                  all_goals (go_end0; exact ⟨rfl, l, HW.out.ord, HSG.out, HS3.out, HW.out.kept⟩)
              · have k5z : ¬ (mid : Int) < (n : Int) - (st : Int) := by omega
                have k5y : ¬ (mid : Int) < (e : Int) := by omega
                have HS3 : Hid _ := merge_end T5.out HG2.out HT2.out (Seg.refl mid b l) (half_srt T3'.out T4'.out (by omega) (by omega) (.inl (by omega)))
                go_wp2
                all_goals (go_end0; exact ⟨rfl, l, HW.out.ord, HSG.out, HS3.out, HW.out.kept⟩)
        · have k1z : ¬ (st : Int) < (m : Int) := by omega
          have HR1 : Hid (Rot st m e l l) := Rot.same l (.inl (by omega)) (by omega) (by omega)
          obtain ⟨t1, t2, t3, t4, t5⟩ := HROT.out _ HR1.out
          have T1 : Hid _ := t1
          have T2 : Hid _ := t2
          have T3 : Hid _ := t3
          have T4 : Hid _ := t4
          have T5 : Hid _ := t5
          clear t1 t2 t3 t4 t5 HROT
          by_cases k3 : a < st
          · have k3z : (a : Int) < (st : Int) := by omega
            by_cases k4 : st < mid
            · have k4z : (st : Int) < (mid : Int) := by omega
              have HC : Hid _ := IH.out a st mid l wr (by omega) HW.out.env HW.out.ord (hl.perm HR1.out.perm) k3 k4 (by omega) (by omega) T1.out T2.out
              have hl1 : True := trivial
              go_wp2_with fail
              refine Calls.mono HC.out ?_
              rintro x2 w2 ⟨rfl, l2, hO2, hG2, hS2, hK2⟩
              clear HC
              have HW2 : Hid _ := HW.out.go hK2 hO2
              have HG2 : Hid _ := hG2
              have HT2 : Hid _ := hS2
              have hl2 := hG2.perm.length_eq
              clear hO2 hK2 hG2 hS2
              have hlc : l2.length = l.length := hl2
              have T3' : Hid (Srt (keyF fs) l2 mid e) := Srt.of_out T3.out (fun k z1 z2 => HG2.out.out k (.inr z1))
              have T4' : Hid (Srt (keyF fs) l2 e b) := Srt.of_out T4.out (fun k z1 z2 => HG2.out.out k (.inr (by omega)))
              have HP : Hid (InB fs l2) := hl.perm (HG2.out.perm.trans HR1.out.perm)
              have HSG : Hid (Seg a b l l2) := ((HR1.out.seg (by omega) (by omega)).mono (by omega) (by omega)).trans (HG2.out.mono (Nat.le_refl _) (by omega))
              by_cases k5 : mid < e
              · have k5z : (mid : Int) < (n : Int) - (st : Int) := by omega
                by_cases k6 : e < b
                · have k6z : (n : Int) - (st : Int) < (b : Int) := by omega
                  have k5y : (mid : Int) < (e : Int) := by omega
                  have k6y : (e : Int) < (b : Int) := by omega
                  have HC : Hid _ := IH.out mid e b l2 w2 (by omega) HW2.out.env HW2.out.ord HP.out k5 k6 (by rw [hlc]; omega) (by rw [hlc]; omega) T3'.out T4'.out
                  rw [hlc] at HC
                  go_wp2_with fail
                  try rw [HEZ.out]
                  refine Calls.mono HC.out ?_
                  rintro x3 w3 ⟨rfl, l3, hO3, hG3, hS3, hK3⟩
                  clear HC
                  have HW3 : Hid _ := HW2.out.go hK3 hO3
                  have HS3 : Hid _ := merge_end T5.out HG2.out HT2.out hG3 hS3
                  have HG3 : Hid _ := HSG.out.trans (hG3.mono (by omega) (Nat.le_refl _))
                  clear hO3 hK3 hG3 hS3
                  go_wp2
                  all_goals (go_end0; exact ⟨rfl, l3, HW3.out.ord, HG3.out, HS3.out, HW3.out.kept⟩)
                · have k6z : ¬ (n : Int) - (st : Int) < (b : Int) := by omega
                  have k6y : ¬ (e : Int) < (b : Int) := by omega
                  have k5y : (mid : Int) < (e : Int) := by omega
                  have HS3 : Hid _ := merge_end T5.out HG2.out HT2.out (Seg.refl mid b l2) (half_srt T3'.out T4'.out (by omega) (by omega) (.inr (by omega)))
                  go_wp2
                  all_goals (go_end0; exact ⟨rfl, l2, HW2.out.ord, HSG.out, HS3.out, HW2.out.kept⟩)
              · have k5z : ¬ (mid : Int) < (n : Int) - (st : Int) := by omega
                have k5y : ¬ (mid : Int) < (e : Int) := by omega
                have HS3 : Hid _ := merge_end T5.out HG2.out HT2.out (Seg.refl mid b l2) (half_srt T3'.out T4'.out (by omega) (by omega) (.inl (by omega)))
                go_wp2
                all_goals (go_end0; exact ⟨rfl, l2, HW2.out.ord, HSG.out, HS3.out, HW2.out.kept⟩)
            · have k4z : ¬ (st : Int) < (mid : Int) := by omega
              have HG2 : Hid (Seg a mid l l) := Seg.refl _ _ _
              have HT2 : Hid (Srt (keyF fs) l a mid) := half_srt T1.out T2.out (by omega) (by omega) (.inr (by omega))
              have hlc : l.length = l.length := rfl
              have T3' : Hid (Srt (keyF fs) l mid e) := Srt.of_out T3.out (fun k z1 z2 => HG2.out.out k (.inr z1))
              have T4' : Hid (Srt (keyF fs) l e b) := Srt.of_out T4.out (fun k z1 z2 => HG2.out.out k (.inr (by omega)))
              have HP : Hid (InB fs l) := hl.perm (HG2.out.perm.trans HR1.out.perm)
              have HSG : Hid (Seg a b l l) := ((HR1.out.seg (by omega) (by omega)).mono (by omega) (by omega)).trans (HG2.out.mono (Nat.le_refl _) (by omega))
              by_cases k5 : mid < e
              · have k5z : (mid : Int) < (n : Int) - (st : Int) := by omega
                by_cases k6 : e < b
                · have k6z : (n : Int) - (st : Int) < (b : Int) := by omega
                  have k5y : (mid : Int) < (e : Int) := by omega
                  have k6y : (e : Int) < (b : Int) := by omega
                  have HC : Hid _ := IH.out mid e b l wr (by omega) HW.out.env HW.out.ord HP.out k5 k6 (by rw [hlc]; omega) (by rw [hlc]; omega) T3'.out T4'.out
                  rw [hlc] at HC
                  go_wp2_with fail
                  try rw [HEZ.out]
                  refine Calls.mono HC.out ?_
                  rintro x3 w3 ⟨rfl, l3, hO3, hG3, hS3, hK3⟩
                  clear HC
                  have HW3 : Hid _ := HW.out.go hK3 hO3
                  have HS3 : Hid _ := merge_end T5.out HG2.out HT2.out hG3 hS3
                  have HG3 : Hid _ := HSG.out.trans (hG3.mono (by omega) (Nat.le_refl _))
                  clear hO3 hK3 hG3 hS3
                  go_wp2
                  all_goals (go_end0; exact ⟨rfl, l3, HW3.out.ord, HG3.out, HS3.out, HW3.out.kept⟩)
                · have k6z : ¬ (n : Int) - (st : Int) < (b : Int) := by omega
                  have k6y : ¬ (e : Int) < (b : Int) := by omega
                  have k5y : (mid : Int) < (e : Int) := by omega
                  have HS3 : Hid _ := merge_end T5.out HG2.out HT2.out (Seg.refl mid b l) (half_srt T3'.out T4'.out (by omega) (by omega) (.inr (by omega)))
                  go_wp2
                  all_goals (go_end0; exact ⟨rfl, l, HW.out.ord, HSG.out, HS3.out, HW.out.kept⟩)
              · have k5z : ¬ (mid : Int) < (n : Int) - (st : Int) := by omega
                have k5y : ¬ (mid : Int) < (e : Int) := by omega
                have HS3 : Hid _ := merge_end T5.out HG2.out HT2.out (Seg.refl mid b l) (half_srt T3'.out T4'.out (by omega) (by omega) (.inl (by omega)))
                go_wp2
                all_goals (go_end0; exact ⟨rfl, l, HW.out.ord, HSG.out, HS3.out, HW.out.kept⟩)
          · have k3z : ¬ (a : Int) < (st : Int) := by omega
            have HG2 : Hid (Seg a mid l l) := Seg.refl _ _ _
            have HT2 : Hid (Srt (keyF fs) l a mid) := half_srt T1.out T2.out (by omega) (by omega) (.inl (by omega))
            have hlc : l.length = l.length := rfl
            have T3' : Hid (Srt (keyF fs) l mid e) := Srt.of_out T3.out (fun k z1 z2 => HG2.out.out k (.inr z1))
            have T4' : Hid (Srt (keyF fs) l e b) := Srt.of_out T4.out (fun k z1 z2 => HG2.out.out k (.inr (by omega)))
            have HP : Hid (InB fs l) := hl.perm (HG2.out.perm.trans HR1.out.perm)
            have HSG : Hid (Seg a b l l) := ((HR1.out.seg (by omega) (by omega)).mono (by omega) (by omega)).trans (HG2.out.mono (Nat.le_refl _) (by omega))
            by_cases k5 : mid < e
            · have k5z : (mid : Int) < (n : Int) - (st : Int) := by omega
              by_cases k6 : e < b
              · have k6z : (n : Int) - (st : Int) < (b : Int) := by omega
                have k5y : (mid : Int) < (e : Int) := by omega
                have k6y : (e : Int) < (b : Int) := by omega
                have HC : Hid _ := IH.out mid e b l wr (by omega) HW.out.env HW.out.ord HP.out k5 k6 (by rw [hlc]; omega) (by rw [hlc]; omega) T3'.out T4'.out
                rw [hlc] at HC
                go_wp2_with fail
                try rw [HEZ.out]
                refine Calls.mono HC.out ?_
                rintro x3 w3 ⟨rfl, l3, hO3, hG3, hS3, hK3⟩
                clear HC
                have HW3 : Hid _ := HW.out.go hK3 hO3
                have HS3 : Hid _ := merge_end T5.out HG2.out HT2.out hG3 hS3
                have HG3 : Hid _ := HSG.out.trans (hG3.mono (by omega) (Nat.le_refl _))
                clear hO3 hK3 hG3 hS3
                go_wp2
                all_goals (go_end0; exact ⟨rfl, l3, HW3.out.ord, HG3.out, HS3.out, HW3.out.kept⟩)
              · have k6z : ¬ (n : Int) - (st : Int) < (b : Int) := by omega
                have k6y : ¬ (e : Int) < (b : Int) := by omega
                have k5y : (mid : Int) < (e : Int) := by omega
                have HS3 : Hid _ := merge_end T5.out HG2.out HT2.out (Seg.refl mid b l) (half_srt T3'.out T4'.out (by omega) (by omega) (.inr (by omega)))
                go_wp2
                all_goals (go_end0; exact ⟨rfl, l, HW.out.ord, HSG.out, HS3.out, HW.out.kept⟩)
            · have k5z : ¬ (mid : Int) < (n : Int) - (st : Int) := by omega
              have k5y : ¬ (mid : Int) < (e : Int) := by omega
              have HS3 : Hid _ := merge_end T5.out HG2.out HT2.out (Seg.refl mid b l) (half_srt T3'.out T4'.out (by omega) (by omega) (.inl (by omega)))
              go_wp2
              all_goals (go_end0; exact ⟨rfl, l, HW.out.ord, HSG.out, HS3.out, HW.out.kept⟩)

theorem sym_any (S : Nat → Prop) (GO Bf cap : Nat) (fa : Option Addr) (fc : Nat) (fs : List Int) : ∀ d, SymSays S GO Bf cap fa fc fs d
  | 0 => fun a m b l w hd _ _ _ h1 h2 _ _ _ _ => absurd hd (by omega)
  | d + 1 => fun a m b l w hd hE hO hl h1 h2 hb hn s1 s2 => by
    by_cases c1 : m = a + 1
    · subst c1
      exact sym_one S GO Bf cap a b fa fc fs l w hE hO hl h2 hb hn s2
    · by_cases c2 : b = m + 1
      · subst c2
        exact sym_last S GO Bf cap a m fa fc fs l w hE hO hl (by omega) (by omega) hn s1
      · exact sym_gen S GO Bf cap fa fc fs d (sym_any S GO Bf cap fa fc fs d) a m b l w hd hE hO hl (by omega) (by omega) hb hn s1 s2
end Go.Proofs.YtinbilbgipfemaaDoor
