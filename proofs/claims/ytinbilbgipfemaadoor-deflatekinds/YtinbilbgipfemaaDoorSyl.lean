import Derived.Test.YtinbilbgipfemaaDoorInsM
/- slices: two sorted stretches are merged in place: the last element alone, and the whole. -/
namespace Go.Proofs.YtinbilbgipfemaaDoor
open Go.RowKit

set_option maxRecDepth 100000 in
set_option maxHeartbeats 4000000 in
theorem sym_last (S : Nat → Prop) (GO Bf cap a m : Nat) (fa : Option Addr) (fc : Nat) (fs l : List Int) (w : World) (hE : SEnv S GO Bf fa fc fs w) (hO : OrdIn w GO l) (hl : InB fs l) (ham : a + 2 ≤ m) (hb : m < l.length) (hn : l.length ≤ 100000) (s1 : Srt (keyF fs) l a m) :
    Calls Tryd.prog 97 #[.slice (some ⟨GO, 0, none⟩) l.length cap, .int .i64 a, .int .i64 m, .int .i64 ((m : Int) + 1), .func (.func 84) #[] #[.pointer (some ⟨Bf, 0, none⟩)]] w fun e w' =>
      e = .returned (.tuple #[]) ∧ ∃ l', OrdIn w' GO l' ∧ Seg a (m + 1) l l' ∧ Srt (keyF fs) l' a (m + 1) ∧ Kept (fun k => k ≠ GO) w w' := by
  have eg : ∀ args w, (callFunc 84 args).run Tryd.prog w = .ok (.enter 84 args) w := enters_of Tryd.func84 (by kernel_rfl) rfl
  have hda : ¬ (m : Int) - a = 1 := by omega
  have hdb : ((m : Int) + 1) - m = 1 := by omega
  go_enter Tryd.func97, Tryd.ntmps97
  go_wp2_with fail
  go_loopw [14, 15] (fun v10 v11 wr => ∃ (i j : Nat), v10 = .int .i64 (i : Int) ∧ v11 = .int .i64 (j : Int) ∧ a ≤ i ∧ i ≤ j ∧ j ≤ m ∧ Hid (∀ h, a ≤ h → h < i → keyF fs (gt l h) ≤ keyF fs (gt l m)) ∧ Hid (∀ h, j ≤ h → h < m → keyF fs (gt l m) < keyF fs (gt l h)) ∧ Hid (SSt S GO Bf fa fc fs l w wr)) (fun v10 v11 _ => (intOf v11).toNat - (intOf v10).toNat)
  case atStart => exact ⟨a, m, rfl, rfl, by omega, by omega, by omega, fun h h1 h2 => by omega, fun h h1 h2 => by omega, SSt.start hE hO⟩
  case round =>
    obtain ⟨i, j, rfl, rfl, i1, ij, jb, HL, HH, HW⟩ := hrel
    clear hE hO
    by_cases hij : i < j
    · obtain ⟨h, hh⟩ : ∃ h, h = (i + j) / 2 := ⟨_, rfl⟩
      obtain ⟨r, hr, hcmp⟩ := HW.out.env.cmp (hl.at (i := m) (by omega)) (hl.at (i := h) (by omega))
      have c1 := ord_gt HW.out.ord (i := h) (by omega)
      have c2 := ord_gt HW.out.ord (i := m) (by omega)
      have HR : Hid _ := hr
      obtain ⟨x, hx⟩ : ∃ x, gt l h = x := ⟨_, rfl⟩
      obtain ⟨y, hy⟩ : ∃ y, gt l m = y := ⟨_, rfl⟩
      rw [hx] at c1 hcmp
      rw [hy] at c2 hcmp
      clear hx hy
      have hhl : (h : Int) < (l.length : Int) := by omega
      have hal : (m : Int) < (l.length : Int) := by omega
      have HHH : Hid _ := hh
      clear hr hh
      go_wp2
      rw [show ((i : Int) + (j : Int)) / 2 = (h : Int) by have := HHH.out; omega]
      by_cases hr0 : r < 0
      · go_quiet (first | (go_at_fn 84; refine Calls.quiet_of (hcmp _)))
        go_wp2
        have hh := HHH.out
        have hk := HR.out.1 hr0
        refine ⟨⟨i, h, rfl, rfl, i1, by omega, by omega, HL, fun z z1 z2 => ?_, HW.out.drewN _⟩, by simp [intOf]; omega⟩
        have := s1 h z (by omega) z1 z2
        omega
      · go_quiet (first | (go_at_fn 84; refine Calls.quiet_of (hcmp _)))
        go_wp2
        have hh := HHH.out
        have hk : ¬ keyF fs (gt l m) < keyF fs (gt l h) := fun c => hr0 (HR.out.2 c)
        refine ⟨⟨h + 1, j, by simp, rfl, by omega, by omega, jb, fun z z1 z2 => ?_, HH, HW.out.drewN _⟩, by simp [intOf]; omega⟩
        have := s1 z h z1 (by omega) (by omega)
        omega
    · obtain rfl : i = j := by omega
      have HS : Hid _ := mvD_srt hb s1 i1 jb HL.out HH.out
      have HG : Hid _ := mvD_seg (l := l) (m := m) (n := m - i) (a := a) hb (by omega)
      have HO : Hid (OrdIn wr GO l) := HW.out.ord
      have HK : Hid (Kept (fun k => k ≠ GO) w wr) := HW.out.kept
      clear s1 hl HL HH HW
      go_wp2
      go_loopw [17] (fun v13 wr2 => ∃ (n : Nat), v13 = .int .i64 ((m - n : Nat) : Int) ∧ n ≤ m - i ∧ Hid (OrdIn wr2 GO (mvD l m n)) ∧ Hid (Kept (fun k => k ≠ GO) w wr2)) (fun v13 _ => (intOf v13).toNat)
      case atStart => exact ⟨0, by simp, by omega, HO, HK⟩
      case round =>
        obtain ⟨n, rfl, n1, HO1, HK1⟩ := hrel
        clear HO HK
        by_cases hlt : n < m - i
        · have hlen := mvD_len l m n
          obtain ⟨p, hp⟩ : ∃ p, m - n = p + 1 := ⟨m - n - 1, by omega⟩
          have c1 := ord_gt HO1.out (i := m - n) (by omega)
          have c2 := ord_gt HO1.out (i := m - n - 1) (by omega)
          have f1 := HO1.out.frozen (m - n)
          have f2 := HO1.out.frozen (m - n - 1)
          have HSW : Hid (OrdIn _ GO (mvD l m (n + 1))) := ord_sw HO1.out (m - n) (m - n - 1)
          have HKK : Hid _ := HK1.out.trans (kept_sw (W := wr) (G := GO) (i := m - n) (j := m - n - 1) (.int .i64 (gt (mvD l m n) (m - n - 1))) (.int .i64 (gt (mvD l m n) (m - n))))
          generalize gt (mvD l m n) (m - n) = x at c1 HSW HKK
          generalize gt (mvD l m n) (m - n - 1) = y at c2 HSW HKK
          have hp1 : m - n - 1 = p := by omega
          rw [hp1] at c2 f2 HSW HKK
          rw [hp] at c1 f1 HSW HKK ⊢
          have hpi : (i : Int) < (p : Int) + 1 := by omega
          have hpl : (p : Int) + 1 < (l.length : Int) := by omega
          have hpl0 : (p : Int) < (l.length : Int) := by omega
          have hwp : IntKind.i64.wrap (p : Int) = (p : Int) := by rw [IntKind.wrap_i64]; omega
          clear HO1 HK1 hlen
          go_wp2
          go_region
          all_goals go_wp2
          exact ⟨⟨n + 1, congrArg (Value.int .i64) (by omega), by omega, HSW.out, HKK.out.drew⟩, by simp [intOf]⟩
        · obtain rfl : n = m - i := by omega
          have hpi : ¬ (i : Int) < ((m - (m - i) : Nat) : Int) := by omega
          go_wp2
          (try simp only [Exit.inBlock, Exit.then])
          refine bodyPost_ret (results_none rfl _ _ _) rfl ?_
          exact ⟨rfl, _, HO1.out, HG.out, HS.out, HK1.out⟩
end Go.Proofs.YtinbilbgipfemaaDoor
