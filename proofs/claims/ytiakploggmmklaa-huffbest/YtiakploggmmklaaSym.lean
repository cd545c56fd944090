/- slices: two sorted stretches are merged in place. -/
import Derived.Test.YtiakploggmmklaaSwr
namespace Go.Proofs.Ytiakploggmmklaa
open Go.RowKit

/-- How often a symbol comes. -/
def keyF (fs : List Int) (x : Int) : Int := fs[x.toNat]?.getD 0
/-- The list of how often, as the closure holds it. -/
structure SEnv (S : Nat → Prop) (GO Bf : Nat) (fa : Option Addr) (fc : Nat) (fs : List Int) (w : World) : Prop where
  hG : ¬ S GO
  hSB : S Bf
  hc : w.cell? ⟨Bf, 0, none⟩ = some (.slice fa fs.length fc)
  hF : IntsIn S w (.slice fa fs.length fc) fs
theorem SEnv.kept {S : Nat → Prop} {GO Bf : Nat} {fa : Option Addr} {fc : Nat} {fs : List Int} {w w' : World} (h : SEnv S GO Bf fa fc fs w) (hk : Kept (fun k => k ≠ GO) w w') : SEnv S GO Bf fa fc fs w' := by
  have hS : Kept S w w' := hk.mono (fun k hk e => h.hG (e ▸ hk))
  exact ⟨h.hG, h.hSB, (hS.cell (p := ⟨Bf, 0, none⟩) h.hSB).trans h.hc, h.hF.kept hS⟩
theorem SEnv.cmp {S : Nat → Prop} {GO Bf : Nat} {fa : Option Addr} {fc : Nat} {fs : List Int} {w : World} (h : SEnv S GO Bf fa fc fs w) {x y : Int} (hx : 0 ≤ x ∧ x < fs.length) (hy : 0 ≤ y ∧ y < fs.length) :
    ∃ r : Int, (r < 0 ↔ keyF fs x < keyF fs y) ∧ ∀ n, Calls Try.prog 10 #[.int .i64 x, .int .i64 y, .pointer (some ⟨Bf, 0, none⟩)] (w.drewN n) fun e w' => e = .returned (.int .i64 r) ∧ ∃ q, w' = (w.drewN n).drewN q := by
  obtain ⟨xn, rfl⟩ := Int.eq_ofNat_of_zero_le hx.1
  obtain ⟨yn, rfl⟩ := Int.eq_ofNat_of_zero_le hy.1
  refine ⟨_, ?_, fun n => less_any S Bf fa fc fs xn yn (w.drewN n) (by omega) (by omega) h.hc h.hF⟩
  unfold keyF cmpZ
  rw [Int.toNat_natCast, Int.toNat_natCast]
  split
  · simp; assumption
  · split
    · rename_i h1 h2; simp; omega
    · rename_i h1 h2; simp; omega
def InB (fs l : List Int) : Prop := ∀ z ∈ l, 0 ≤ z ∧ z < fs.length
theorem InB.at {fs l : List Int} (h : InB fs l) {i : Nat} (hi : i < l.length) : 0 ≤ gt l i ∧ gt l i < fs.length := by
  have e : gt l i = l[i] := by simp [gt, hi]
  rw [e]
  exact h _ (List.getElem_mem hi)
theorem SEnv.drewN {S : Nat → Prop} {GO Bf : Nat} {fa : Option Addr} {fc : Nat} {fs : List Int} {w : World} (h : SEnv S GO Bf fa fc fs w) (n : Nat) : SEnv S GO Bf fa fc fs (w.drewN n) := ⟨h.hG, h.hSB, h.hc, h.hF⟩
/-- All that a walk carries along. -/
structure SSt (S : Nat → Prop) (GO Bf : Nat) (fa : Option Addr) (fc : Nat) (fs l : List Int) (w wr : World) : Prop where
  env : SEnv S GO Bf fa fc fs wr
  ord : OrdIn wr GO l
  kept : Kept (fun k => k ≠ GO) w wr
theorem SSt.drewN {S : Nat → Prop} {GO Bf : Nat} {fa : Option Addr} {fc : Nat} {fs l : List Int} {w wr : World} (h : SSt S GO Bf fa fc fs l w wr) (n : Nat) : SSt S GO Bf fa fc fs l w (wr.drewN n) := ⟨h.env.drewN n, h.ord.drewN n, h.kept.drewN n⟩
theorem SSt.start {S : Nat → Prop} {GO Bf : Nat} {fa : Option Addr} {fc : Nat} {fs l : List Int} {w : World} (h : SEnv S GO Bf fa fc fs w) (hO : OrdIn w GO l) : SSt S GO Bf fa fc fs l w w := ⟨h, hO, Kept.refl _ _⟩
theorem SSt.go {S : Nat → Prop} {GO Bf : Nat} {fa : Option Addr} {fc : Nat} {fs l l' : List Int} {w wr wn : World} (h : SSt S GO Bf fa fc fs l w wr) (hk : Kept (fun k => k ≠ GO) wr wn) (hO : OrdIn wn GO l') : SSt S GO Bf fa fc fs l' w wn := ⟨h.env.kept hk, hO, h.kept.trans hk⟩
theorem InB.perm {fs l l' : List Int} (h : InB fs l) (hp : l'.Perm l) : InB fs l' := fun z hz => h z (hp.mem_iff.1 hz)

set_option maxRecDepth 100000 in
set_option maxHeartbeats 4000000 in
theorem sym_one (S : Nat → Prop) (GO Bf cap a b : Nat) (fa : Option Addr) (fc : Nat) (fs l : List Int) (w : World) (hE : SEnv S GO Bf fa fc fs w) (hO : OrdIn w GO l) (hl : InB fs l) (hab : a + 1 < b) (hb : b ≤ l.length) (hn : l.length ≤ 100000) (s2 : Srt (keyF fs) l (a + 1) b) :
    Calls Try.prog 25 #[.slice (some ⟨GO, 0, none⟩) l.length cap, .int .i64 a, .int .i64 ((a : Int) + 1), .int .i64 b, .func (.func 10) #[] #[.pointer (some ⟨Bf, 0, none⟩)]] w fun e w' =>
      e = .returned (.tuple #[]) ∧ ∃ l', OrdIn w' GO l' ∧ Seg a b l l' ∧ Srt (keyF fs) l' a b ∧ Kept (fun k => k ≠ GO) w w' := by
  have eg : ∀ args w, (callFunc 10 args).run Try.prog w = .ok (.enter 10 args) w := enters_of Try.func10 (by kernel_rfl) rfl
  have hda : ((a : Int) + 1) - a = 1 := by omega
  go_enter Try.func25, Try.ntmps25
  go_wp2_with fail
  go_loopw [10, 11] (fun v10 v11 wr => ∃ (i j : Nat), v10 = .int .i64 (i : Int) ∧ v11 = .int .i64 (j : Int) ∧ a + 1 ≤ i ∧ i ≤ j ∧ j ≤ b ∧ Hid (∀ h, a + 1 ≤ h → h < i → keyF fs (gt l h) < keyF fs (gt l a)) ∧ Hid (∀ h, j ≤ h → h < b → keyF fs (gt l a) ≤ keyF fs (gt l h)) ∧ Hid (SSt S GO Bf fa fc fs l w wr)) (fun v10 v11 _ => (intOf v11).toNat - (intOf v10).toNat)
  case atStart => exact ⟨a + 1, b, by simp, rfl, by omega, by omega, by omega, fun h h1 h2 => by omega, fun h h1 h2 => by omega, SSt.start hE hO⟩
  case round =>
    obtain ⟨i, j, rfl, rfl, i1, ij, jb, HL, HH, HW⟩ := hrel
    clear hE hO
    by_cases hij : i < j
    · obtain ⟨h, hh⟩ : ∃ h, h = (i + j) / 2 := ⟨_, rfl⟩
      obtain ⟨r, hr, hcmp⟩ := HW.out.env.cmp (hl.at (i := h) (by omega)) (hl.at (i := a) (by omega))
      have c1 := ord_gt HW.out.ord (i := h) (by omega)
      have c2 := ord_gt HW.out.ord (i := a) (by omega)
      have HR : Hid _ := hr
      obtain ⟨x, hx⟩ : ∃ x, gt l h = x := ⟨_, rfl⟩
      obtain ⟨y, hy⟩ : ∃ y, gt l a = y := ⟨_, rfl⟩
      rw [hx] at c1 hcmp
      rw [hy] at c2 hcmp
      clear hx hy
      have hhl : (h : Int) < (l.length : Int) := by omega
      have hal : (a : Int) < (l.length : Int) := by omega
      have HHH : Hid _ := hh
      clear hr hh
      go_wp2
      rw [show ((i : Int) + (j : Int)) / 2 = (h : Int) by have := HHH.out; omega]
      by_cases hr0 : r < 0
      · go_quiet (first | (go_at_fn 10; refine Calls.quiet_of (hcmp _)))
        go_wp2
        have hh := HHH.out
        have hk := HR.out.1 hr0
        refine ⟨⟨h + 1, j, by simp, rfl, by omega, by omega, jb, fun z z1 z2 => ?_, HH, HW.out.drewN _⟩, by simp [intOf]; omega⟩
        have := s2 z h z1 (by omega) (by omega)
        omega
      · go_quiet (first | (go_at_fn 10; refine Calls.quiet_of (hcmp _)))
        go_wp2
        have hh := HHH.out
        have hk : ¬ keyF fs (gt l h) < keyF fs (gt l a) := fun c => hr0 (HR.out.2 c)
        refine ⟨⟨i, h, rfl, rfl, i1, by omega, by omega, HL, fun z z1 z2 => ?_, HW.out.drewN _⟩, by simp [intOf]; omega⟩
        have := s2 h z (by omega) z1 z2
        omega
    · obtain rfl : i = j := by omega
      have HS : Hid _ := mvU_srt hb s2 i1 jb HL.out HH.out
      have HG : Hid _ := mvU_seg (l := l) (a := a) (n := i - 1 - a) (b := b) (by omega) hb
      have HO : Hid (OrdIn wr GO l) := HW.out.ord
      have HK : Hid (Kept (fun k => k ≠ GO) w wr) := HW.out.kept
      clear s2 hl HL HH HW
      go_wp2
      go_loopw [13] (fun v13 wr2 => ∃ (n : Nat), v13 = .int .i64 ((a + n : Nat) : Int) ∧ n ≤ i - 1 - a ∧ Hid (OrdIn wr2 GO (mvU l a n)) ∧ Hid (Kept (fun k => k ≠ GO) w wr2)) (fun v13 _ => b - (intOf v13).toNat)
      case atStart => exact ⟨0, by simp, by omega, HO, HK⟩
      case round =>
        obtain ⟨n, rfl, n1, HO1, HK1⟩ := hrel
        clear HO HK
        by_cases hlt : n < i - 1 - a
        · have hlen := mvU_len l a n
          have c1 := ord_gt HO1.out (i := a + n) (by omega)
          have c2 := ord_gt HO1.out (i := a + n + 1) (by omega)
          have f1 := HO1.out.frozen (a + n)
          have f2 := HO1.out.frozen (a + n + 1)
          have HSW : Hid (OrdIn _ GO (mvU l a (n + 1))) := ord_sw HO1.out (a + n) (a + n + 1)
          have HKK : Hid _ := HK1.out.trans (kept_sw (W := wr) (G := GO) (i := a + n) (j := a + n + 1) (.int .i64 (gt (mvU l a n) (a + n + 1))) (.int .i64 (gt (mvU l a n) (a + n))))
          generalize gt (mvU l a n) (a + n) = x at c1 HSW HKK
          generalize gt (mvU l a n) (a + n + 1) = y at c2 HSW HKK
          obtain ⟨p, hp⟩ : ∃ p, a + n = p := ⟨_, rfl⟩
          rw [hp] at c1 c2 f1 f2 HSW HKK ⊢
          have hpi : (p : Int) < (i : Int) - 1 := by omega
          have hpl : (p : Int) + 1 < (l.length : Int) := by omega
          have hpl0 : (p : Int) < (l.length : Int) := by omega
          clear HO1 HK1 hlen
          go_wp2
          go_region
          all_goals go_wp2
          exact ⟨⟨n + 1, congrArg (Value.int .i64) (by omega), by omega, HSW.out, HKK.out.drew⟩, by simp [intOf]; omega⟩
        · obtain rfl : n = i - 1 - a := by omega
          have hpi : ¬ ((a + (i - 1 - a) : Nat) : Int) < (i : Int) - 1 := by omega
          go_wp2
          (try simp only [Exit.inBlock, Exit.then])
          refine bodyPost_ret (results_none rfl _ _ _) rfl ?_
          exact ⟨rfl, _, HO1.out, HG.out, HS.out, HK1.out⟩
end Go.Proofs.Ytiakploggmmklaa
