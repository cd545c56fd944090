/- Room: a stream that is read with some room is read with just as much as it needs, and refused with less. -/
import Derived.Test.YtiheajlgaehfmaaDoorPrd
namespace Go.Proofs.YtiheajlgaehfmaaDoor

/-- What f tells with room M it tells with whatever room is enough; with less it says 3. -/
def Sized (f : Nat → Except Int (Nat × List Int)) (out : List Int) : Prop :=
  ∀ M p o, f M = .ok (p, o) → out.length ≤ o.length ∧ o.length ≤ max M out.length ∧ ∀ m, out.length ≤ m → f m = if o.length ≤ m then .ok (p, o) else .error 3

theorem sized_plain (bs : List Int) (pos : Nat) (out : List Int) : Sized (fun m => plainS bs m pos out) out := by
  intro M p o h
  simp only [plainS] at h ⊢
  cases h1 : takeS bs ((pos + 7) / 8 * 8) 16 with
  | error e => rw [h1] at h; cases h
  | ok r1 =>
    obtain ⟨n, p1⟩ := r1
    rw [h1] at h
    simp only at h ⊢
    cases h2 : takeS bs p1 16 with
    | error e => rw [h2] at h; cases h
    | ok r2 =>
      obtain ⟨m2, p2⟩ := r2
      rw [h2] at h
      simp only at h ⊢
      split at h
      · cases h
      · rename_i hx
        split at h
        · cases h
        · rename_i hM
          cases h3 : bytesS bs p2 n with
          | error e => rw [h3] at h; cases h
          | ok r3 =>
            obtain ⟨b, p3⟩ := r3
            rw [h3] at h
            simp only [Except.ok.injEq, Prod.mk.injEq] at h
            obtain ⟨rfl, rfl⟩ := h
            have hb : b.length = n := by
              unfold bytesS at h3
              split at h3
              · simp only [Except.ok.injEq, Prod.mk.injEq] at h3
                rw [← h3.1, List.length_take, List.length_drop]
                omega
              · cases h3
            refine ⟨by simp, by rw [List.length_append]; omega, fun m hm => ?_⟩
            rw [if_neg hx, List.length_append]
            by_cases hr : out.length + b.length ≤ m
            · rw [if_neg (by omega), if_pos hr]
            · rw [if_pos (by omega), if_neg hr]
theorem copyS_len (far : Nat) : ∀ (n : Nat) (out : List Int), (copyS far n out).length = out.length + n := copyS_length far
theorem sized_copied (dz bs : List Int) (sym pos : Nat) (out : List Int) : Sized (fun m => copiedS dz bs m sym pos out) out := by
  intro M p o h
  simp only at h ⊢
  cases hl : litS (sym : Int) with
  | none => rw [copiedS_none hl] at h; cases h
  | some be =>
    obtain ⟨b1, x1⟩ := be
    cases h2 : takeS bs pos x1 with
    | error e => rw [copiedS_take hl h2] at h; cases h
    | ok r2 =>
      obtain ⟨x, p2⟩ := r2
      cases h3 : nextS dz bs p2 with
      | error e => rw [copiedS_next hl h2 h3] at h; cases h
      | ok r3 =>
        obtain ⟨dd, p3⟩ := r3
        cases h4 : distS (dd : Int) with
        | none => rw [copiedS_dist hl h2 h3 h4] at h; cases h
        | some de =>
          obtain ⟨b2, x2⟩ := de
          cases h5 : takeS bs p3 x2 with
          | error e => rw [copiedS_take2 hl h2 h3 h4 h5] at h; cases h
          | ok r5 =>
            obtain ⟨y, p4⟩ := r5
            rw [copiedS_all hl h2 h3 h4 h5] at h
            split at h
            · cases h
            · rename_i hfar
              split at h
              · cases h
              · rename_i hM
                simp only [Except.ok.injEq, Prod.mk.injEq] at h
                obtain ⟨rfl, rfl⟩ := h
                refine ⟨by rw [copyS_length]; omega, by rw [copyS_length]; omega, fun m hm => ?_⟩
                rw [copiedS_all hl h2 h3 h4 h5, if_neg hfar, copyS_length]
                by_cases hr : out.length + (b1 + x) ≤ m
                · rw [if_neg (by omega), if_pos hr]
                · rw [if_pos (by omega), if_neg hr]
/-- One symbol. -/
theorem sized_step (lz dz bs : List Int) (pos : Nat) (out : List Int) (M : Nat) (u : Option Unit) (p : Nat) (o : List Int) (h : symStep lz dz bs M pos out = .ok (u, p, o)) :
    out.length ≤ o.length ∧ o.length ≤ max M out.length ∧ ∀ m, out.length ≤ m → symStep lz dz bs m pos out = if o.length ≤ m then .ok (u, p, o) else .error 3 := by
  cases hn : nextS lz bs pos with
  | error e => rw [symStep_next hn] at h; cases h
  | ok r =>
    obtain ⟨x, p1⟩ := r
    by_cases hx : x < 256
    · rw [symStep_byte hn hx] at h
      split at h
      · simp only [Except.ok.injEq, Prod.mk.injEq] at h
        obtain ⟨rfl, rfl, rfl⟩ := h
        refine ⟨by simp, by simp; omega, fun m hm => ?_⟩
        rw [symStep_byte hn hx, List.length_append]
        by_cases hr : out.length < m
        · rw [if_pos hr, if_pos (by simp; omega)]
        · rw [if_neg hr, if_neg (by simp; omega)]
      · cases h
    · by_cases hx6 : x = 256
      · subst hx6
        rw [symStep_end hn] at h
        simp only [Except.ok.injEq, Prod.mk.injEq] at h
        obtain ⟨rfl, rfl, rfl⟩ := h
        exact ⟨Nat.le_refl _, by omega, fun m hm => by rw [symStep_end hn, if_pos hm]⟩
      · rw [symStep_copy hn (by omega)] at h
        split at h
        · cases h
        · rename_i p' o' hc
          simp only [Except.ok.injEq, Prod.mk.injEq] at h
          obtain ⟨rfl, rfl, rfl⟩ := h
          obtain ⟨h1, h2, h3⟩ := sized_copied dz bs x p1 out M p' o' hc
          refine ⟨h1, h2, fun m hm => ?_⟩
          rw [symStep_copy hn (by omega)]
          have h4 := h3 m hm
          simp only at h4
          rw [h4]
          by_cases hr : o'.length ≤ m
          · rw [if_pos hr, if_pos hr]
          · rw [if_neg hr, if_neg hr]
theorem sized_syms (lz dz bs : List Int) : ∀ (f pos : Nat) (out : List Int), Sized (fun m => symsS lz dz bs m f pos out) out := by
  intro f
  induction f with
  | zero => intro pos out M p o h; simp [symsS] at h
  | succ f ih =>
    intro pos out M p o h
    simp only at h ⊢
    cases hs : symStep lz dz bs M pos out with
    | error e => rw [symsS_err hs] at h; cases h
    | ok r =>
      obtain ⟨u, p1, o1⟩ := r
      obtain ⟨h1, h2, h3⟩ := sized_step lz dz bs pos out M u p1 o1 hs
      cases u with
      | none =>
        rw [symsS_end hs] at h
        simp only [Except.ok.injEq, Prod.mk.injEq] at h
        obtain ⟨rfl, rfl⟩ := h
        refine ⟨h1, h2, fun m hm => ?_⟩
        have h4 := h3 m hm
        by_cases hr : o1.length ≤ m
        · rw [if_pos hr] at h4 ⊢
          exact symsS_end h4
        · rw [if_neg hr] at h4 ⊢
          exact symsS_err h4
      | some u =>
        rw [symsS_more hs] at h
        obtain ⟨k1, k2, k3⟩ := ih p1 o1 M p o h
        refine ⟨by omega, by omega, fun m hm => ?_⟩
        have h4 := h3 m hm
        by_cases hr : o1.length ≤ m
        · rw [if_pos hr] at h4
          rw [symsS_more h4]
          exact k3 m hr
        · rw [if_neg hr] at h4
          rw [if_neg (by omega)]
          exact symsS_err h4
theorem sized_block (bs : List Int) (hb : AreBytes bs) (kind pos : Nat) (out : List Int) : Sized (fun m => blockS bs m kind pos out) out := by
  intro M p o h
  simp only [blockS] at h ⊢
  by_cases h0 : kind = 0
  · rw [if_pos h0] at h
    simp only [if_pos h0]
    simp only [← plain_stored hb] at h ⊢
    exact sized_plain bs pos out M p o h
  · rw [if_neg h0] at h
    simp only [if_neg h0]
    by_cases h1 : kind = 1
    · rw [if_pos h1] at h
      simp only [if_pos h1]
      exact sized_syms fixLit fixDist bs _ pos out M p o h
    · rw [if_neg h1] at h
      simp only [if_neg h1]
      by_cases h2 : kind = 2
      · rw [if_pos h2] at h
        simp only [if_pos h2]
        simp only [dyn_head] at h ⊢
        cases hd : dynH bs pos with
        | error e => rw [hd] at h; cases h
        | ok r =>
          obtain ⟨lz, dz, p4⟩ := r
          rw [hd] at h
          exact sized_syms lz dz bs _ p4 out M p o h
      · rw [if_neg h2] at h
        cases h
theorem sized_infl (bs : List Int) (hb : AreBytes bs) : ∀ (f pos : Nat) (out : List Int), Sized (fun m => inflS bs m f pos out) out := by
  intro f
  induction f with
  | zero => intro pos out M p o h; simp [inflS] at h
  | succ f ih =>
    intro pos out M p o h
    simp only at h ⊢
    cases t1 : takeS bs pos 1 with
    | error e => rw [inflS_err (headS_1 t1)] at h; cases h
    | ok r1 =>
      obtain ⟨x, p1⟩ := r1
      cases t2 : takeS bs p1 2 with
      | error e => rw [inflS_err (headS_2 t1 t2)] at h; cases h
      | ok r2 =>
        obtain ⟨k, p2⟩ := r2
        have hh : ∀ m, headS bs m pos out = _ := fun m => headS_3 (most := m) (out := out) t1 t2
        cases hbk : blockS bs M k p2 out with
        | error e =>
          have : headS bs M pos out = .error e := by rw [hh M, hbk]
          rw [inflS_err this] at h
          cases h
        | ok r3 =>
          obtain ⟨p3, o3⟩ := r3
          obtain ⟨h1, h2, h3⟩ := sized_block bs hb k p2 out M p3 o3 hbk
          simp only at h3
          have hM : headS bs M pos out = .ok (decide (x = 1), p3, o3) := by rw [hh M, hbk]
          have hok : ∀ m, out.length ≤ m → o3.length ≤ m → headS bs m pos out = .ok (decide (x = 1), p3, o3) := fun m hm hr => by rw [hh m, h3 m hm, if_pos hr]
          have her : ∀ m, out.length ≤ m → ¬ o3.length ≤ m → headS bs m pos out = .error 3 := fun m hm hr => by rw [hh m, h3 m hm, if_neg hr]
          cases hx : decide (x = 1) with
          | true =>
            rw [hx] at hM hok
            rw [inflS_last hM] at h
            simp only [Except.ok.injEq, Prod.mk.injEq] at h
            obtain ⟨rfl, rfl⟩ := h
            refine ⟨h1, h2, fun m hm => ?_⟩
            by_cases hr : o3.length ≤ m
            · rw [if_pos hr]
              exact inflS_last (hok m hm hr)
            · rw [if_neg hr]
              exact inflS_err (her m hm hr)
          | false =>
            rw [hx] at hM hok
            rw [inflS_more hM] at h
            obtain ⟨k1, k2, k3⟩ := ih p3 o3 M p o h
            refine ⟨by omega, by omega, fun m hm => ?_⟩
            by_cases hr : o3.length ≤ m
            · rw [inflS_more (hok m hm hr)]
              exact k3 m hr
            · rw [if_neg (by omega)]
              exact inflS_err (her m hm hr)
/-- The whole: with just as much room as it needs; with less: refused. -/
theorem inflate_room {bs : List Int} (hb : AreBytes bs) {M : Nat} {out : List Int} {took : Nat} (h : inflateS bs (M : Int) = .ok (out, took)) :
    out.length ≤ M ∧ inflateS bs (out.length : Int) = .ok (out, took) ∧ (1 ≤ out.length → inflateS bs ((out.length : Int) - 1) = .error 3) := by
  have e : ∀ m : Nat, inflateS bs (m : Int) = match inflS bs m (8 * bs.length + 1) 0 [] with | .error e => .error e | .ok (pos, out) => .ok (out, (pos + 7) / 8) := by
    intro m
    rw [inflateS, if_neg (by omega), Int.toNat_natCast]
    cases inflS bs m (8 * bs.length + 1) 0 [] <;> rfl
  rw [e M] at h
  cases hi : inflS bs M (8 * bs.length + 1) 0 [] with
  | error er => rw [hi] at h; cases h
  | ok r =>
    obtain ⟨p, o⟩ := r
    rw [hi] at h
    simp only [Except.ok.injEq, Prod.mk.injEq] at h
    obtain ⟨rfl, rfl⟩ := h
    obtain ⟨h1, h2, h3⟩ := sized_infl bs hb _ 0 [] M p o hi
    simp only [List.length_nil, Nat.zero_le, true_implies] at h2 h3
    refine ⟨by omega, by rw [e, h3, if_pos (Nat.le_refl _)], fun hl => ?_⟩
    rw [show (o.length : Int) - 1 = ((o.length - 1 : Nat) : Int) by omega, e, h3, if_neg (by omega)]
end Go.Proofs.YtiheajlgaehfmaaDoor
