import Derived.Test.YtiheajlgaehfmaaDoorPrd
import Derived.Test.YtiheajlgaehfmaaDoorPfc
/- Room: a stream that is read with some room is read with just as much as it needs, and refused with less. -/
namespace Go.Proofs.YtiheajlgaehfmaaDoor

/-- What f tells with room M it tells with whatever room is enough; with less it says 3. -/
def Sized (f : Nat → Except Int (Nat × List Int)) (out : List Int) : Prop :=
  ∀ M p o, f M = .ok (p, o) → out.length ≤ o.length ∧ o.length ≤ max M out.length ∧ ∀ m, out.length ≤ m → f m = if o.length ≤ m then .ok (p, o) else .error 3

theorem sized_plain (bs : List Int) (pos : Nat) (out : List Int) : Sized (fun m => plainS bs m pos out) out := by
  intro M p o h
  simp only [plainS] at h ⊢
  cases h1 : takeS bs ((pos + 7) / 8 * 8) 16 with
  | error e => rw [h1] at h; cases h
  | ok r1 =>
    obtain ⟨n, p1⟩ := r1
    rw [h1] at h
    simp only at h ⊢
    cases h2 : takeS bs p1 16 with
    | error e => rw [h2] at h; cases h
    | ok r2 =>
      obtain ⟨m2, p2⟩ := r2
      rw [h2] at h
      simp only at h ⊢
      split at h
      · cases h
      · rename_i hx
        split at h
        · cases h
        · rename_i hM
          cases h3 : bytesS bs p2 n with
          | error e => rw [h3] at h; cases h
          | ok r3 =>
            obtain ⟨b, p3⟩ := r3
            rw [h3] at h
            simp only [Except.ok.injEq, Prod.mk.injEq] at h
            obtain ⟨rfl, rfl⟩ := h
            have hb : b.length = n := by
              unfold bytesS at h3
              split at h3
              · simp only [Except.ok.injEq, Prod.mk.injEq] at h3
                rw [← h3.1, List.length_take, List.length_drop]
                omega
              · cases h3
            refine ⟨by simp, by rw [List.length_append]; omega, fun m hm => ?_⟩
            rw [if_neg hx, List.length_append]
            by_cases hr : out.length + b.length ≤ m
            · rw [if_neg (by omega), if_pos hr]
            · rw [if_pos (by omega), if_neg hr]
theorem copyS_len (far : Nat) : ∀ (n : Nat) (out : List Int), (copyS far n out).length = out.length + n := copyS_length far
theorem sized_copied (dz bs : List Int) (sym pos : Nat) (out : List Int) : Sized (fun m => copiedS dz bs m sym pos out) out := by
  intro M p o h
  simp only at h ⊢
  cases hl : litS (sym : Int) with
  | none => rw [copiedS_none hl] at h; cases h
  | some be =>
    obtain ⟨b1, x1⟩ := be
    cases h2 : takeS bs pos x1 with
    | error e => rw [copiedS_take hl h2] at h; cases h
    | ok r2 =>
      obtain ⟨x, p2⟩ := r2
      cases h3 : nextS dz bs p2 with
      | error e => rw [copiedS_next hl h2 h3] at h; cases h
      | ok r3 =>
        obtain ⟨dd, p3⟩ := r3
        cases h4 : distS (dd : Int) with
        | none => rw [copiedS_dist hl h2 h3 h4] at h; cases h
        | some de =>
          obtain ⟨b2, x2⟩ := de
          cases h5 : takeS bs p3 x2 with
          | error e => rw [copiedS_take2 hl h2 h3 h4 h5] at h; cases h
          | ok r5 =>
            obtain ⟨y, p4⟩ := r5
            rw [copiedS_all hl h2 h3 h4 h5] at h
            split at h
            · cases h
            · rename_i hfar
              split at h
              · cases h
              · rename_i hM
                simp only [Except.ok.injEq, Prod.mk.injEq] at h
                obtain ⟨rfl, rfl⟩ := h
                refine ⟨by rw [copyS_length]; omega, by rw [copyS_length]; omega, fun m hm => ?_⟩
                rw [copiedS_all hl h2 h3 h4 h5, if_neg hfar, copyS_length]
                by_cases hr : out.length + (b1 + x) ≤ m
                · rw [if_neg (by omega), if_pos hr]
                · rw [if_pos (by omega), if_neg hr]
/-- One symbol. -/
theorem sized_step (lz dz bs : List Int) (pos : Nat) (out : List Int) (M : Nat) (u : Option Unit) (p : Nat) (o : List Int) (h : symStep lz dz bs M pos out = .ok (u, p, o)) :
    out.length ≤ o.length ∧ o.length ≤ max M out.length ∧ ∀ m, out.length ≤ m → symStep lz dz bs m pos out = if o.length ≤ m then .ok (u, p, o) else .error 3 := by
  cases hn : nextS lz bs pos with
  | error e => rw [symStep_next hn] at h; cases h
  | ok r =>
    obtain ⟨x, p1⟩ := r
    by_cases hx : x < 256
    · rw [symStep_byte hn hx] at h
      split at h
      · simp only [Except.ok.injEq, Prod.mk.injEq] at h
        obtain ⟨rfl, rfl, rfl⟩ := h
        refine ⟨by simp, by simp; omega, fun m hm => ?_⟩
        rw [symStep_byte hn hx, List.length_append]
        by_cases hr : out.length < m
        · rw [if_pos hr, if_pos (by simp; omega)]
        · rw [if_neg hr, if_neg (by simp; omega)]
      · cases h
    · by_cases hx6 : x = 256
      · subst hx6
        rw [symStep_end hn] at h
        simp only [Except.ok.injEq, Prod.mk.injEq] at h
        obtain ⟨rfl, rfl, rfl⟩ := h
        exact ⟨Nat.le_refl _, by omega, fun m hm => by rw [symStep_end hn, if_pos hm]⟩
      · rw [symStep_copy hn (by omega)] at h
        split at h
        · cases h
        · rename_i p' o' hc
          simp only [Except.ok.injEq, Prod.mk.injEq] at h
          obtain ⟨rfl, rfl, rfl⟩ := h
          obtain ⟨h1, h2, h3⟩ := sized_copied dz bs x p1 out M p' o' hc
          refine ⟨h1, h2, fun m hm => ?_⟩
          rw [symStep_copy hn (by omega)]
          have h4 := h3 m hm
          simp only at h4
          rw [h4]
          by_cases hr : o'.length ≤ m
          · rw [if_pos hr, if_pos hr]
          · rw [if_neg hr, if_neg hr]
theorem sized_syms (lz dz bs : List Int) : ∀ (f pos : Nat) (out : List Int), Sized (fun m => symsS lz dz bs m f pos out) out := by
  intro f
  induction f with
  | zero => intro pos out M p o h; simp [symsS] at h
  | succ f ih =>
    intro pos out M p o h
    simp only at h ⊢
    cases hs : symStep lz dz bs M pos out with
    | error e => rw [symsS_err hs] at h; cases h
    | ok r =>
      obtain ⟨u, p1, o1⟩ := r
      obtain ⟨h1, h2, h3⟩ := sized_step lz dz bs pos out M u p1 o1 hs
      cases u with
      | none =>
        rw [symsS_end hs] at h
        simp only [Except.ok.injEq, Prod.mk.injEq] at h
        obtain ⟨rfl, rfl⟩ := h
        refine ⟨h1, h2, fun m hm => ?_⟩
        have h4 := h3 m hm
        by_cases hr : o1.length ≤ m
        · rw [if_pos hr] at h4 ⊢
          exact symsS_end h4
        · rw [if_neg hr] at h4 ⊢
          exact symsS_err h4
      | some u =>
        rw [symsS_more hs] at h
        obtain ⟨k1, k2, k3⟩ := ih p1 o1 M p o h
        refine ⟨by omega, by omega, fun m hm => ?_⟩
        have h4 := h3 m hm
        by_cases hr : o1.length ≤ m
        · rw [if_pos hr] at h4
          rw [symsS_more h4]
          exact k3 m hr
        · rw [if_neg hr] at h4
          rw [if_neg (by omega)]
          exact symsS_err h4
theorem sized_block (bs : List Int) (hb : AreBytes bs) (kind pos : Nat) (out : List Int) : Sized (fun m => blockS bs m kind pos out) out := by
  intro M p o h
  simp only [blockS] at h ⊢
  by_cases h0 : kind = 0
  · rw [if_pos h0] at h
    simp only [if_pos h0]
    simp only [← plain_stored hb] at h ⊢
    exact sized_plain bs pos out M p o h
  · rw [if_neg h0] at h
    simp only [if_neg h0]
    by_cases h1 : kind = 1
    · rw [if_pos h1] at h
      simp only [if_pos h1]
      exact sized_syms fixLit fixDist bs _ pos out M p o h
    · rw [if_neg h1] at h
      simp only [if_neg h1]
      by_cases h2 : kind = 2
      · rw [if_pos h2] at h
        simp only [if_pos h2]
        simp only [dyn_head] at h ⊢
        cases hd : dynH bs pos with
        | error e => rw [hd] at h; cases h
        | ok r =>
          obtain ⟨lz, dz, p4⟩ := r
          rw [hd] at h
          exact sized_syms lz dz bs _ p4 out M p o h
      · rw [if_neg h2] at h
        cases h
theorem sized_infl (bs : List Int) (hb : AreBytes bs) : ∀ (f pos : Nat) (out : List Int), Sized (fun m => inflS bs m f pos out) out := by
  intro f
  induction f with
  | zero => intro pos out M p o h; simp [inflS] at h
  | succ f ih =>
    intro pos out M p o h
    simp only at h ⊢
    cases t1 : takeS bs pos 1 with
    | error e => rw [inflS_err (headS_1 t1)] at h; cases h
    | ok r1 =>
      obtain ⟨x, p1⟩ := r1
      cases t2 : takeS bs p1 2 with
      | error e => rw [inflS_err (headS_2 t1 t2)] at h; cases h
      | ok r2 =>
        obtain ⟨k, p2⟩ := r2
        have hh : ∀ m, headS bs m pos out = _ := fun m => headS_3 (most := m) (out := out) t1 t2
        cases hbk : blockS bs M k p2 out with
        | error e =>
          have : headS bs M pos out = .error e := by rw [hh M, hbk]
          rw [inflS_err this] at h
          cases h
        | ok r3 =>
          obtain ⟨p3, o3⟩ := r3
          obtain ⟨h1, h2, h3⟩ := sized_block bs hb k p2 out M p3 o3 hbk
          simp only at h3
          have hM : headS bs M pos out = .ok (decide (x = 1), p3, o3) := by rw [hh M, hbk]
          have hok : ∀ m, out.length ≤ m → o3.length ≤ m → headS bs m pos out = .ok (decide (x = 1), p3, o3) := fun m hm hr => by rw [hh m, h3 m hm, if_pos hr]
          have her : ∀ m, out.length ≤ m → ¬ o3.length ≤ m → headS bs m pos out = .error 3 := fun m hm hr => by rw [hh m, h3 m hm, if_neg hr]
          cases hx : decide (x = 1) with
          | true =>
            rw [hx] at hM hok
            rw [inflS_last hM] at h
            simp only [Except.ok.injEq, Prod.mk.injEq] at h
            obtain ⟨rfl, rfl⟩ := h
            refine ⟨h1, h2, fun m hm => ?_⟩
            by_cases hr : o3.length ≤ m
            · rw [if_pos hr]
              exact inflS_last (hok m hm hr)
            · rw [if_neg hr]
              exact inflS_err (her m hm hr)
          | false =>
            rw [hx] at hM hok
            rw [inflS_more hM] at h
            obtain ⟨k1, k2, k3⟩ := ih p3 o3 M p o h
            refine ⟨by omega, by omega, fun m hm => ?_⟩
            by_cases hr : o3.length ≤ m
            · rw [inflS_more (hok m hm hr)]
              exact k3 m hr
            · rw [if_neg (by omega)]
              exact inflS_err (her m hm hr)
/-- The whole: with just as much room as it needs; with less: refused. -/
theorem inflate_room {bs : List Int} (hb : AreBytes bs) {M : Nat} {out : List Int} {took : Nat} (h : inflateS bs (M : Int) = .ok (out, took)) :
    out.length ≤ M ∧ inflateS bs (out.length : Int) = .ok (out, took) ∧ (1 ≤ out.length → inflateS bs ((out.length : Int) - 1) = .error 3) := by
  have e : ∀ m : Nat, inflateS bs (m : Int) = match inflS bs m (8 * bs.length + 1) 0 [] with | .error e => .error e | .ok (pos, out) => .ok (out, (pos + 7) / 8) := by
    intro m
    rw [inflateS, if_neg (by omega), Int.toNat_natCast]
    cases inflS bs m (8 * bs.length + 1) 0 [] <;> rfl
  rw [e M] at h
  cases hi : inflS bs M (8 * bs.length + 1) 0 [] with
  | error er => rw [hi] at h; cases h
  | ok r =>
    obtain ⟨p, o⟩ := r
    rw [hi] at h
    simp only [Except.ok.injEq, Prod.mk.injEq] at h
    obtain ⟨rfl, rfl⟩ := h
    obtain ⟨h1, h2, h3⟩ := sized_infl bs hb _ 0 [] M p o hi
    simp only [List.length_nil, Nat.zero_le, true_implies] at h2 h3
    refine ⟨by omega, by rw [e, h3, if_pos (Nat.le_refl _)], fun hl => ?_⟩
    rw [show (o.length : Int) - 1 = ((o.length - 1 : Nat) : Int) by omega, e, h3, if_neg (by omega)]
end Go.Proofs.YtiheajlgaehfmaaDoor
/- What a stream tells hangs on its own bytes alone; cut, it has no end. -/
namespace Go.Proofs.YtiheajlgaehfmaaDoor

/-- The first k bytes are the same. -/
structure Pre (k : Nat) (bs bs' : List Int) : Prop where
  l1 : k ≤ bs.length
  l2 : k ≤ bs'.length
  eq : ∀ j, j < k → bs'[j]? = bs[j]?
/-- From place pos on f reads as far as it says: with so many bytes it says the same; cut, it says 10. -/
def Loc {β : Type} (pr : β → Nat) (f : List Int → Except Int β) (pos : Nat) : Prop :=
  ∀ bs r, f bs = .ok r → pos ≤ pr r ∧ (pos ≤ 8 * bs.length → pr r ≤ 8 * bs.length) ∧ ∀ bs' k, Pre k bs bs' → pos ≤ 8 * k → (pr r ≤ 8 * k → f bs' = .ok r) ∧ (8 * k < pr r → bs'.length = k → f bs' = .error 10)
theorem Loc.bind {β γ : Type} {pr : β → Nat} {qr : γ → Nat} {f : List Int → Except Int β} {g : β → List Int → Except Int γ} {pos : Nat} (hf : Loc pr f pos) (hg : ∀ r, (∃ bs, f bs = .ok r) → Loc qr (g r) (pr r)) :
    Loc qr (fun bs => f bs >>= fun r => g r bs) pos := by
  intro bs r h
  simp only [Bind.bind, Except.bind] at h
  cases h1 : f bs with
  | error e => rw [h1] at h; cases h
  | ok r1 =>
    rw [h1] at h
    simp only at h
    obtain ⟨a1, a2, a3⟩ := hf bs r1 h1
    obtain ⟨b1, b2, b3⟩ := hg r1 ⟨bs, h1⟩ bs r h
    refine ⟨by omega, fun hp => b2 (a2 hp), fun bs' k hP hk => ?_⟩
    obtain ⟨c1, c2⟩ := a3 bs' k hP hk
    simp only [Bind.bind, Except.bind]
    by_cases hr : pr r1 ≤ 8 * k
    · rw [c1 hr]
      exact b3 bs' k hP hr
    · refine ⟨fun h => by omega, fun _ hl => ?_⟩
      rw [c2 (by omega) hl]
theorem Loc.pure {β : Type} {pr : β → Nat} (r : β) {pos : Nat} (h : pr r = pos) : Loc pr (fun _ => .ok r) pos := by
  intro bs r' h'
  simp only [Except.ok.injEq] at h'
  subst h'
  exact ⟨by omega, fun hp => by omega, fun bs' k _ hk => ⟨fun _ => rfl, fun h2 => by omega⟩⟩
theorem Loc.err {β : Type} {pr : β → Nat} (e : Int) {pos : Nat} : Loc pr (fun _ => (.error e : Except Int β)) pos := by
  intro bs r h
  cases h
theorem Loc.ite {β : Type} {pr : β → Nat} {c : Prop} [Decidable c] {f g : List Int → Except Int β} {pos : Nat} (hf : Loc pr f pos) (hg : Loc pr g pos) : Loc pr (fun bs => if c then f bs else g bs) pos := by
  by_cases h : c
  · simpa [h] using hf
  · simpa [h] using hg
theorem Loc.congr {β : Type} {pr : β → Nat} {f g : List Int → Except Int β} {pos : Nat} (h : Loc pr f pos) (e : ∀ bs, g bs = f bs) : Loc pr g pos := by
  have : g = f := funext e
  rw [this]
  exact h

theorem bitAt_pre {k : Nat} {bs bs' : List Int} (h : Pre k bs bs') (p : Nat) (hp : p < 8 * k) : bitAt bs' p = bitAt bs p := by
  have := h.eq (p / 8) (by omega)
  simp only [bitAt, this]
theorem loc_take (pos n : Nat) : Loc (fun r : Nat × Nat => r.2) (fun bs => takeS bs pos n) pos := by
  intro bs r h
  simp only [takeS] at h
  split at h
  · rename_i hl
    simp only [Except.ok.injEq] at h
    subst h
    refine ⟨by simp, fun _ => hl, fun bs' k hP hk => ⟨fun hr => ?_, fun hr hlen => ?_⟩⟩
    · have := hP.l2
      simp only [takeS]
      simp only at hr
      rw [if_pos (by omega)]
      congr 3
      unfold upto
      refine List.map_congr_left (fun i hi => ?_)
      have hi' : i < n := by simpa using hi
      unfold bitF
      rw [bitAt_pre hP _ (by omega)]
    · simp only [takeS]
      simp only at hr
      rw [if_neg (by omega)]
  · cases h
theorem loc_bytes (pos n : Nat) : Loc (fun r : List Int × Nat => r.2) (fun bs => bytesS bs pos n) pos := by
  intro bs r h
  simp only [bytesS] at h
  split at h
  · rename_i hl
    simp only [Except.ok.injEq] at h
    subst h
    refine ⟨by simp only; omega, fun _ => by simp only; omega, fun bs' k hP hk => ⟨fun hr => ?_, fun hr hlen => ?_⟩⟩
    · have := hP.l2
      simp only [bytesS]
      simp only at hr
      rw [if_pos (by omega)]
      congr 2
      apply List.ext_getElem?
      intro j
      by_cases hj : j < n
      · rw [List.getElem?_take_of_lt hj, List.getElem?_take_of_lt hj, List.getElem?_drop, List.getElem?_drop, hP.eq _ (by omega)]
      · rw [List.getElem?_eq_none (by rw [List.length_take]; omega), List.getElem?_eq_none (by rw [List.length_take]; omega)]
    · simp only [bytesS]
      simp only at hr
      rw [if_neg (by omega)]
  · cases h
theorem rn_pre (zs : List Int) (bit bit' : Nat → Nat) (avail avail' m : Nat) (hbit : ∀ j, j < m → bit' j = bit j) (ha : m ≤ avail') : ∀ f k code x t, rn zs bit avail f k code = (x, 0, t) →
    (t ≤ m → rn zs bit' avail' f k code = (x, 0, t)) ∧ (m < t → avail' = m → rn zs bit' avail' f k code = (0, 10, 0)) := by
  intro f
  induction f with
  | zero => intro k code x t h; simp [rn] at h
  | succ f ih =>
    intro k code x t h
    rw [rn] at h
    split at h
    · rename_i hbg
      split at h
      · rename_i hka
        by_cases hkm : k < m
        · rw [rn, if_pos hbg, if_pos (by omega : k < avail'), hbit k hkm]
          cases hfd : (List.range zs.length).find? (isSym zs (k + 1) (2 * code + bit k)) with
          | some i =>
            rw [hfd] at h
            simp only [Prod.mk.injEq] at h ⊢
            refine ⟨fun _ => ?_, fun h2 => by omega⟩
            omega
          | none =>
            rw [hfd] at h
            exact ih _ _ _ _ h
        · have ht : k + 1 ≤ t := by
            split at h
            · simp only [Prod.mk.injEq] at h
              omega
            · have h2 := rn_more zs bit avail f (k + 1) (2 * code + bit k) (by rw [h])
              rw [h] at h2
              simp only at h2
              omega
          refine ⟨fun h2 => by omega, fun _ hav => ?_⟩
          rw [rn, if_pos hbg, if_neg (by omega)]
      · simp at h
    · simp at h
theorem loc_next (zs : List Int) (hz : errOf zs = 0) (pos : Nat) : Loc (fun r : Nat × Nat => r.2) (fun bs => nextS zs bs pos) pos := by
  intro bs r h
  have e : ∀ bs, nextOf zs bs pos = rn zs (bitFrom bs pos) (8 * bs.length - pos) 15 0 0 := fun bs => (Good.of_err hz).same _ (bitFrom_lt bs pos) _
  have hge : pos ≤ r.2 := nextS_ge (x := r.1) h
  simp only [nextS] at h
  split at h
  · rename_i h0
    simp only [Except.ok.injEq] at h
    subst h
    simp only at hge ⊢
    have htk := fun hp => nextP_taken hz bs pos hp
    refine ⟨hge, htk, fun bs' k hP hk => ?_⟩
    have hrn : rn zs (bitFrom bs pos) (8 * bs.length - pos) 15 0 0 = ((nextOf zs bs pos).1, 0, (nextOf zs bs pos).2.2) := by
      rw [← e bs, ← h0]
    have hbit : ∀ j, j < 8 * k - pos → bitFrom bs' pos j = bitFrom bs pos j := by
      intro j hj
      unfold bitFrom tb
      rw [hP.eq _ (by omega)]
    have := hP.l2
    obtain ⟨r1, r2⟩ := rn_pre zs (bitFrom bs pos) (bitFrom bs' pos) (8 * bs.length - pos) (8 * bs'.length - pos) (8 * k - pos) hbit (by omega) 15 0 0 _ _ hrn
    refine ⟨fun hr => ?_, fun hr hl => ?_⟩
    · have h1 := r1 (by omega)
      rw [← e bs'] at h1
      unfold nextS
      rw [h1]
      rfl
    · have h1 := r2 (by omega) (by omega)
      rw [← e bs'] at h1
      unfold nextS
      rw [h1]
      rfl
  · cases h
end Go.Proofs.YtiheajlgaehfmaaDoor
/- What a whole stream tells hangs on its own bytes alone; cut, it has no end. -/
namespace Go.Proofs.YtiheajlgaehfmaaDoor

theorem loc_stored (most pos : Nat) (out : List Int) : Loc (fun r : Nat × List Int => r.1) (fun bs => storedS bs most pos out) pos := by
  unfold storedS
  refine Loc.bind (pr := fun r : List Int × Nat => r.2) (loc_bytes pos 4) fun ⟨b, p⟩ _ => ?_
  dsimp only
  refine Loc.ite (Loc.err _) (Loc.ite (Loc.err _) ?_)
  refine Loc.bind (pr := fun r : List Int × Nat => r.2) (loc_bytes p _) fun ⟨b2, p2⟩ _ => ?_
  exact Loc.pure _ rfl
theorem loc_copied (dz : List Int) (hd : errOf dz = 0) (most sym pos : Nat) (out : List Int) : Loc (fun r : Nat × List Int => r.1) (fun bs => copiedS dz bs most sym pos out) pos := by
  unfold copiedS
  generalize litS (sym : Int) = L
  rcases L with _ | ⟨base, extra⟩
  · exact Loc.err _
  · dsimp only
    refine Loc.bind (pr := fun r : Nat × Nat => r.2) (loc_take pos extra) fun ⟨x, p⟩ _ => ?_
    dsimp only
    refine Loc.bind (pr := fun r : Nat × Nat => r.2) (loc_next dz hd p) fun ⟨d, p2⟩ _ => ?_
    dsimp only
    generalize distS (d : Int) = L
    rcases L with _ | ⟨dbase, dextra⟩
    · dsimp only
      exact Loc.err _
    · dsimp only
      refine Loc.bind (pr := fun r : Nat × Nat => r.2) (loc_take p2 dextra) fun ⟨y, p3⟩ _ => ?_
      dsimp only
      exact Loc.ite (Loc.err _) (Loc.ite (Loc.err _) (Loc.pure _ rfl))
theorem loc_step (lz dz : List Int) (hl : errOf lz = 0) (hd : errOf dz = 0) (most pos : Nat) (out : List Int) : Loc (fun r : Option Unit × Nat × List Int => r.2.1) (fun bs => symStep lz dz bs most pos out) pos := by
  unfold symStep
  refine Loc.bind (pr := fun r : Nat × Nat => r.2) (loc_next lz hl pos) fun ⟨x, p⟩ _ => ?_
  dsimp only
  refine Loc.ite (Loc.pure _ rfl) (Loc.ite (Loc.ite (Loc.pure _ rfl) (Loc.err _)) ?_)
  refine Loc.bind (pr := fun r : Nat × List Int => r.1) (loc_copied dz hd most x p out) fun ⟨p2, o⟩ _ => ?_
  exact Loc.pure _ rfl
/-- A loop whose rounds each take a bit, and whose rounds are enough. -/
theorem loc_loop {σ : Type} (g : Nat → σ → List Int → Except Int (Option Unit × Nat × σ)) (L : List Int → Nat → Nat → σ → Except Int (Nat × σ))
    (h0 : ∀ bs pos s, ∃ e, L bs 0 pos s = .error e)
    (hS : ∀ bs f pos s, L bs (f + 1) pos s = match g pos s bs with | .error e => .error e | .ok (none, p, s) => .ok (p, s) | .ok (some _, p, s) => L bs f p s)
    (hloc : ∀ pos s, Loc (fun r : Option Unit × Nat × σ => r.2.1) (g pos s) pos) (hmore : ∀ bs pos s p s', g pos s bs = .ok (some (), p, s') → pos + 1 ≤ p) :
    ∀ f pos s bs r, L bs f pos s = .ok r → pos ≤ r.1 ∧ (pos ≤ 8 * bs.length → r.1 ≤ 8 * bs.length) ∧ ∀ bs' k f', Pre k bs bs' → pos ≤ 8 * k → 8 * bs'.length + 1 ≤ f' + pos →
      (r.1 ≤ 8 * k → L bs' f' pos s = .ok r) ∧ (8 * k < r.1 → bs'.length = k → L bs' f' pos s = .error 10) := by
  intro f
  induction f with
  | zero =>
    intro pos s bs r h
    obtain ⟨e, he⟩ := h0 bs pos s
    rw [he] at h
    cases h
  | succ f ih =>
    intro pos s bs r h
    rw [hS] at h
    cases hg : g pos s bs with
    | error e => rw [hg] at h; cases h
    | ok q =>
      obtain ⟨u, p, s'⟩ := q
      obtain ⟨a1, a2, a3⟩ := hloc pos s bs _ hg
      simp only at a1 a2 a3
      rw [hg] at h
      cases u with
      | none =>
        simp only [Except.ok.injEq] at h
        subst h
        refine ⟨a1, a2, fun bs' k f' hP hk hf => ?_⟩
        have := hP.l2
        obtain ⟨f'', rfl⟩ : ∃ f'', f' = f'' + 1 := ⟨f' - 1, by omega⟩
        obtain ⟨c1, c2⟩ := a3 bs' k hP hk
        refine ⟨fun hr => ?_, fun hr hl => ?_⟩
        · rw [hS, c1 hr]
        · rw [hS, c2 hr hl]
      | some v =>
        simp only at h
        obtain ⟨b1, b2, b3⟩ := ih p s' bs r h
        have hm := hmore bs pos s p s' hg
        refine ⟨by omega, fun hp => b2 (a2 hp), fun bs' k f' hP hk hf => ?_⟩
        have := hP.l2
        obtain ⟨f'', rfl⟩ : ∃ f'', f' = f'' + 1 := ⟨f' - 1, by omega⟩
        obtain ⟨c1, c2⟩ := a3 bs' k hP hk
        by_cases hpk : p ≤ 8 * k
        · rw [hS, c1 hpk]
          exact b3 bs' k f'' hP hpk (by omega)
        · refine ⟨fun hr => by omega, fun hr hl => ?_⟩
          rw [hS, c2 (by omega) hl]
theorem loc_of_loop {σ : Type} {L : List Int → Nat → Nat → σ → Except Int (Nat × σ)} {pos : Nat} {s : σ}
    (h : ∀ f pos s bs r, L bs f pos s = .ok r → pos ≤ r.1 ∧ (pos ≤ 8 * bs.length → r.1 ≤ 8 * bs.length) ∧ ∀ bs' k f', Pre k bs bs' → pos ≤ 8 * k → 8 * bs'.length + 1 ≤ f' + pos →
      (r.1 ≤ 8 * k → L bs' f' pos s = .ok r) ∧ (8 * k < r.1 → bs'.length = k → L bs' f' pos s = .error 10)) :
    Loc (fun r : Nat × σ => r.1) (fun bs => L bs (8 * bs.length + 1) pos s) pos := by
  intro bs r hr
  obtain ⟨a1, a2, a3⟩ := h _ _ _ _ _ hr
  exact ⟨a1, a2, fun bs' k hP hk => a3 bs' k _ hP hk (by omega)⟩
theorem symStep_more {lz dz bs : List Int} (hl : errOf lz = 0) {most pos p : Nat} {out o : List Int} {u : Option Unit} (h : symStep lz dz bs most pos out = .ok (u, p, o)) : pos + 1 ≤ p := by
  unfold symStep at h
  simp only [bind, Except.bind] at h
  cases hn : nextS lz bs pos with
  | error e => rw [hn] at h; cases h
  | ok r =>
    obtain ⟨x, p1⟩ := r
    have := nextS_more hl hn
    rw [hn] at h
    simp only at h
    split at h
    · simp only [Except.ok.injEq, Prod.mk.injEq] at h; omega
    · split at h
      · split at h
        · simp only [Except.ok.injEq, Prod.mk.injEq] at h; omega
        · cases h
      · cases hc : copiedS dz bs most x p1 out with
        | error e => rw [hc] at h; cases h
        | ok r2 =>
          obtain ⟨p2, o2⟩ := r2
          have := copiedS_ge hc
          rw [hc] at h
          simp only [Except.ok.injEq, Prod.mk.injEq] at h
          omega
theorem loc_syms (lz dz : List Int) (hl : errOf lz = 0) (hd : errOf dz = 0) (most pos : Nat) (out : List Int) : Loc (fun r : Nat × List Int => r.1) (fun bs => symsS lz dz bs most (8 * bs.length + 1) pos out) pos :=
  loc_of_loop (L := fun bs f pos out => symsS lz dz bs most f pos out) (loc_loop (fun pos out bs => symStep lz dz bs most pos out) _ (fun _ _ _ => ⟨99, rfl⟩)
    (fun bs f pos s => by
      simp only [symsS]
      cases symStep lz dz bs most pos s with
      | error e => rfl
      | ok r => obtain ⟨u, p, o⟩ := r; cases u <;> rfl) (fun pos s => loc_step lz dz hl hd most pos s) (fun bs pos s p s' h => symStep_more hl h))
theorem rowStep_more {cz bs : List Int} (hz : errOf cz = 0) {many pos p : Nat} {l l' : List Int} (h : rowStep cz bs many pos l = .ok (p, l')) : pos + 1 ≤ p := by
  unfold rowStep at h
  simp only [bind, Except.bind] at h
  cases hn : nextS cz bs pos with
  | error e => rw [hn] at h; cases h
  | ok r =>
    obtain ⟨x, p1⟩ := r
    have := nextS_more hz hn
    rw [hn] at h
    simp only at h
    split at h
    · simp only [Except.ok.injEq, Prod.mk.injEq] at h; omega
    · split at h
      · cases h
      · generalize (if x = 18 then 7 else if x = 17 then 3 else 2) = nb at h
        generalize (if x = 18 then 11 else 3) = n2 at h
        cases ht : takeS bs p1 nb with
        | error e => rw [ht] at h; cases h
        | ok r2 =>
          obtain ⟨q, p2⟩ := r2
          have := (loc_take p1 nb bs _ ht).1
          rw [ht] at h
          simp only at h this
          split at h
          · cases h
          · simp only [Except.ok.injEq, Prod.mk.injEq] at h; omega
theorem loc_rowStep (cz : List Int) (hz : errOf cz = 0) (many pos : Nat) (l : List Int) : Loc (fun r : Nat × List Int => r.1) (fun bs => rowStep cz bs many pos l) pos := by
  unfold rowStep
  refine Loc.bind (pr := fun r : Nat × Nat => r.2) (loc_next cz hz pos) fun ⟨x, p⟩ _ => ?_
  dsimp only
  refine Loc.ite (Loc.pure _ rfl) (Loc.ite (Loc.err _) ?_)
  refine Loc.bind (pr := fun r : Nat × Nat => r.2) (loc_take p _) fun ⟨y, p2⟩ _ => ?_
  dsimp only
  exact Loc.ite (Loc.err _) (Loc.pure _ rfl)
theorem loc_row (cz : List Int) (hz : errOf cz = 0) (many pos : Nat) (l : List Int) : Loc (fun r : Nat × List Int => r.1) (fun bs => rowS cz bs many (8 * bs.length + 1) pos l) pos := by
  refine loc_of_loop (L := fun bs f pos l => rowS cz bs many f pos l) (loc_loop (fun pos l bs => if l.length < many then rowStep cz bs many pos l >>= fun r => .ok (some (), r.1, r.2) else .ok (none, pos, l)) _ (fun _ _ _ => ⟨99, rfl⟩) ?_ ?_ ?_)
  · intro bs f pos s
    simp only [rowS, bind, Except.bind]
    by_cases hl : s.length < many
    · simp only [if_pos hl]
      cases rowStep cz bs many pos s with
      | error e => rfl
      | ok r => rfl
    · simp only [if_neg hl]
  · intro pos s
    refine Loc.ite ?_ (Loc.pure _ rfl)
    exact Loc.bind (pr := fun r : Nat × List Int => r.1) (loc_rowStep cz hz many pos s) fun ⟨p, l⟩ _ => Loc.pure _ rfl
  · intro bs pos s p s' h
    by_cases hl : s.length < many
    · simp only [if_pos hl, bind, Except.bind] at h
      cases hr : rowStep cz bs many pos s with
      | error e => rw [hr] at h; cases h
      | ok r =>
        obtain ⟨p1, l1⟩ := r
        rw [hr] at h
        simp only [Except.ok.injEq, Prod.mk.injEq] at h
        have := rowStep_more hz hr
        omega
    · simp only [if_neg hl, Except.ok.injEq, Prod.mk.injEq] at h
      exact absurd h.1 (by simp)
theorem loc_cl : ∀ (k i pos : Nat) (l : List Int), Loc (fun r : Nat × List Int => r.1) (fun bs => clS bs k i pos l) pos := by
  intro k
  induction k with
  | zero => intro i pos l; exact Loc.congr (Loc.pure (pos, l) rfl) (fun bs => rfl)
  | succ k ih =>
    intro i pos l
    refine Loc.congr (f := fun bs => takeS bs pos 3 >>= fun r => clS bs k (i + 1) r.2 (l.set (orderL[i]?.getD 0) (r.1 : Int))) ?_ (fun bs => by simp only [clS, bind, Except.bind]; cases takeS bs pos 3 <;> rfl)
    exact Loc.bind (pr := fun r : Nat × Nat => r.2) (loc_take pos 3) fun r _ => ih _ _ _
theorem full_ok {cl : List Int} (h : ¬ fullB cl = false) : errOf cl = 0 := by
  unfold fullB at h
  by_cases h0 : errOf cl = 0
  · exact h0
  · simp [h0] at h
theorem loc_dyn (most pos : Nat) (out : List Int) : Loc (fun r : Nat × List Int => r.1) (fun bs => dynS bs most pos out) pos := by
  unfold dynS
  refine Loc.bind (pr := fun r : Nat × Nat => r.2) (loc_take pos 5) fun ⟨a, p1⟩ _ => ?_
  dsimp only
  refine Loc.bind (pr := fun r : Nat × Nat => r.2) (loc_take p1 5) fun ⟨b, p2⟩ _ => ?_
  dsimp only
  refine Loc.bind (pr := fun r : Nat × Nat => r.2) (loc_take p2 4) fun ⟨c, p3⟩ _ => ?_
  dsimp only
  refine Loc.ite (Loc.err _) ?_
  refine Loc.bind (pr := fun r : Nat × List Int => r.1) (loc_cl _ _ p3 _) fun ⟨p4, cl⟩ _ => ?_
  dsimp only
  by_cases hf : fullB cl = false
  · simp only [if_pos hf]
    exact Loc.err _
  · simp only [if_neg hf]
    refine Loc.bind (pr := fun r : Nat × List Int => r.1) (loc_row cl (full_ok hf) _ p4 _) fun ⟨p5, row⟩ _ => ?_
    dsimp only
    refine Loc.ite (Loc.err _) ?_
    by_cases h1 : errOf (row.take (257 + a)) = 0
    · by_cases h2 : errOf (row.drop (257 + a)) = 0
      · refine Loc.congr (loc_syms _ _ h1 h2 most p5 out) (fun bs => ?_)
        rw [if_neg (by simp [h1]), if_neg (by simp [h2])]
      · refine Loc.congr (Loc.err (errOf (row.drop (257 + a)))) (fun bs => ?_)
        rw [if_neg (by simp [h1]), if_pos h2]
    · refine Loc.congr (Loc.err (errOf (row.take (257 + a)))) (fun bs => ?_)
      rw [if_pos h1]
theorem loc_block (most kind pos : Nat) (out : List Int) : Loc (fun r : Nat × List Int => r.1) (fun bs => blockS bs most kind pos out) pos := by
  unfold blockS
  exact Loc.ite (loc_stored most pos out) (Loc.ite (loc_syms _ _ fixLit_ok fixDist_ok most pos out) (Loc.ite (loc_dyn most pos out) (Loc.err _)))
theorem loc_head (most pos : Nat) (out : List Int) : Loc (fun r : Bool × Nat × List Int => r.2.1) (fun bs => headS bs most pos out) pos := by
  unfold headS
  refine Loc.bind (pr := fun r : Nat × Nat => r.2) (loc_take pos 1) fun ⟨a, p1⟩ _ => ?_
  dsimp only
  refine Loc.bind (pr := fun r : Nat × Nat => r.2) (loc_take p1 2) fun ⟨b, p2⟩ _ => ?_
  dsimp only
  refine Loc.bind (pr := fun r : Nat × List Int => r.1) (loc_block most b p2 out) fun ⟨p3, o⟩ _ => ?_
  exact Loc.pure _ rfl
theorem headS_more {bs : List Int} {most pos p : Nat} {out o : List Int} {u : Bool} (h : headS bs most pos out = .ok (u, p, o)) : pos + 1 ≤ p := by
  unfold headS at h
  simp only [bind, Except.bind] at h
  cases h1 : takeS bs pos 1 with
  | error e => rw [h1] at h; cases h
  | ok r1 =>
    obtain ⟨a, p1⟩ := r1
    rw [h1] at h
    simp only at h
    have q1 : p1 = pos + 1 := by
      unfold takeS at h1
      split at h1
      · simp only [Except.ok.injEq, Prod.mk.injEq] at h1; omega
      · cases h1
    cases h2 : takeS bs p1 2 with
    | error e => rw [h2] at h; cases h
    | ok r2 =>
      obtain ⟨b, p2⟩ := r2
      have q2 := (loc_take p1 2 bs _ h2).1
      rw [h2] at h
      simp only at h q2
      cases h3 : blockS bs most b p2 out with
      | error e => rw [h3] at h; cases h
      | ok r3 =>
        obtain ⟨p3, o3⟩ := r3
        have q3 := (loc_block most b p2 out bs _ h3).1
        rw [h3] at h
        simp only [Except.ok.injEq, Prod.mk.injEq] at h q3
        omega
theorem loc_infl (most pos : Nat) (out : List Int) : Loc (fun r : Nat × List Int => r.1) (fun bs => inflS bs most (8 * bs.length + 1) pos out) pos := by
  refine loc_of_loop (L := fun bs f pos out => inflS bs most f pos out) (loc_loop (fun pos out bs => headS bs most pos out >>= fun r => .ok (if r.1 = true then none else some (), r.2.1, r.2.2)) _ (fun _ _ _ => ⟨99, rfl⟩) ?_ ?_ ?_)
  · intro bs f pos s
    simp only [inflS, bind, Except.bind]
    cases headS bs most pos s with
    | error e => rfl
    | ok r => obtain ⟨u, p, o⟩ := r; cases u <;> rfl
  · intro pos s
    exact Loc.bind (pr := fun r : Bool × Nat × List Int => r.2.1) (loc_head most pos s) fun r _ => Loc.pure _ rfl
  · intro bs pos s p s' h
    simp only [bind, Except.bind] at h
    cases hr : headS bs most pos s with
    | error e => rw [hr] at h; cases h
    | ok r =>
      obtain ⟨u, p1, l1⟩ := r
      rw [hr] at h
      simp only [Except.ok.injEq, Prod.mk.injEq] at h
      have := headS_more hr
      omega
theorem loc_loop_infl_ge (most : Nat) (f pos : Nat) (out : List Int) (bs : List Int) (r : Nat × List Int) (h : inflS bs most f pos out = .ok r) : pos ≤ r.1 := by
  induction f generalizing pos out with
  | zero => cases h
  | succ f ih =>
    rw [inflS] at h
    cases hr : headS bs most pos out with
    | error er => rw [hr] at h; cases h
    | ok q =>
      obtain ⟨u, p1, l1⟩ := q
      have := headS_more hr
      rw [hr] at h
      cases u with
      | true => simp only [Except.ok.injEq] at h; subst h; simp only; omega
      | false =>
        simp only at h
        have := ih _ _ h
        omega
/-- The whole: what lies behind a stream changes nothing; a byte less, and it has no end. -/
theorem inflate_behind {bs : List Int} {M : Int} {out : List Int} {n : Nat} (h : inflateS bs M = .ok (out, n)) :
    0 ≤ M ∧ 1 ≤ n ∧ n ≤ bs.length ∧ (∀ more, inflateS (bs.take n ++ more) M = .ok (out, n)) ∧ inflateS (bs.take (n - 1)) M = .error 10 := by
  have hM : 0 ≤ M := by
    apply Int.not_lt.mp
    intro hl
    rw [inflateS, if_pos hl] at h
    cases h
  have e : ∀ bs, inflateS bs M = match inflS bs M.toNat (8 * bs.length + 1) 0 [] with | .error e => .error e | .ok (pos, out) => .ok (out, (pos + 7) / 8) := by
    intro bs
    rw [inflateS, if_neg (by omega)]
    cases inflS bs M.toNat (8 * bs.length + 1) 0 [] <;> rfl
  rw [e] at h
  cases hi : inflS bs M.toNat (8 * bs.length + 1) 0 [] with
  | error er => rw [hi] at h; cases h
  | ok r =>
    obtain ⟨p, o⟩ := r
    have h1 : 1 ≤ p := by
      rw [inflS] at hi
      cases hr : headS bs M.toNat 0 [] with
      | error er => rw [hr] at hi; cases hi
      | ok q =>
        obtain ⟨u, p1, l1⟩ := q
        have := headS_more hr
        rw [hr] at hi
        cases u with
        | true => simp only [Except.ok.injEq, Prod.mk.injEq] at hi; omega
        | false =>
          simp only at hi
          have := (loc_loop_infl_ge _ _ _ _ _ _ hi)
          omega
    rw [hi] at h
    simp only [Except.ok.injEq, Prod.mk.injEq] at h
    obtain ⟨rfl, rfl⟩ := h
    obtain ⟨_, a2, a3⟩ := loc_infl M.toNat 0 [] bs _ hi
    have a2 := a2 (by omega)
    simp only at a2 a3
    refine ⟨hM, by omega, by omega, fun more => ?_, ?_⟩
    · have := (a3 (bs.take ((p + 7) / 8) ++ more) ((p + 7) / 8) ⟨by omega, by simp only [List.length_append, List.length_take]; omega, fun j hj => by
        rw [List.getElem?_append_left (by rw [List.length_take]; omega), List.getElem?_take_of_lt hj]⟩ (by omega)).1 (by omega)
      rw [e, this]
    · have := (a3 (bs.take ((p + 7) / 8 - 1)) ((p + 7) / 8 - 1) ⟨by omega, by simp only [List.length_take]; omega, fun j hj => by
        rw [List.getElem?_take_of_lt hj]⟩ (by omega)).2 (by omega) (by simp only [List.length_take]; omega)
      rw [e, this]
end Go.Proofs.YtiheajlgaehfmaaDoor
