/- What a stream tells hangs on its own bytes alone; cut, it has no end. -/
import Derived.Test.YtiheajlgaehfmaaDoorPrd
namespace Go.Proofs.YtiheajlgaehfmaaDoor

/-- The first k bytes are the same. -/
structure Pre (k : Nat) (bs bs' : List Int) : Prop where
  l1 : k ≤ bs.length
  l2 : k ≤ bs'.length
  eq : ∀ j, j < k → bs'[j]? = bs[j]?
/-- From place pos on f reads as far as it says: with so many bytes it says the same; cut, it says 10. -/
def Loc {β : Type} (pr : β → Nat) (f : List Int → Except Int β) (pos : Nat) : Prop :=
  ∀ bs r, f bs = .ok r → pos ≤ pr r ∧ (pos ≤ 8 * bs.length → pr r ≤ 8 * bs.length) ∧ ∀ bs' k, Pre k bs bs' → pos ≤ 8 * k → (pr r ≤ 8 * k → f bs' = .ok r) ∧ (8 * k < pr r → bs'.length = k → f bs' = .error 10)
theorem Loc.bind {β γ : Type} {pr : β → Nat} {qr : γ → Nat} {f : List Int → Except Int β} {g : β → List Int → Except Int γ} {pos : Nat} (hf : Loc pr f pos) (hg : ∀ r, (∃ bs, f bs = .ok r) → Loc qr (g r) (pr r)) :
    Loc qr (fun bs => f bs >>= fun r => g r bs) pos := by
  intro bs r h
  simp only [Bind.bind, Except.bind] at h
  cases h1 : f bs with
  | error e => rw [h1] at h; cases h
  | ok r1 =>
    rw [h1] at h
    simp only at h
    obtain ⟨a1, a2, a3⟩ := hf bs r1 h1
    obtain ⟨b1, b2, b3⟩ := hg r1 ⟨bs, h1⟩ bs r h
    refine ⟨by omega, fun hp => b2 (a2 hp), fun bs' k hP hk => ?_⟩
    obtain ⟨c1, c2⟩ := a3 bs' k hP hk
    simp only [Bind.bind, Except.bind]
    by_cases hr : pr r1 ≤ 8 * k
    · rw [c1 hr]
      exact b3 bs' k hP hr
    · refine ⟨fun h => by omega, fun _ hl => ?_⟩
      rw [c2 (by omega) hl]
theorem Loc.pure {β : Type} {pr : β → Nat} (r : β) {pos : Nat} (h : pr r = pos) : Loc pr (fun _ => .ok r) pos := by
  intro bs r' h'
  simp only [Except.ok.injEq] at h'
  subst h'
  exact ⟨by omega, fun hp => by omega, fun bs' k _ hk => ⟨fun _ => rfl, fun h2 => by omega⟩⟩
theorem Loc.err {β : Type} {pr : β → Nat} (e : Int) {pos : Nat} : Loc pr (fun _ => (.error e : Except Int β)) pos := by
  intro bs r h
  cases h
theorem Loc.ite {β : Type} {pr : β → Nat} {c : Prop} [Decidable c] {f g : List Int → Except Int β} {pos : Nat} (hf : Loc pr f pos) (hg : Loc pr g pos) : Loc pr (fun bs => if c then f bs else g bs) pos := by
  by_cases h : c
  · simpa [h] using hf
  · simpa [h] using hg
theorem Loc.congr {β : Type} {pr : β → Nat} {f g : List Int → Except Int β} {pos : Nat} (h : Loc pr f pos) (e : ∀ bs, g bs = f bs) : Loc pr g pos := by
  have : g = f := funext e
  rw [this]
  exact h

theorem bitAt_pre {k : Nat} {bs bs' : List Int} (h : Pre k bs bs') (p : Nat) (hp : p < 8 * k) : bitAt bs' p = bitAt bs p := by
  have := h.eq (p / 8) (by omega)
  simp only [bitAt, this]
theorem loc_take (pos n : Nat) : Loc (fun r : Nat × Nat => r.2) (fun bs => takeS bs pos n) pos := by
  intro bs r h
  simp only [takeS] at h
  split at h
  · rename_i hl
    simp only [Except.ok.injEq] at h
    subst h
    refine ⟨by simp, fun _ => hl, fun bs' k hP hk => ⟨fun hr => ?_, fun hr hlen => ?_⟩⟩
    · have := hP.l2
      simp only [takeS]
      simp only at hr
      rw [if_pos (by omega)]
      congr 3
      unfold upto
      refine List.map_congr_left (fun i hi => ?_)
      have hi' : i < n := by simpa using hi
      unfold bitF
      rw [bitAt_pre hP _ (by omega)]
    · simp only [takeS]
      simp only at hr
      rw [if_neg (by omega)]
  · cases h
theorem loc_bytes (pos n : Nat) : Loc (fun r : List Int × Nat => r.2) (fun bs => bytesS bs pos n) pos := by
  intro bs r h
  simp only [bytesS] at h
  split at h
  · rename_i hl
    simp only [Except.ok.injEq] at h
    subst h
    refine ⟨by simp only; omega, fun _ => by simp only; omega, fun bs' k hP hk => ⟨fun hr => ?_, fun hr hlen => ?_⟩⟩
    · have := hP.l2
      simp only [bytesS]
      simp only at hr
      rw [if_pos (by omega)]
      congr 2
      apply List.ext_getElem?
      intro j
      by_cases hj : j < n
      · rw [List.getElem?_take_of_lt hj, List.getElem?_take_of_lt hj, List.getElem?_drop, List.getElem?_drop, hP.eq _ (by omega)]
      · rw [List.getElem?_eq_none (by rw [List.length_take]; omega), List.getElem?_eq_none (by rw [List.length_take]; omega)]
    · simp only [bytesS]
      simp only at hr
      rw [if_neg (by omega)]
  · cases h
theorem rn_pre (zs : List Int) (bit bit' : Nat → Nat) (avail avail' m : Nat) (hbit : ∀ j, j < m → bit' j = bit j) (ha : m ≤ avail') : ∀ f k code x t, rn zs bit avail f k code = (x, 0, t) →
    (t ≤ m → rn zs bit' avail' f k code = (x, 0, t)) ∧ (m < t → avail' = m → rn zs bit' avail' f k code = (0, 10, 0)) := by
  intro f
  induction f with
  | zero => intro k code x t h; simp [rn] at h
  | succ f ih =>
    intro k code x t h
    rw [rn] at h
    split at h
    · rename_i hbg
      split at h
      · rename_i hka
        by_cases hkm : k < m
        · rw [rn, if_pos hbg, if_pos (by omega : k < avail'), hbit k hkm]
          cases hfd : (List.range zs.length).find? (isSym zs (k + 1) (2 * code + bit k)) with
          | some i =>
            rw [hfd] at h
            simp only [Prod.mk.injEq] at h ⊢
            refine ⟨fun _ => ?_, fun h2 => by omega⟩
            omega
          | none =>
            rw [hfd] at h
            exact ih _ _ _ _ h
        · have ht : k + 1 ≤ t := by
            split at h
            · simp only [Prod.mk.injEq] at h
              omega
            · have h2 := rn_more zs bit avail f (k + 1) (2 * code + bit k) (by rw [h])
              rw [h] at h2
              simp only at h2
              omega
          refine ⟨fun h2 => by omega, fun _ hav => ?_⟩
          rw [rn, if_pos hbg, if_neg (by omega)]
      · simp at h
    · simp at h
theorem loc_next (zs : List Int) (hz : errOf zs = 0) (pos : Nat) : Loc (fun r : Nat × Nat => r.2) (fun bs => nextS zs bs pos) pos := by
  intro bs r h
  have e : ∀ bs, nextOf zs bs pos = rn zs (bitFrom bs pos) (8 * bs.length - pos) 15 0 0 := fun bs => (Good.of_err hz).same _ (bitFrom_lt bs pos) _
  have hge : pos ≤ r.2 := nextS_ge (x := r.1) h
  simp only [nextS] at h
  split at h
  · rename_i h0
    simp only [Except.ok.injEq] at h
    subst h
    simp only at hge ⊢
    have htk := fun hp => nextP_taken hz bs pos hp
    refine ⟨hge, htk, fun bs' k hP hk => ?_⟩
    have hrn : rn zs (bitFrom bs pos) (8 * bs.length - pos) 15 0 0 = ((nextOf zs bs pos).1, 0, (nextOf zs bs pos).2.2) := by
      rw [← e bs, ← h0]
    have hbit : ∀ j, j < 8 * k - pos → bitFrom bs' pos j = bitFrom bs pos j := by
      intro j hj
      unfold bitFrom tb
      rw [hP.eq _ (by omega)]
    have := hP.l2
    obtain ⟨r1, r2⟩ := rn_pre zs (bitFrom bs pos) (bitFrom bs' pos) (8 * bs.length - pos) (8 * bs'.length - pos) (8 * k - pos) hbit (by omega) 15 0 0 _ _ hrn
    refine ⟨fun hr => ?_, fun hr hl => ?_⟩
    · have h1 := r1 (by omega)
      rw [← e bs'] at h1
      unfold nextS
      rw [h1]
      rfl
    · have h1 := r2 (by omega) (by omega)
      rw [← e bs'] at h1
      unfold nextS
      rw [h1]
      rfl
  · cases h
end Go.Proofs.YtiheajlgaehfmaaDoor
