/- What a whole stream tells hangs on its own bytes alone; cut, it has no end. -/
import Derived.Test.YtiheajlgaehfmaaDoorPlo
import Derived.Test.YtiheajlgaehfmaaDoorPfc
import Derived.Test.YtiheajlgaehfmaaDoorPsz
namespace Go.Proofs.YtiheajlgaehfmaaDoor

theorem loc_stored (most pos : Nat) (out : List Int) : Loc (fun r : Nat × List Int => r.1) (fun bs => storedS bs most pos out) pos := by
  unfold storedS
  refine Loc.bind (pr := fun r : List Int × Nat => r.2) (loc_bytes pos 4) fun ⟨b, p⟩ _ => ?_
  dsimp only
  refine Loc.ite (Loc.err _) (Loc.ite (Loc.err _) ?_)
  refine Loc.bind (pr := fun r : List Int × Nat => r.2) (loc_bytes p _) fun ⟨b2, p2⟩ _ => ?_
  exact Loc.pure _ rfl
theorem loc_copied (dz : List Int) (hd : errOf dz = 0) (most sym pos : Nat) (out : List Int) : Loc (fun r : Nat × List Int => r.1) (fun bs => copiedS dz bs most sym pos out) pos := by
  unfold copiedS
  generalize litS (sym : Int) = L
  rcases L with _ | ⟨base, extra⟩
  · exact Loc.err _
  · dsimp only
    refine Loc.bind (pr := fun r : Nat × Nat => r.2) (loc_take pos extra) fun ⟨x, p⟩ _ => ?_
    dsimp only
    refine Loc.bind (pr := fun r : Nat × Nat => r.2) (loc_next dz hd p) fun ⟨d, p2⟩ _ => ?_
    dsimp only
    generalize distS (d : Int) = L
    rcases L with _ | ⟨dbase, dextra⟩
    · dsimp only
      exact Loc.err _
    · dsimp only
      refine Loc.bind (pr := fun r : Nat × Nat => r.2) (loc_take p2 dextra) fun ⟨y, p3⟩ _ => ?_
      dsimp only
      exact Loc.ite (Loc.err _) (Loc.ite (Loc.err _) (Loc.pure _ rfl))
theorem loc_step (lz dz : List Int) (hl : errOf lz = 0) (hd : errOf dz = 0) (most pos : Nat) (out : List Int) : Loc (fun r : Option Unit × Nat × List Int => r.2.1) (fun bs => symStep lz dz bs most pos out) pos := by
  unfold symStep
  refine Loc.bind (pr := fun r : Nat × Nat => r.2) (loc_next lz hl pos) fun ⟨x, p⟩ _ => ?_
  dsimp only
  refine Loc.ite (Loc.pure _ rfl) (Loc.ite (Loc.ite (Loc.pure _ rfl) (Loc.err _)) ?_)
  refine Loc.bind (pr := fun r : Nat × List Int => r.1) (loc_copied dz hd most x p out) fun ⟨p2, o⟩ _ => ?_
  exact Loc.pure _ rfl
/-- A loop whose rounds each take a bit, and whose rounds are enough. -/
theorem loc_loop {σ : Type} (g : Nat → σ → List Int → Except Int (Option Unit × Nat × σ)) (L : List Int → Nat → Nat → σ → Except Int (Nat × σ))
    (h0 : ∀ bs pos s, ∃ e, L bs 0 pos s = .error e)
    (hS : ∀ bs f pos s, L bs (f + 1) pos s = match g pos s bs with | .error e => .error e | .ok (none, p, s) => .ok (p, s) | .ok (some _, p, s) => L bs f p s)
    (hloc : ∀ pos s, Loc (fun r : Option Unit × Nat × σ => r.2.1) (g pos s) pos) (hmore : ∀ bs pos s p s', g pos s bs = .ok (some (), p, s') → pos + 1 ≤ p) :
    ∀ f pos s bs r, L bs f pos s = .ok r → pos ≤ r.1 ∧ (pos ≤ 8 * bs.length → r.1 ≤ 8 * bs.length) ∧ ∀ bs' k f', Pre k bs bs' → pos ≤ 8 * k → 8 * bs'.length + 1 ≤ f' + pos →
      (r.1 ≤ 8 * k → L bs' f' pos s = .ok r) ∧ (8 * k < r.1 → bs'.length = k → L bs' f' pos s = .error 10) := by
  intro f
  induction f with
  | zero =>
    intro pos s bs r h
    obtain ⟨e, he⟩ := h0 bs pos s
    rw [he] at h
    cases h
  | succ f ih =>
    intro pos s bs r h
    rw [hS] at h
    cases hg : g pos s bs with
    | error e => rw [hg] at h; cases h
    | ok q =>
      obtain ⟨u, p, s'⟩ := q
      obtain ⟨a1, a2, a3⟩ := hloc pos s bs _ hg
      simp only at a1 a2 a3
      rw [hg] at h
      cases u with
      | none =>
        simp only [Except.ok.injEq] at h
        subst h
        refine ⟨a1, a2, fun bs' k f' hP hk hf => ?_⟩
        have := hP.l2
        obtain ⟨f'', rfl⟩ : ∃ f'', f' = f'' + 1 := ⟨f' - 1, by omega⟩
        obtain ⟨c1, c2⟩ := a3 bs' k hP hk
        refine ⟨fun hr => ?_, fun hr hl => ?_⟩
        · rw [hS, c1 hr]
        · rw [hS, c2 hr hl]
      | some v =>
        simp only at h
        obtain ⟨b1, b2, b3⟩ := ih p s' bs r h
        have hm := hmore bs pos s p s' hg
        refine ⟨by omega, fun hp => b2 (a2 hp), fun bs' k f' hP hk hf => ?_⟩
        have := hP.l2
        obtain ⟨f'', rfl⟩ : ∃ f'', f' = f'' + 1 := ⟨f' - 1, by omega⟩
        obtain ⟨c1, c2⟩ := a3 bs' k hP hk
        by_cases hpk : p ≤ 8 * k
        · rw [hS, c1 hpk]
          exact b3 bs' k f'' hP hpk (by omega)
        · refine ⟨fun hr => by omega, fun hr hl => ?_⟩
          rw [hS, c2 (by omega) hl]
theorem loc_of_loop {σ : Type} {L : List Int → Nat → Nat → σ → Except Int (Nat × σ)} {pos : Nat} {s : σ}
    (h : ∀ f pos s bs r, L bs f pos s = .ok r → pos ≤ r.1 ∧ (pos ≤ 8 * bs.length → r.1 ≤ 8 * bs.length) ∧ ∀ bs' k f', Pre k bs bs' → pos ≤ 8 * k → 8 * bs'.length + 1 ≤ f' + pos →
      (r.1 ≤ 8 * k → L bs' f' pos s = .ok r) ∧ (8 * k < r.1 → bs'.length = k → L bs' f' pos s = .error 10)) :
    Loc (fun r : Nat × σ => r.1) (fun bs => L bs (8 * bs.length + 1) pos s) pos := by
  intro bs r hr
  obtain ⟨a1, a2, a3⟩ := h _ _ _ _ _ hr
  exact ⟨a1, a2, fun bs' k hP hk => a3 bs' k _ hP hk (by omega)⟩
theorem symStep_more {lz dz bs : List Int} (hl : errOf lz = 0) {most pos p : Nat} {out o : List Int} {u : Option Unit} (h : symStep lz dz bs most pos out = .ok (u, p, o)) : pos + 1 ≤ p := by
  unfold symStep at h
  simp only [bind, Except.bind] at h
  cases hn : nextS lz bs pos with
  | error e => rw [hn] at h; cases h
  | ok r =>
    obtain ⟨x, p1⟩ := r
    have := nextS_more hl hn
    rw [hn] at h
    simp only at h
    split at h
    · simp only [Except.ok.injEq, Prod.mk.injEq] at h; omega
    · split at h
      · split at h
        · simp only [Except.ok.injEq, Prod.mk.injEq] at h; omega
        · cases h
      · cases hc : copiedS dz bs most x p1 out with
        | error e => rw [hc] at h; cases h
        | ok r2 =>
          obtain ⟨p2, o2⟩ := r2
          have := copiedS_ge hc
          rw [hc] at h
          simp only [Except.ok.injEq, Prod.mk.injEq] at h
          omega
theorem loc_syms (lz dz : List Int) (hl : errOf lz = 0) (hd : errOf dz = 0) (most pos : Nat) (out : List Int) : Loc (fun r : Nat × List Int => r.1) (fun bs => symsS lz dz bs most (8 * bs.length + 1) pos out) pos :=
  loc_of_loop (L := fun bs f pos out => symsS lz dz bs most f pos out) (loc_loop (fun pos out bs => symStep lz dz bs most pos out) _ (fun _ _ _ => ⟨99, rfl⟩)
    (fun bs f pos s => by
      simp only [symsS]
      cases symStep lz dz bs most pos s with
      | error e => rfl
      | ok r => obtain ⟨u, p, o⟩ := r; cases u <;> rfl) (fun pos s => loc_step lz dz hl hd most pos s) (fun bs pos s p s' h => symStep_more hl h))
theorem rowStep_more {cz bs : List Int} (hz : errOf cz = 0) {many pos p : Nat} {l l' : List Int} (h : rowStep cz bs many pos l = .ok (p, l')) : pos + 1 ≤ p := by
  unfold rowStep at h
  simp only [bind, Except.bind] at h
  cases hn : nextS cz bs pos with
  | error e => rw [hn] at h; cases h
  | ok r =>
    obtain ⟨x, p1⟩ := r
    have := nextS_more hz hn
    rw [hn] at h
    simp only at h
    split at h
    · simp only [Except.ok.injEq, Prod.mk.injEq] at h; omega
    · split at h
      · cases h
      · generalize (if x = 18 then 7 else if x = 17 then 3 else 2) = nb at h
        generalize (if x = 18 then 11 else 3) = n2 at h
        cases ht : takeS bs p1 nb with
        | error e => rw [ht] at h; cases h
        | ok r2 =>
          obtain ⟨q, p2⟩ := r2
          have := (loc_take p1 nb bs _ ht).1
          rw [ht] at h
          simp only at h this
          split at h
          · cases h
          · simp only [Except.ok.injEq, Prod.mk.injEq] at h; omega
theorem loc_rowStep (cz : List Int) (hz : errOf cz = 0) (many pos : Nat) (l : List Int) : Loc (fun r : Nat × List Int => r.1) (fun bs => rowStep cz bs many pos l) pos := by
  unfold rowStep
  refine Loc.bind (pr := fun r : Nat × Nat => r.2) (loc_next cz hz pos) fun ⟨x, p⟩ _ => ?_
  dsimp only
  refine Loc.ite (Loc.pure _ rfl) (Loc.ite (Loc.err _) ?_)
  refine Loc.bind (pr := fun r : Nat × Nat => r.2) (loc_take p _) fun ⟨y, p2⟩ _ => ?_
  dsimp only
  exact Loc.ite (Loc.err _) (Loc.pure _ rfl)
theorem loc_row (cz : List Int) (hz : errOf cz = 0) (many pos : Nat) (l : List Int) : Loc (fun r : Nat × List Int => r.1) (fun bs => rowS cz bs many (8 * bs.length + 1) pos l) pos := by
  refine loc_of_loop (L := fun bs f pos l => rowS cz bs many f pos l) (loc_loop (fun pos l bs => if l.length < many then rowStep cz bs many pos l >>= fun r => .ok (some (), r.1, r.2) else .ok (none, pos, l)) _ (fun _ _ _ => ⟨99, rfl⟩) ?_ ?_ ?_)
  · intro bs f pos s
    simp only [rowS, bind, Except.bind]
    by_cases hl : s.length < many
    · simp only [if_pos hl]
      cases rowStep cz bs many pos s with
      | error e => rfl
      | ok r => rfl
    · simp only [if_neg hl]
  · intro pos s
    refine Loc.ite ?_ (Loc.pure _ rfl)
    exact Loc.bind (pr := fun r : Nat × List Int => r.1) (loc_rowStep cz hz many pos s) fun ⟨p, l⟩ _ => Loc.pure _ rfl
  · intro bs pos s p s' h
    by_cases hl : s.length < many
    · simp only [if_pos hl, bind, Except.bind] at h
      cases hr : rowStep cz bs many pos s with
      | error e => rw [hr] at h; cases h
      | ok r =>
        obtain ⟨p1, l1⟩ := r
        rw [hr] at h
        simp only [Except.ok.injEq, Prod.mk.injEq] at h
        have := rowStep_more hz hr
        omega
    · simp only [if_neg hl, Except.ok.injEq, Prod.mk.injEq] at h
      exact absurd h.1 (by simp)
theorem loc_cl : ∀ (k i pos : Nat) (l : List Int), Loc (fun r : Nat × List Int => r.1) (fun bs => clS bs k i pos l) pos := by
  intro k
  induction k with
  | zero => intro i pos l; exact Loc.congr (Loc.pure (pos, l) rfl) (fun bs => rfl)
  | succ k ih =>
    intro i pos l
    refine Loc.congr (f := fun bs => takeS bs pos 3 >>= fun r => clS bs k (i + 1) r.2 (l.set (orderL[i]?.getD 0) (r.1 : Int))) ?_ (fun bs => by simp only [clS, bind, Except.bind]; cases takeS bs pos 3 <;> rfl)
    exact Loc.bind (pr := fun r : Nat × Nat => r.2) (loc_take pos 3) fun r _ => ih _ _ _
theorem full_ok {cl : List Int} (h : ¬ fullB cl = false) : errOf cl = 0 := by
  unfold fullB at h
  by_cases h0 : errOf cl = 0
  · exact h0
  · simp [h0] at h
theorem loc_dyn (most pos : Nat) (out : List Int) : Loc (fun r : Nat × List Int => r.1) (fun bs => dynS bs most pos out) pos := by
  unfold dynS
  refine Loc.bind (pr := fun r : Nat × Nat => r.2) (loc_take pos 5) fun ⟨a, p1⟩ _ => ?_
  dsimp only
  refine Loc.bind (pr := fun r : Nat × Nat => r.2) (loc_take p1 5) fun ⟨b, p2⟩ _ => ?_
  dsimp only
  refine Loc.bind (pr := fun r : Nat × Nat => r.2) (loc_take p2 4) fun ⟨c, p3⟩ _ => ?_
  dsimp only
  refine Loc.ite (Loc.err _) ?_
  refine Loc.bind (pr := fun r : Nat × List Int => r.1) (loc_cl _ _ p3 _) fun ⟨p4, cl⟩ _ => ?_
  dsimp only
  by_cases hf : fullB cl = false
  · simp only [if_pos hf]
    exact Loc.err _
  · simp only [if_neg hf]
    refine Loc.bind (pr := fun r : Nat × List Int => r.1) (loc_row cl (full_ok hf) _ p4 _) fun ⟨p5, row⟩ _ => ?_
    dsimp only
    refine Loc.ite (Loc.err _) ?_
    by_cases h1 : errOf (row.take (257 + a)) = 0
    · by_cases h2 : errOf (row.drop (257 + a)) = 0
      · refine Loc.congr (loc_syms _ _ h1 h2 most p5 out) (fun bs => ?_)
        rw [if_neg (by simp [h1]), if_neg (by simp [h2])]
      · refine Loc.congr (Loc.err (errOf (row.drop (257 + a)))) (fun bs => ?_)
        rw [if_neg (by simp [h1]), if_pos h2]
    · refine Loc.congr (Loc.err (errOf (row.take (257 + a)))) (fun bs => ?_)
      rw [if_pos h1]
theorem loc_block (most kind pos : Nat) (out : List Int) : Loc (fun r : Nat × List Int => r.1) (fun bs => blockS bs most kind pos out) pos := by
  unfold blockS
  exact Loc.ite (loc_stored most pos out) (Loc.ite (loc_syms _ _ fixLit_ok fixDist_ok most pos out) (Loc.ite (loc_dyn most pos out) (Loc.err _)))
theorem loc_head (most pos : Nat) (out : List Int) : Loc (fun r : Bool × Nat × List Int => r.2.1) (fun bs => headS bs most pos out) pos := by
  unfold headS
  refine Loc.bind (pr := fun r : Nat × Nat => r.2) (loc_take pos 1) fun ⟨a, p1⟩ _ => ?_
  dsimp only
  refine Loc.bind (pr := fun r : Nat × Nat => r.2) (loc_take p1 2) fun ⟨b, p2⟩ _ => ?_
  dsimp only
  refine Loc.bind (pr := fun r : Nat × List Int => r.1) (loc_block most b p2 out) fun ⟨p3, o⟩ _ => ?_
  exact Loc.pure _ rfl
theorem headS_more {bs : List Int} {most pos p : Nat} {out o : List Int} {u : Bool} (h : headS bs most pos out = .ok (u, p, o)) : pos + 1 ≤ p := by
  unfold headS at h
  simp only [bind, Except.bind] at h
  cases h1 : takeS bs pos 1 with
  | error e => rw [h1] at h; cases h
  | ok r1 =>
    obtain ⟨a, p1⟩ := r1
    rw [h1] at h
    simp only at h
    have q1 : p1 = pos + 1 := by
      unfold takeS at h1
      split at h1
      · simp only [Except.ok.injEq, Prod.mk.injEq] at h1; omega
      · cases h1
    cases h2 : takeS bs p1 2 with
    | error e => rw [h2] at h; cases h
    | ok r2 =>
      obtain ⟨b, p2⟩ := r2
      have q2 := (loc_take p1 2 bs _ h2).1
      rw [h2] at h
      simp only at h q2
      cases h3 : blockS bs most b p2 out with
      | error e => rw [h3] at h; cases h
      | ok r3 =>
        obtain ⟨p3, o3⟩ := r3
        have q3 := (loc_block most b p2 out bs _ h3).1
        rw [h3] at h
        simp only [Except.ok.injEq, Prod.mk.injEq] at h q3
        omega
theorem loc_infl (most pos : Nat) (out : List Int) : Loc (fun r : Nat × List Int => r.1) (fun bs => inflS bs most (8 * bs.length + 1) pos out) pos := by
  refine loc_of_loop (L := fun bs f pos out => inflS bs most f pos out) (loc_loop (fun pos out bs => headS bs most pos out >>= fun r => .ok (if r.1 = true then none else some (), r.2.1, r.2.2)) _ (fun _ _ _ => ⟨99, rfl⟩) ?_ ?_ ?_)
  · intro bs f pos s
    simp only [inflS, bind, Except.bind]
    cases headS bs most pos s with
    | error e => rfl
    | ok r => obtain ⟨u, p, o⟩ := r; cases u <;> rfl
  · intro pos s
    exact Loc.bind (pr := fun r : Bool × Nat × List Int => r.2.1) (loc_head most pos s) fun r _ => Loc.pure _ rfl
  · intro bs pos s p s' h
    simp only [bind, Except.bind] at h
    cases hr : headS bs most pos s with
    | error e => rw [hr] at h; cases h
    | ok r =>
      obtain ⟨u, p1, l1⟩ := r
      rw [hr] at h
      simp only [Except.ok.injEq, Prod.mk.injEq] at h
      have := headS_more hr
      omega
theorem loc_loop_infl_ge (most : Nat) (f pos : Nat) (out : List Int) (bs : List Int) (r : Nat × List Int) (h : inflS bs most f pos out = .ok r) : pos ≤ r.1 := by
  induction f generalizing pos out with
  | zero => cases h
  | succ f ih =>
    rw [inflS] at h
    cases hr : headS bs most pos out with
    | error er => rw [hr] at h; cases h
    | ok q =>
      obtain ⟨u, p1, l1⟩ := q
      have := headS_more hr
      rw [hr] at h
      cases u with
      | true => simp only [Except.ok.injEq] at h; subst h; simp only; omega
      | false =>
        simp only at h
        have := ih _ _ h
        omega
/-- The whole: what lies behind a stream changes nothing; a byte less, and it has no end. -/
theorem inflate_behind {bs : List Int} {M : Int} {out : List Int} {n : Nat} (h : inflateS bs M = .ok (out, n)) :
    0 ≤ M ∧ 1 ≤ n ∧ n ≤ bs.length ∧ (∀ more, inflateS (bs.take n ++ more) M = .ok (out, n)) ∧ inflateS (bs.take (n - 1)) M = .error 10 := by
  have hM : 0 ≤ M := by
    apply Int.not_lt.mp
    intro hl
    rw [inflateS, if_pos hl] at h
    cases h
  have e : ∀ bs, inflateS bs M = match inflS bs M.toNat (8 * bs.length + 1) 0 [] with | .error e => .error e | .ok (pos, out) => .ok (out, (pos + 7) / 8) := by
    intro bs
    rw [inflateS, if_neg (by omega)]
    cases inflS bs M.toNat (8 * bs.length + 1) 0 [] <;> rfl
  rw [e] at h
  cases hi : inflS bs M.toNat (8 * bs.length + 1) 0 [] with
  | error er => rw [hi] at h; cases h
  | ok r =>
    obtain ⟨p, o⟩ := r
    have h1 : 1 ≤ p := by
      rw [inflS] at hi
      cases hr : headS bs M.toNat 0 [] with
      | error er => rw [hr] at hi; cases hi
      | ok q =>
        obtain ⟨u, p1, l1⟩ := q
        have := headS_more hr
        rw [hr] at hi
        cases u with
        | true => simp only [Except.ok.injEq, Prod.mk.injEq] at hi; omega
        | false =>
          simp only at hi
          have := (loc_loop_infl_ge _ _ _ _ _ _ hi)
          omega
    rw [hi] at h
    simp only [Except.ok.injEq, Prod.mk.injEq] at h
    obtain ⟨rfl, rfl⟩ := h
    obtain ⟨_, a2, a3⟩ := loc_infl M.toNat 0 [] bs _ hi
    have a2 := a2 (by omega)
    simp only at a2 a3
    refine ⟨hM, by omega, by omega, fun more => ?_, ?_⟩
    · have := (a3 (bs.take ((p + 7) / 8) ++ more) ((p + 7) / 8) ⟨by omega, by simp only [List.length_append, List.length_take]; omega, fun j hj => by
        rw [List.getElem?_append_left (by rw [List.length_take]; omega), List.getElem?_take_of_lt hj]⟩ (by omega)).1 (by omega)
      rw [e, this]
    · have := (a3 (bs.take ((p + 7) / 8 - 1)) ((p + 7) / 8 - 1) ⟨by omega, by simp only [List.length_take]; omega, fun j hj => by
        rw [List.getElem?_take_of_lt hj]⟩ (by omega)).2 (by omega) (by simp only [List.length_take]; omega)
      rw [e, this]
end Go.Proofs.YtiheajlgaehfmaaDoor
