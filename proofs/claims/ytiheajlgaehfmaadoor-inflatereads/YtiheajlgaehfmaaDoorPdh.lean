import Derived.Test.YtiheajlgaehfmaaDoorPrq
/- The head of a dynamic block, plain: which codes it has. -/
namespace Go.Proofs.YtiheajlgaehfmaaDoor
open Go.RowKit

/-- The codes of a dynamic block, once its row of lengths is there. -/
def splitS (a pos : Nat) (row : List Int) : Except Int (List Int × List Int × Nat) :=
  if row[256]?.getD 0 = 0 then .error 12
  else if errOf (row.take (257 + a)) ≠ 0 then .error (errOf (row.take (257 + a)))
  else if errOf (row.drop (257 + a)) ≠ 0 then .error (errOf (row.drop (257 + a)))
  else .ok (row.take (257 + a), row.drop (257 + a), pos)
/-- Behind the three numbers. -/
def dynT (bs : List Int) (a b c pos : Nat) : Except Int (List Int × List Int × Nat) :=
  match clS bs (4 + c) 0 pos (List.replicate 19 0) with
  | .error e => .error e
  | .ok (pos, cl) =>
    if fullB cl = false then .error 11
    else match rowS cl bs (257 + a + (1 + b)) (8 * bs.length + 1) pos [] with
      | .error e => .error e
      | .ok (pos, row) => splitS a pos row
/-- The head of a dynamic block. -/
def dynH (bs : List Int) (pos : Nat) : Except Int (List Int × List Int × Nat) :=
  match takeS bs pos 5 with
  | .error e => .error e
  | .ok (a, pos) => match takeS bs pos 5 with
    | .error e => .error e
    | .ok (b, pos) => match takeS bs pos 4 with
      | .error e => .error e
      | .ok (c, pos) => if 286 < 257 + a ∨ 30 < 1 + b then .error 12 else dynT bs a b c pos
theorem dyn_head (bs : List Int) (most pos : Nat) (out : List Int) : dynS bs most pos out = match dynH bs pos with | .error e => .error e | .ok (lz, dz, p) => symsS lz dz bs most (8 * bs.length + 1) p out := by
  unfold dynS dynH dynT splitS
  simp only [bind, Except.bind]
  cases takeS bs pos 5 with
  | error e => rfl
  | ok r1 =>
    obtain ⟨a, p1⟩ := r1
    simp only
    cases takeS bs p1 5 with
    | error e => rfl
    | ok r2 =>
      obtain ⟨b, p2⟩ := r2
      simp only
      cases takeS bs p2 4 with
      | error e => rfl
      | ok r3 =>
        obtain ⟨c, p3⟩ := r3
        simp only
        split
        · rfl
        · cases clS bs (4 + c) 0 p3 (List.replicate 19 0) with
          | error e => rfl
          | ok r4 =>
            obtain ⟨p4, cl⟩ := r4
            simp only
            split
            · rfl
            · cases rowS cl bs (257 + a + (1 + b)) (8 * bs.length + 1) p4 [] with
              | error e => rfl
              | ok r5 =>
                obtain ⟨p5, row⟩ := r5
                simp only
                split
                · rfl
                · split
                  · rfl
                  · split <;> rfl
theorem rowStep_len {cz bs : List Int} {many pos p : Nat} {l l' : List Int} (h : rowStep cz bs many pos l = .ok (p, l')) (hl : l.length < many) : l'.length ≤ many := by
  cases hn : nextS cz bs pos with
  | error e => rw [rowStep_next hn] at h; cases h
  | ok r =>
    obtain ⟨x, p1⟩ := r
    by_cases hx : x < 16
    · rw [rowStep_one hn hx] at h
      simp only [Except.ok.injEq, Prod.mk.injEq] at h
      rw [← h.2, List.length_append, List.length_replicate]
      omega
    · by_cases h0 : x = 16 ∧ l.length = 0
      · obtain ⟨rfl, h0⟩ := h0
        rw [rowStep_none hn h0] at h
        cases h
      · cases ht : takeS bs p1 (rnBits x) with
        | error e => rw [rowStep_take hn hx h0 ht] at h; cases h
        | ok r2 =>
          obtain ⟨k, p2⟩ := r2
          rw [rowStep_run hn hx h0 ht] at h
          split at h
          · cases h
          · simp only [Except.ok.injEq, Prod.mk.injEq] at h
            rw [← h.2, List.length_append, List.length_replicate]
            omega
theorem rowS_len {cz bs : List Int} {many : Nat} : ∀ (f pos p : Nat) (l l' : List Int), rowS cz bs many f pos l = .ok (p, l') → l.length ≤ many → l'.length = many := by
  intro f
  induction f with
  | zero => intro pos p l l' h; simp [rowS] at h
  | succ f ih =>
    intro pos p l l' h hl
    rw [rowS] at h
    split at h
    · rename_i hlt
      split at h
      · cases h
      · rename_i p2 l2 hs
        exact ih _ _ _ _ h (rowStep_len hs hlt)
    · simp only [Except.ok.injEq, Prod.mk.injEq] at h
      rw [← h.2]
      omega
end Go.Proofs.YtiheajlgaehfmaaDoor
