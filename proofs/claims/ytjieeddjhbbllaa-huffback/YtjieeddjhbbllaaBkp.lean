/- Symbols that are written by their codes: which bits they are, and that a decoder reads them again. -/
import Derived.Test.YtjieeddjhbbllaaNext
import Derived.Test.YtjieeddjhbbllaaPut
namespace Go.Proofs.Ytjieeddjhbbllaa
open Go.RowKit

/-- A symbol that has a code. -/
def hasCode (zs : List Int) (s : Int) : Bool := decide (0 ≤ s) && decide (s < zs.length) && decide (0 < lenAt zs s.toNat)
def codeLen (zs : List Int) (s : Int) : Nat := (lenAt zs s.toNat).toNat
/-- The bits that are put for a symbol: its code, the highest bit first. -/
def symBits (zs : List Int) (s : Int) : List Bool := lowBits (revN (codeAt zs s.toNat) (codeLen zs s)) (codeLen zs s)
def bitsOf (zs : List Int) (ps : List Int) : List Bool := ps.flatMap (symBits zs)
/-- Of the first k symbols those that have codes. -/
def putL (zs ss : List Int) : Nat → List Int
  | 0 => []
  | k + 1 => if hasCode zs (ss[k]?.getD 0) then putL zs ss k ++ [ss[k]?.getD 0] else putL zs ss k
theorem putL_length (zs ss : List Int) (k : Nat) : (putL zs ss k).length ≤ k := by
  induction k with
  | zero => simp [putL]
  | succ k ih =>
    rw [putL]
    split
    · rw [List.length_append, List.length_singleton]; omega
    · omega
theorem putL_ok (zs ss : List Int) (k : Nat) : ∀ s ∈ putL zs ss k, hasCode zs s = true := by
  induction k with
  | zero => intro s hs; simp [putL] at hs
  | succ k ih =>
    intro s hs
    rw [putL] at hs
    split at hs
    · rcases List.mem_append.1 hs with h | h
      · exact ih s h
      · rw [List.mem_singleton] at h
        rw [h]
        assumption
    · exact ih s hs
theorem symBits_length (zs : List Int) (s : Int) : (symBits zs s).length = codeLen zs s := lowBits_length _ _
theorem codeLen_le {zs : List Int} (h : inRange zs) (s : Int) : codeLen zs s ≤ 15 := by
  have := lenAt_rng h s.toNat
  unfold codeLen
  omega
theorem bitsOf_snoc (zs ps : List Int) (s : Int) : bitsOf zs (ps ++ [s]) = bitsOf zs ps ++ symBits zs s := by simp [bitsOf]
theorem bitsOf_le {zs : List Int} (h : inRange zs) (ps : List Int) : (bitsOf zs ps).length ≤ 15 * ps.length := by
  induction ps with
  | nil => simp [bitsOf]
  | cons s ps ih =>
    have := codeLen_le h s
    have e : bitsOf zs (s :: ps) = symBits zs s ++ bitsOf zs ps := rfl
    rw [e, List.length_append, symBits_length, List.length_cons]
    omega
/-- The bits of the symbol at place i stand behind those of the symbols ahead of it. -/
theorem bitsOf_at (zs ps : List Int) (i : Nat) (s : Int) (hi : ps[i]? = some s) : (bitsOf zs (ps.take (i + 1))) = bitsOf zs (ps.take i) ++ symBits zs s ∧ (bitsOf zs (ps.take i)).length + codeLen zs s ≤ (bitsOf zs ps).length ∧
    ∀ k, k < codeLen zs s → (bitsOf zs ps)[(bitsOf zs (ps.take i)).length + k]? = (symBits zs s)[k]? := by
  obtain ⟨hlt, he⟩ := List.getElem?_eq_some_iff.1 hi
  have e1 : ps.take (i + 1) = ps.take i ++ [s] := by rw [List.take_succ_eq_append_getElem hlt, he]
  have e2 : bitsOf zs (ps.take (i + 1)) = bitsOf zs (ps.take i) ++ symBits zs s := by rw [e1, bitsOf_snoc]
  have e3 : bitsOf zs ps = bitsOf zs (ps.take i) ++ symBits zs s ++ bitsOf zs (ps.drop (i + 1)) := by
    rw [← e2]
    conv => lhs; rw [← List.take_append_drop (i + 1) ps]
    exact List.flatMap_append
  refine ⟨e2, ?_, fun k hk => ?_⟩
  · rw [e3, List.length_append, List.length_append, symBits_length]
    omega
  · rw [e3, List.append_assoc, List.getElem?_append_right (by omega), Nat.add_sub_cancel_left, List.getElem?_append_left (by rw [symBits_length]; exact hk)]
/-- What was written is read. -/
theorem next_back {zs : List Int} (h : errOf zs = 0) (ys ps : List Int) (hp : Packed ys (bitsOf zs ps)) (i : Nat) (s : Int) (hi : ps[i]? = some s) (hc : hasCode zs s = true) :
    nextOf zs ys (bitsOf zs (ps.take i)).length = (s.toNat, 0, codeLen zs s) := by
  have hg := Good.of_err h
  simp only [hasCode, Bool.and_eq_true, decide_eq_true_eq] at hc
  obtain ⟨_, hmono, hbits⟩ := bitsOf_at zs ps i s hi
  have hL : lenAt zs s.toNat = (codeLen zs s : Int) := by unfold codeLen; omega
  refine hg.nx_reads s.toNat (codeLen zs s) (by omega) hL (by omega) _ (bitFrom_lt _ _) _ ?_ ?_
  · have := hp.len
    omega
  · intro k hk
    rw [bitFrom, hp.bit, hbits k hk, symBits]
    have e : (lowBits (revN (codeAt zs s.toNat) (codeLen zs s)) (codeLen zs s))[k]? = some ((revN (codeAt zs s.toNat) (codeLen zs s)).testBit k) := by simp [lowBits, hk]
    rw [e, Option.getD_some, revN_bit, decide_eq_true hk, Bool.true_and, Nat.toNat_testBit]
/-! ### the writer and other rows -/
theorem IsWr.mono {T T' : Nat → Prop} {w : World} {R : Nat} {ys : List Int} {sz : Nat} (h : IsWr T w R ys sz) (hT : ∀ k, T' k → T k) : IsWr T' w R ys sz := by
  obtain ⟨g, c, h1, h2, h3⟩ := h
  exact ⟨g, c, h1, h2, fun k hk hT' => h3 k hk (hT k hT')⟩
theorem owns_ne {w : World} {b1 b2 : Nat} {e1 e2 : TypeId} {s1 s2 : Nat} {v1 v2 : Value} {n1 n2 : Nat} {xs1 xs2 : List Value} (h1 : w.ownsRow b1 e1 s1 v1 n1 xs1) (h2 : w.ownsRow b2 e2 s2 v2 n2 xs2) (hne : e1 ≠ e2) (k : Nat) (k1 : v1.ownBlock = some k) (k2 : v2.ownBlock = some k) : False := by
  rcases h1.2 with ⟨rfl, _⟩ | ⟨g, _, _, rfl, _, hg, _⟩
  · simp [Value.ownBlock] at k1
  · rcases h2.2 with ⟨rfl, _⟩ | ⟨g', _, _, rfl, _, hg', _⟩
    · simp [Value.ownBlock] at k2
    · simp only [Value.ownBlock, Option.some.injEq] at k1 k2
      subst k1
      subst k2
      rw [hg] at hg'
      simp at hg'
      exact hne hg'.2
theorem IsWr.also {T : Nat → Prop} {w : World} {R : Nat} {ys : List Int} {sz : Nat} (h : IsWr T w R ys sz) {b n : Nat} {v : Value} {xs : List Value} (hv : w.ownsRow b 3 1 v n xs) : IsWr (fun x => T x ∨ v.ownBlock = some x) w R ys sz ∧ v.ownBlock ≠ some R := by
  obtain ⟨g, c, h1, h2, h3⟩ := h
  refine ⟨⟨g, c, h1, h2, fun k hk hT => ?_⟩, fun e => h1.not_row (by decide) hv e.symm⟩
  rcases hT with hT | hT
  · exact h3 k hk hT
  · exact owns_ne h2 hv (by decide) k hk hT
theorem IsWr.grown {T : Nat → Prop} {w w' : World} {R : Nat} {ys : List Int} {sz : Nat} (h : IsWr T w R ys sz) {b n : Nat} {v : Value} {xs : List Value} (hv : w.ownsRow b 3 1 v n xs) (hg : w.grownBy w' v.ownBlock) : IsWr T w' R ys sz := by
  obtain ⟨g, c, h1, h2, h3⟩ := h
  refine ⟨g, c, (hg.block R h1.lt (fun e => h1.not_row (by decide) hv e)).trans h1, ⟨h2.1, ?_⟩, h3⟩
  rcases h2.2 with hn | ⟨g', cap, cur, e, hb, hgg, rest⟩
  · exact .inl hn
  · refine .inr ⟨g', cap, cur, e, hb, (hg.block g' (Array.getElem?_eq_some_iff.1 hgg).1 (fun e' => ?_)).trans hgg, rest⟩
    exact owns_ne h2 hv (by decide) g' (by rw [e]; rfl) e'.symm
theorem IsWr.alloc {T : Nat → Prop} {w : World} {R : Nat} {ys : List Int} {sz : Nat} (h : IsWr T w R ys sz) (o : Obj) : IsWr T (w.alloc o) R ys sz := by
  obtain ⟨g, c, h1, h2, h3⟩ := h
  exact ⟨g, c, h1.alloc o, h2.alloc o, h3⟩
end Go.Proofs.Ytjieeddjhbbllaa
