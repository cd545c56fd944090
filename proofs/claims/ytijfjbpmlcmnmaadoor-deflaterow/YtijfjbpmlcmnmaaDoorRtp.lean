/- Rows of lengths told by symbols: the plain answer; rows of the call's own. -/
import Derived.Test.YtijfjbpmlcmnmaaDoorPut
import Derived.Test.YtijfjbpmlcmnmaaDoorTab
namespace Go.Proofs.YtijfjbpmlcmnmaaDoor
open Go.RowKit

/-- What one symbol and its extra number add. -/
def stepT (l : List Int) (p : Int × Int) : Option (List Int) :=
  if 0 ≤ p.1 ∧ p.1 < 16 ∧ p.2 = 0 then some (l ++ [p.1])
  else if p.1 = 16 ∧ 0 ≤ p.2 ∧ p.2 ≤ 3 ∧ 1 ≤ l.length then some (l ++ List.replicate (3 + p.2).toNat (l[l.length - 1]?.getD 0))
  else if p.1 = 17 ∧ 0 ≤ p.2 ∧ p.2 ≤ 7 then some (l ++ List.replicate (3 + p.2).toNat 0)
  else if p.1 = 18 ∧ 0 ≤ p.2 ∧ p.2 ≤ 127 then some (l ++ List.replicate (11 + p.2).toNat 0)
  else none
def rowT : List (Int × Int) → List Int → Option (List Int)
  | [], l => some l
  | p :: ps, l => match stepT l p with
    | some l' => rowT ps l'
    | none => none
theorem rowT_snoc (ps : List (Int × Int)) (p : Int × Int) : ∀ l : List Int, rowT (ps ++ [p]) l = match rowT ps l with
    | some l' => stepT l' p
    | none => none := by
  induction ps with
  | nil =>
    intro l
    show rowT [p] l = stepT l p
    simp only [rowT]
    cases stepT l p <;> rfl
  | cons q qs ih =>
    intro l
    show rowT (q :: (qs ++ [p])) l = match rowT (q :: qs) l with
      | some l' => stepT l' p
      | none => none
    simp only [rowT]
    cases stepT l q with
    | none => rfl
    | some l' => exact ih l'
theorem rowT_step {ps : List (Int × Int)} {i : Nat} {p : Int × Int} (h : ps[i]? = some p) (l : List Int) : rowT (ps.drop i) l = match stepT l p with
    | some l' => rowT (ps.drop (i + 1)) l'
    | none => none := by
  obtain ⟨hi, rfl⟩ := List.getElem?_eq_some_iff.1 h
  rw [List.drop_eq_getElem_cons hi]
  rfl
theorem stepT_cases {l l' : List Int} {p : Int × Int} (h : stepT l p = some l') :
    (0 ≤ p.1 ∧ p.1 < 16 ∧ p.2 = 0 ∧ l' = l ++ List.replicate 1 p.1) ∨ (p.1 = 16 ∧ 0 ≤ p.2 ∧ p.2 ≤ 3 ∧ 1 ≤ l.length ∧ l' = l ++ List.replicate (3 + p.2).toNat (l[l.length - 1]?.getD 0)) ∨
    (p.1 = 17 ∧ 0 ≤ p.2 ∧ p.2 ≤ 7 ∧ l' = l ++ List.replicate (3 + p.2).toNat 0) ∨ (p.1 = 18 ∧ 0 ≤ p.2 ∧ p.2 ≤ 127 ∧ l' = l ++ List.replicate (11 + p.2).toNat 0) := by
  unfold stepT at h
  split at h
  · next g => exact .inl ⟨g.1, g.2.1, g.2.2, (Option.some.inj h).symm⟩
  · split at h
    · next g => exact .inr (.inl ⟨g.1, g.2.1, g.2.2.1, g.2.2.2, (Option.some.inj h).symm⟩)
    · split at h
      · next g => exact .inr (.inr (.inl ⟨g.1, g.2.1, g.2.2, (Option.some.inj h).symm⟩))
      · split at h
        · next g => exact .inr (.inr (.inr ⟨g.1, g.2.1, g.2.2, (Option.some.inj h).symm⟩))
        · cases h
theorem stepT_more {l l' : List Int} {p : Int × Int} (h : stepT l p = some l') : l.length + 1 ≤ l'.length := by
  rcases stepT_cases h with ⟨_, _, _, rfl⟩ | ⟨_, _, _, _, rfl⟩ | ⟨_, _, _, rfl⟩ | ⟨_, _, _, rfl⟩ <;> simp only [List.length_append, List.length_replicate] <;> omega
theorem rowT_more : ∀ {ps : List (Int × Int)} {l l' : List Int}, rowT ps l = some l' → l.length + ps.length ≤ l'.length
  | [], l, l', h => by obtain rfl := Option.some.inj h; simp
  | p :: ps, l, l', h => by
    simp only [rowT] at h
    cases hs : stepT l p with
    | none => rw [hs] at h; cases h
    | some m =>
      rw [hs] at h
      have h1 := stepT_more hs
      have h2 := rowT_more h
      simp only [List.length_cons]
      omega

/-- Numbers of the call's own. -/
def OwnInts (B : Nat) (W : World) (v : Value) (zs : List Int) : Prop := (∃ g c, v = .slice g zs.length c) ∧ W.ownsRow B 3 1 v zs.length (zs.map (Value.int .i64))
theorem OwnInts.nil (B : Nat) (W : World) : OwnInts B W (.slice none 0 0) [] := ⟨⟨none, 0, rfl⟩, ⟨rfl, .inl ⟨rfl, rfl⟩⟩⟩
theorem OwnInts.below {B : Nat} {W W' : World} {v : Value} {zs : List Int} (h : OwnInts B W v zs) (hb : Below W.heap.size W W') : OwnInts B W' v zs := ⟨h.1, owns_kept (S := (· < W.heap.size)) h.2 (Kept.of_below hb (fun _ h => h)) (fun k hk => (h.2.lt k hk).2)⟩
theorem OwnInts.alloc {B : Nat} {W : World} {v : Value} {zs : List Int} (h : OwnInts B W v zs) (o : Obj) : OwnInts B (W.alloc o) v zs := h.below ((Below.refl _ W).alloc (Nat.le_refl _) o)
theorem OwnInts.drewN {B : Nat} {W : World} {v : Value} {zs : List Int} (h : OwnInts B W v zs) (n : Nat) : OwnInts B (W.drewN n) v zs := h
theorem below_drewN {B : Nat} {A W : World} (h : Below B A W) (n : Nat) : Below B A (W.drewN n) := ⟨h.os, h.tape, h.output, h.size, h.block⟩
theorem OwnInts.push {B : Nat} {W0 w w' : World} {v v' : Value} {zs : List Int} {b : Int} (h : OwnInts B w v zs) (hB : Below B W0 w) (ho : w'.ownsRow B 3 1 v' (zs.length + 1) (zs.map (Value.int .i64) ++ [.int .i64 b])) (hg : w.grownBy w' v.ownBlock) (hBs : B ≤ w.heap.size) :
    OwnInts B w' v' (zs ++ [b]) ∧ Below B W0 w' := by
  refine ⟨⟨?_, ?_⟩, ?_⟩
  · obtain ⟨g, c, e⟩ := owns_form ho
    exact ⟨g, c, by rw [e, List.length_append]; rfl⟩
  · rw [List.length_append, List.map_append]
    exact ho
  · exact hB.trans ((((Kept.refl (· < B) w).grown hg (fun k hk => by have : k < B := hk; omega) (fun k hk hlt => by have := (h.2.lt k hk).1; have : k < B := hlt; omega))).below (fun _ h => h))
theorem OwnInts.cell {B : Nat} {W : World} {g : Option Addr} {c : Nat} {zs : List Int} (h : OwnInts B W (.slice g zs.length c) zs) (j : Nat) (hj : j < zs.length) : ∃ gb, g = some ⟨gb, 0, none⟩ ∧ W.cell? ⟨gb, j, none⟩ = some (.int .i64 (zs[j]?.getD 0)) := by
  rcases h.2.2 with ⟨h0, h1⟩ | ⟨gb, cap', cur, hv, hb', hg', _⟩
  · omega
  · simp only [Value.slice.injEq] at hv
    obtain ⟨rfl, -, rfl⟩ := hv
    have c0 := h.2.cells (g := gb) rfl j (.int .i64 (zs[j]?.getD 0)) (by simp [hj])
    rw [Go.WideShapes.add_plain] at c0
    exact ⟨gb, rfl, by simpa using c0⟩
theorem OwnInts.ints {B : Nat} {W : World} {v : Value} {zs : List Int} (h : OwnInts B W v zs) : IntsIn (· < W.heap.size) W v zs := by
  obtain ⟨⟨g, c, rfl⟩, ho⟩ := h
  rcases ho.2 with ⟨h0, h1⟩ | ⟨gb, cap', cur, hv, hb', hg', _⟩
  · exact .inl ⟨List.eq_nil_of_length_eq_zero h1, _, _, by rw [h1]⟩
  · simp only [Value.slice.injEq] at hv
    obtain ⟨rfl, -, rfl⟩ := hv
    refine .inr ⟨gb, 0, _, rfl, (Array.getElem?_eq_some_iff.1 hg').1, fun j hj => ?_⟩
    have c0 := ho.cells (g := gb) rfl j (.int .i64 (zs[j]?.getD 0)) (by simp [hj])
    rwa [Go.WideShapes.add_plain] at c0
end Go.Proofs.YtijfjbpmlcmnmaaDoor
