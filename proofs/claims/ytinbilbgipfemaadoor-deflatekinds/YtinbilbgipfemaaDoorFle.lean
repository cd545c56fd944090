import Derived.Test.YtinbilbgipfemaaDoorSeaM
/- Fields that are built on the spot and put. -/
namespace Go.Proofs.YtinbilbgipfemaaDoor
open Go.RowKit

theorem IsWb.mono {T T' : Nat → Prop} {w : World} {R : Nat} {bs : List Bool} (h : IsWb T w R bs) (hT : ∀ k, T' k → T k) : IsWb T' w R bs := by
  obtain ⟨ys, ⟨g, c, h1, h2, h3⟩, hp⟩ := h
  exact ⟨ys, ⟨g, c, h1, h2, fun k hk ht => h3 k hk (hT k ht)⟩, hp⟩
theorem IsWb.lt {T : Nat → Prop} {w : World} {R : Nat} {bs : List Bool} (h : IsWb T w R bs) : R < w.heap.size := by
  obtain ⟨ys, ⟨g, c, h1, h2, h3⟩, hp⟩ := h
  exact h1.lt
theorem IsWb.fresh {T : Nat → Prop} {w : World} {R : Nat} {bs : List Bool} (h : IsWb T w R bs) (o : Obj) : IsWb (fun k => T k ∨ k = w.heap.size) (w.alloc o) R bs := by
  obtain ⟨ys, ⟨g, c, h1, h2, h3⟩, hp⟩ := h
  refine ⟨ys, ⟨g, c, h1.alloc o, h2.alloc o, fun k hk => ?_⟩, hp⟩
  rintro (ht | ht)
  · exact h3 k hk ht
  · have := (h2.lt k hk).2
    omega
theorem IsWb.below {T : Nat → Prop} {w w' : World} {R : Nat} {bs : List Bool} (h : IsWb T w R bs) (hb : Below w.heap.size w w') : IsWb T w' R bs := by
  obtain ⟨ys, ⟨g, c, h1, h2, h3⟩, hp⟩ := h
  exact ⟨ys, ⟨g, c, h1.kept (Kept.of_below (S := fun k => k < w.heap.size) hb (fun _ h => h)) h1.lt, owns_kept h2 (Kept.of_below (S := fun k => k < w.heap.size) hb (fun _ h => h)) (fun k hk => (h2.lt k hk).2), h3⟩, hp⟩
theorem IsWb.drew {T : Nat → Prop} {w : World} {R : Nat} {bs : List Bool} (h : IsWb T w R bs) : IsWb T w.drew R bs := h.below (Below.refl _ w).drew

theorem putFresh (T : Nat → Prop) (R : Nat) (bs : List Bool) (fs : List Fd) (cap n : Nat) (hn : n = fs.length) (w : World) (hW : IsWb T w R bs) (hok : ∀ f ∈ fs, FdOk f) (hlen : fs.length ≤ 1000) (hT : ∀ k, T k → k < w.heap.size) (hTR : ¬ T R) (hsz : bs.length + widF fs + 64 < 1125899906842624) :
    Calls Tryd.prog 71 #[.pointer (some ⟨R, 0, none⟩), .slice (some ⟨w.heap.size, 0, none⟩) n cap] (w.alloc (.cells (fcells fs).toArray 79)) fun e w' => e = .returned (.tuple #[]) ∧ IsWb T w' R (bs ++ fieldsB fs) ∧ Kept T w w' := by
  subst hn
  have hlt := hW.lt
  refine (putF_any (fun k => T k ∨ k = w.heap.size) R bs (some ⟨w.heap.size, 0, none⟩) cap fs (w.alloc (.cells (fcells fs).toArray 79)) (FldIn.of_row (Row.new w 79 _) (.inr rfl)) hok (by omega) (hW.fresh _) ?_ ?_ hsz).mono ?_
  · rintro k (h | rfl)
    · simp; have := hT k h; omega
    · simp
  · rintro (h | h)
    · exact hTR h
    · omega
  · rintro e w' ⟨rfl, h1, h2⟩
    exact ⟨rfl, h1.mono (fun k h => .inl h), ((Kept.refl T w).alloc hT _).trans (h2.mono (fun k h => .inl h))⟩
end Go.Proofs.YtinbilbgipfemaaDoor
