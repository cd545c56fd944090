import Derived.Test.YtinbilbgipfemaaDoorTabM
import Derived.Test.YtinbilbgipfemaaDoorRep
import Derived.Test.YtinbilbgipfemaaDoorRel
/- Two rows of the call's own, in two boxes, that grow side by side: what holds between any two operations. -/
namespace Go.Proofs.YtinbilbgipfemaaDoor
open Go.RowKit

def curV (v : Value) : Option (Value × Int) → Value
  | none => v
  | some (v', _) => v'
def curZ (zs : List Int) : Option (Value × Int) → List Int
  | none => zs
  | some (_, x) => zs ++ [x]

/-- The state: the rows v1, v2 hold zs1, zs2; app: the append is through; st: the box is written; g: the new element's row. -/
structure TwoSt (B X Y : Nat) (w0 : World) (S : Nat → Prop) (Wd : World) (zs1 zs2 : List Int) (v1 v2 : Value) (app1 app2 : Option (Value × Int)) (st1 st2 : Bool) (g1 g2 : Option (Nat × Int)) (w : World) : Prop where
  own1 : OwnInts B w (curV v1 app1) (curZ zs1 app1)
  own2 : OwnInts B w (curV v2 app2) (curZ zs2 app2)
  dis : ∀ k, (curV v1 app1).ownBlock = some k → (curV v2 app2).ownBlock ≠ some k
  box1 : Row w X 40 #[if st1 then curV v1 app1 else v1]
  box2 : Row w Y 40 #[if st2 then curV v2 app2 else v2]
  row1 : ∀ G x, g1 = some (G, x) → Row w G 3 #[.int .i64 x] ∧ (curV v1 app1).ownBlock ≠ some G ∧ (curV v2 app2).ownBlock ≠ some G
  row2 : ∀ G x, g2 = some (G, x) → Row w G 3 #[.int .i64 x] ∧ (curV v1 app1).ownBlock ≠ some G ∧ (curV v2 app2).ownBlock ≠ some G
  below : Below B w0 w
  kept : Kept S Wd w
  others : KeepsOthers Wd w
  size : B ≤ w.heap.size
  inS : ∀ k, S k → k < Wd.heap.size
  nS : ∀ k, B ≤ k → k ≠ X → k ≠ Y → (curV v1 app1).ownBlock = some k ∨ (curV v2 app2).ownBlock = some k → ¬ S k
  nX : ¬ S X
  nY : ¬ S Y
  xy : X ≠ Y
  bX : B ≤ X
  bY : B ≤ Y

section
variable {B X Y : Nat} {w0 : World} {S : Nat → Prop} {Wd : World} {zs1 zs2 : List Int} {v1 v2 : Value} {app1 app2 : Option (Value × Int)} {st1 st2 : Bool} {g1 g2 : Option (Nat × Int)} {w : World}

theorem own_ne_new (h : OwnInts B w v1 zs1) : v1.ownBlock ≠ some w.heap.size := fun e => by have := (h.2.lt _ e).2; omega

theorem TwoSt.build1 (h : TwoSt B X Y w0 S Wd zs1 zs2 v1 v2 app1 app2 st1 st2 g1 g2 w) (x : Int) : TwoSt B X Y w0 S Wd zs1 zs2 v1 v2 app1 app2 st1 st2 (some (w.heap.size, x)) g2 (w.alloc (.cells #[.int .i64 x] 3)) where
  own1 := h.own1.alloc _
  own2 := h.own2.alloc _
  dis := h.dis
  box1 := h.box1.alloc _
  box2 := h.box2.alloc _
  row1 := fun G y e => by
    simp only [Option.some.injEq, Prod.mk.injEq] at e
    obtain ⟨rfl, rfl⟩ := e
    exact ⟨Row.new w 3 _, own_ne_new h.own1, own_ne_new h.own2⟩
  row2 := fun G y e => ⟨(h.row2 G y e).1.alloc _, (h.row2 G y e).2⟩
  below := h.below.alloc h.size _
  kept := h.kept.alloc (fun k hk => Nat.lt_of_lt_of_le (h.inS k hk) h.kept.size) _
  others := h.others.trans (KeepsOthers.alloc _ _)
  size := by simp; have := h.size; omega
  inS := h.inS
  nS := h.nS
  nX := h.nX
  nY := h.nY
  xy := h.xy
  bX := h.bX
  bY := h.bY

theorem TwoSt.swap (h : TwoSt B X Y w0 S Wd zs1 zs2 v1 v2 app1 app2 st1 st2 g1 g2 w) : TwoSt B Y X w0 S Wd zs2 zs1 v2 v1 app2 app1 st2 st1 g2 g1 w where
  own1 := h.own2
  own2 := h.own1
  dis := fun k h1 h2 => h.dis k h2 h1
  box1 := h.box2
  box2 := h.box1
  row1 := fun G y e => ⟨(h.row2 G y e).1, (h.row2 G y e).2.2, (h.row2 G y e).2.1⟩
  row2 := fun G y e => ⟨(h.row1 G y e).1, (h.row1 G y e).2.2, (h.row1 G y e).2.1⟩
  below := h.below
  kept := h.kept
  others := h.others
  size := h.size
  inS := h.inS
  nS := fun k a b c d => h.nS k a c b d.symm
  nX := h.nY
  nY := h.nX
  xy := h.xy.symm
  bX := h.bY
  bY := h.bX

theorem TwoSt.drew (h : TwoSt B X Y w0 S Wd zs1 zs2 v1 v2 app1 app2 st1 st2 g1 g2 w) : TwoSt B X Y w0 S Wd zs1 zs2 v1 v2 app1 app2 st1 st2 g1 g2 w.drew where
  own1 := h.own1
  own2 := h.own2
  dis := h.dis
  box1 := h.box1
  box2 := h.box2
  row1 := h.row1
  row2 := h.row2
  below := h.below.drew
  kept := h.kept.drew
  others := h.others.trans (KeepsOthers.drew _)
  size := h.size
  inS := h.inS
  nS := h.nS
  nX := h.nX
  nY := h.nY
  xy := h.xy
  bX := h.bX
  bY := h.bY

theorem row_not_own {t : TypeId} {cs : Array Value} {K : Nat} (h : OwnInts B w v1 zs1) (hR : Row w K t cs) (hne : t ≠ 3) : v1.ownBlock ≠ some K := by
  intro e
  rcases h.2.2 with ⟨h0, _⟩ | ⟨g2, cap2, cur, hv, hb2, hgb, _⟩
  · rw [h0] at e; simp [Value.ownBlock] at e
  · rw [hv] at e
    simp [Value.ownBlock] at e
    subst e
    have := hgb.symm.trans hR
    simp at this
    exact hne this.2.symm

theorem TwoSt.append1 (h : TwoSt B X Y w0 S Wd zs1 zs2 v1 v2 none app2 false st2 g1 g2 w) {G : Nat} {x : Int} (hg : g1 = some (G, x)) (hl : zs1.length + 1 ≤ 17592186043904) (ty : TypeId) :
    ∃ v' w', (Builtin.append_ #[40, 40] ty #[v1, .slice (some ⟨G, 0, none⟩) 1 1]).run Tryd.prog w = .ok v' w' ∧ TwoSt B X Y w0 S Wd zs1 zs2 v1 v2 (some (v', x)) app2 false st2 none g2 w' := by
  obtain ⟨i0, hi, hz0, hz1, hz2⟩ := info_parts Tryd.info3'
  obtain ⟨hR, hn1, hn2⟩ := h.row1 G x hg
  have ho1 : OwnInts B w v1 zs1 := h.own1
  obtain ⟨v', w', hr, hown, hgr, hblk⟩ := run_append_own2 (P := Tryd.prog) w B 40 ty 3 i0 (.int .i64 0) 1 8 Tryd.underlying40 hi hz0 hz1 hz2 rfl (by decide) v1 zs1.length _ ho1.2 ⟨G, 0, none⟩ 1 1 [.int .i64 x] rfl (fun j u hu => by
    have hj : j = 0 := by have := (List.getElem?_eq_some_iff.1 hu).1; simpa using this
    subst hj
    simp at hu
    subst hu
    simpa [Addr.add] using hR.cell (i := 0) rfl) (by simp [Value.oneCell']) (by unfold maxLen; omega) (by omega) h.size
  obtain ⟨hO, hB⟩ := OwnInts.push ho1 h.below hown hgr h.size
  have keep : ∀ K t cs, Row w K t cs → v1.ownBlock ≠ some K → Row w' K t cs := fun K t cs hK hne => (hgr.block K hK.lt (fun e => hne e.symm)).trans hK
  have hk2 : Kept (fun k => k < w.heap.size ∧ v1.ownBlock ≠ some k) w w' := (Kept.refl _ w).grown hgr (fun k hk => hk.1) (fun k hk hs => hs.2 hk)
  have hd2 : ∀ k, v'.ownBlock = some k → (curV v2 app2).ownBlock ≠ some k := by
    intro k hk e
    rcases hblk k hk with h1 | h1
    · exact h.dis k h1 e
    · have := (h.own2.2.lt k e).2; omega
  refine ⟨v', w', hr, ?_⟩
  exact {
    own1 := hO
    own2 := ⟨h.own2.1, owns_kept h.own2.2 hk2 (fun k hk => ⟨(h.own2.2.lt k hk).2, fun e => h.dis k e hk⟩)⟩
    dis := hd2
    box1 := keep X 40 _ h.box1 (row_not_own ho1 h.box1 (by decide))
    box2 := keep Y 40 _ h.box2 (row_not_own ho1 h.box2 (by decide))
    row1 := fun G' y e => by cases e
    row2 := fun G' y e => by
      obtain ⟨r1, r2, r3⟩ := h.row2 G' y e
      refine ⟨keep G' 3 _ r1 r2, ?_, r3⟩
      intro e'
      rcases hblk G' e' with h1 | h1
      · exact r2 h1
      · have := r1.lt; omega
    below := hB
    kept := h.kept.trans (hk2.mono (fun k hk => ⟨Nat.lt_of_lt_of_le (h.inS k hk) h.kept.size, fun e => h.nS k (ho1.2.lt k e).1 (fun e' => h.nX (e' ▸ hk)) (fun e' => h.nY (e' ▸ hk)) (.inl e) hk⟩))
    others := h.others.trans (KeepsOthers.of_grownBy hgr (fun j o hj ho => by
      rcases ho1.2.2 with ⟨h0, _⟩ | ⟨gb, cap2, cur, hv, hb2, hgb, _⟩
      · rw [h0] at hj; simp [Value.ownBlock] at hj
      · rw [hv] at hj
        simp [Value.ownBlock] at hj
        subst hj
        obtain rfl := Option.some.inj (ho.symm.trans hgb)
        rfl))
    size := Nat.le_trans h.size hk2.size
    inS := h.inS
    nS := fun k a b c d hs => by
      rcases d with d | d
      · rcases hblk k d with h1 | h1
        · exact h.nS k a b c (.inl h1) hs
        · have := h.inS k hs; have := h.kept.size; omega
      · exact h.nS k a b c (.inr d) hs
    nX := h.nX
    nY := h.nY
    xy := h.xy
    bX := h.bX
    bY := h.bY }

theorem TwoSt.store1 {v' : Value} {x : Int} (h : TwoSt B X Y w0 S Wd zs1 zs2 v1 v2 (some (v', x)) app2 false st2 g1 g2 w) : TwoSt B X Y w0 S Wd zs1 zs2 v1 v2 (some (v', x)) app2 true st2 g1 g2 (w.setCell ⟨X, 0, none⟩ v') := by
  have hk : Kept (fun k => k ≠ X) w (w.setCell ⟨X, 0, none⟩ v') := (Kept.refl _ w).setCell (p := ⟨X, 0, none⟩) (by simp) _
  have hn1 := row_not_own h.own1 h.box1 (by decide)
  have hn2 := row_not_own h.own2 h.box1 (by decide)
  exact {
    own1 := ⟨h.own1.1, owns_kept h.own1.2 hk (fun k e e' => hn1 (e' ▸ e))⟩
    own2 := ⟨h.own2.1, owns_kept h.own2.2 hk (fun k e e' => hn2 (e' ▸ e))⟩
    dis := h.dis
    box1 := by have := h.box1.set 0 v'; simpa [curV] using this
    box2 := h.box2.kept hk (fun e => h.xy e.symm)
    row1 := fun G y e => ⟨(h.row1 G y e).1.kept hk (fun e' => by
      have h1 := (h.row1 G y e).1
      subst e'
      have := (show w.heap[G]? = _ from h1).symm.trans h.box1
      simp at this), (h.row1 G y e).2⟩
    row2 := fun G y e => ⟨(h.row2 G y e).1.kept hk (fun e' => by
      have h1 := (h.row2 G y e).1
      subst e'
      have := (show w.heap[G]? = _ from h1).symm.trans h.box1
      simp at this), (h.row2 G y e).2⟩
    below := h.below.setCell (p := ⟨X, 0, none⟩) h.bX _
    kept := h.kept.setCell (p := ⟨X, 0, none⟩) h.nX _
    others := h.others.trans (KeepsOthers.setCell _ _ _)
    size := Nat.le_trans h.size hk.size
    inS := h.inS
    nS := h.nS
    nX := h.nX
    nY := h.nY
    xy := h.xy
    bX := h.bX
    bY := h.bY }
end
end Go.Proofs.YtinbilbgipfemaaDoor
