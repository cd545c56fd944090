import Derived.Test.YtinbilbgipfemaaDoorTws
import Derived.OrdersIn
import Derived.TacticsInMore
/- A region that draws its order, walked by what holds whichever operations have come up: one case an operation. -/
namespace Go.Proofs.YtinbilbgipfemaaDoor
open Go.RowKit

section
variable {F : Fence} {n : Nat} {P : Program} {ops : Array Oper} {Q : Exit → Act → World → Prop}

def remB : List Bool → Nat
  | [] => 0
  | b :: bs => (if b then 0 else 1) + remB bs
theorem remB_set : ∀ (l : List Bool) (i : Nat), l[i]? = some false → remB (l.set i true) + 1 = remB l
  | [], i, h => by simp at h
  | b :: bs, 0, h => by simp at h; subst h; simp [remB]; omega
  | b :: bs, i + 1, h => by
    have := remB_set bs i (by simpa using h)
    simp only [List.set_cons_succ, remB]
    omega
theorem remB_zero : ∀ (l : List Bool), remB l = 0 → ∀ i : Nat, l[i]?.getD true = true
  | [], _, i => by simp
  | b :: bs, h, i => by
    simp only [remB] at h
    cases i with
    | zero => cases b <;> simp_all
    | succ i => simpa using remB_zero bs (by omega) i

theorem ready_open {listed : Array Bool} {i : Nat} (h : i ∈ Region.ready .any ops listed) : listed.toList[i]? = some false := by
  unfold Region.ready at h
  simp only [List.mem_filter, Bool.and_eq_true, Bool.not_eq_true'] at h
  have h1 := h.2.1
  rw [Array.getD_eq_getD_getElem?] at h1
  rw [Array.getElem?_toList]
  cases hx : listed[i]? with
  | none => rw [hx] at h1; simp at h1
  | some b => rw [hx] at h1; simp at h1; rw [h1]
theorem ready_none {listed : Array Bool} (h : remB listed.toList = 0) : Region.ready .any ops listed = [] := by
  rw [List.eq_nil_iff_forall_not_mem]
  intro i hi
  have h1 := ready_open hi
  have h2 := remB_zero _ h i
  rw [h1] at h2
  cases h2

theorem wpAnyIn_inv (Inv : Array Bool → Act → World → Prop)
    (hstep : ∀ listed a w, Inv listed a w → ∀ i, i ∈ Region.ready .any ops listed → wpOpIn F n P ops Q i (fun a' w' => Inv (listed.setIfInBounds i true) a' w') a w)
    (hend : ∀ listed a w, Inv listed a w → Region.ready .any ops listed = [] → Q .normal a w) :
    ∀ (fuel : Nat) (listed : Array Bool) (a : Act) (w : World), Inv listed a w → remB listed.toList ≤ fuel → wpAnyIn F n P .any ops Q fuel listed a w
  | 0, listed, a, w, h, hf => ⟨ready_none (by omega), hend _ _ _ h (ready_none (by omega))⟩
  | fuel + 1, listed, a, w, h, hf => by
    refine ⟨fun h0 => hend _ _ _ h h0, fun i hi => wpOpIn_mono (fun a' w' h' => wpAnyIn_inv Inv hstep hend fuel _ a' w' h' ?_) (hstep _ _ _ h i hi)⟩
    have := remB_set _ i (ready_open hi)
    rw [Array.toList_setIfInBounds]
    omega

theorem ready_dep {listed : Array Bool} {i : Nat} (h : i ∈ Region.ready .any ops listed) {o : Oper} (ho : ops[i]? = some o) (k : Nat) (hk : (o.after.any fun e => Region.binds .any e && e.on == k) = true) : listed.getD k false = true := by
  obtain ⟨_, o', ho', ha⟩ := mem_ready.1 h
  obtain rfl := Option.some.inj (ho.symm.trans ho')
  rw [Array.any_eq_true'] at hk
  obtain ⟨e, he, hb⟩ := hk
  simp only [Bool.and_eq_true, beq_iff_eq] at hb
  obtain ⟨hb, rfl⟩ := hb
  exact ha e he hb
theorem ready_lt {listed : Array Bool} {i : Nat} (h : i ∈ Region.ready .any ops listed) : i < ops.size := by
  obtain ⟨_, o', ho', _⟩ := mem_ready.1 h
  exact (Array.getElem?_eq_some_iff.1 ho').1
theorem nil_done {listed : Array Bool} (h : Region.ready .any ops listed = []) (i : Nat) {o : Oper} (ho : ops[i]? = some o) (hd : (o.after.all fun e => !Region.binds .any e || listed.getD e.on false) = true) : listed.getD i true = true := by
  cases hx : listed.getD i true with
  | true => rfl
  | false =>
    have : i ∈ Region.ready .any ops listed := mem_ready.2 ⟨hx, o, ho, fun e he hb => by
      rw [Array.all_eq_true'] at hd
      have := hd e he
      simpa [hb] using this⟩
    rw [h] at this
    cases this

theorem opIn_value {i : Nat} {o : Oper} {a : Act} {w w' : World} {v : Value} {K : Act → World → Prop} (ho : ops[i]? = some o) (hg : o.guard = none) (hd : ∀ c, o.op ≠ .defer c) (hF : ∀ f, F.fn f)
    (hr : (execOp a.eval o).run P w = .ok (.value v) w') (h : K (a.put o.dst v) w') : wpOpIn F n P ops Q i K a w := by
  unfold wpOpIn
  simp only [ho]
  rw [if_pos (by simp [Region.wanted, hg])]
  exact ⟨fun f _ => hF f, by rw [Oper.semAt_eq _ _ _ hd, hr]; exact h⟩
theorem run_append_op {o : Oper} {a : Act} {w w' : World} {v' sv xv : Value} {s x : Operand} {t : TypeId} (ho : o.op = .call { callee := .builtin .append, args := #[s, x], argTypes := #[t, t] }) (hs : a.eval s = sv) (hx : a.eval x = xv)
    (hr : (Builtin.append_ #[t, t] o.type #[sv, xv]).run P w = .ok v' w') : (execOp a.eval o).run P w = .ok (.value v') w' := by
  unfold execOp
  simp only [ho, resolve, invoke, builtin, Sem.run_bind, Sem.run_pure, Result.andThen_ok, List.map_toArray, List.map_cons, List.map_nil, hs, hx, hr]
theorem run_store40 {o : Oper} {a : Act} {w : World} {p x : Operand} {X n c : Nat} {g : Option Addr} {s u : Value} (ho : o.op = .store 40 p x) (hp : a.eval p = .pointer (some ⟨X, 0, none⟩)) (hx : a.eval x = s) (hs : s = .slice g n c)
    (hc : w.cell? ⟨X, 0, none⟩ = some u) (hf : w.frozen? ⟨X, 0, none⟩ = false) : (execOp a.eval o).run Tryd.prog w = .ok .skip (w.setCell ⟨X, 0, none⟩ s) := by
  subst hs
  unfold execOp
  simp only [ho, hp, hx]
  clear ho hp hx
  go_simp
theorem opIn_skip {i : Nat} {o : Oper} {a : Act} {w w' : World} {K : Act → World → Prop} (ho : ops[i]? = some o) (hg : o.guard = none) (hd : ∀ c, o.op ≠ .defer c) (hF : ∀ f, F.fn f)
    (hr : (execOp a.eval o).run P w = .ok .skip w') (h : K (a.put o.dst undef) w') : wpOpIn F n P ops Q i K a w := by
  unfold wpOpIn
  simp only [ho]
  rw [if_pos (by simp [Region.wanted, hg])]
  exact ⟨fun f _ => hF f, by rw [Oper.semAt_eq _ _ _ hd, hr]; exact h⟩
end

section
variable {B X Y : Nat} {w0 : World} {S : Nat → Prop} {zs1 zs2 : List Int} {v1 v2 : Value} {w w' : World}
theorem own_grown {row : Option Nat} {zs : List Int} {v : Value} (h : OwnInts B w v zs) (hg : w.grownBy w' row) (hrow : ∀ r, row = some r → ∃ o : Obj, w.heap[r]? = some o ∧ o.isCells = false) : OwnInts B w' v zs := by
  refine ⟨h.1, ⟨h.2.1, ?_⟩⟩
  rcases h.2.2 with h0 | ⟨gb, cap2, cur, hv, hb2, hgb, rest⟩
  · exact .inl h0
  · refine .inr ⟨gb, cap2, cur, hv, hb2, ?_, rest⟩
    have hlt := (Array.getElem?_eq_some_iff.1 hgb).1
    refine (hg.block gb hlt ?_).trans hgb
    intro e
    obtain ⟨o, ho, hc⟩ := hrow gb e.symm
    obtain rfl := Option.some.inj (ho.symm.trans hgb)
    cases hc
theorem row_grownX {row : Option Nat} {K : Nat} {t : TypeId} {cs : Array Value} (h : Row w K t cs) (hg : w.grownBy w' row) (hrow : ∀ r, row = some r → ∃ o : Obj, w.heap[r]? = some o ∧ o.isCells = false) : Row w' K t cs := by
  refine (hg.block K h.lt ?_).trans h
  intro e
  obtain ⟨o, ho, hc⟩ := hrow K e.symm
  obtain rfl := Option.some.inj (ho.symm.trans h)
  cases hc
/-- Between two rounds. -/
structure TwoAt (B X Y : Nat) (w0 : World) (S : Nat → Prop) (zs1 zs2 : List Int) (v1 v2 : Value) (w : World) : Prop where
  own1 : OwnInts B w v1 zs1
  own2 : OwnInts B w v2 zs2
  dis : ∀ k, v1.ownBlock = some k → v2.ownBlock ≠ some k
  box1 : Row w X 40 #[v1]
  box2 : Row w Y 40 #[v2]
  below : Below B w0 w
  size : B ≤ w.heap.size
  inS : ∀ k, S k → k < w.heap.size
  nS : ∀ k, B ≤ k → k ≠ X → k ≠ Y → v1.ownBlock = some k ∨ v2.ownBlock = some k → ¬ S k
  nX : ¬ S X
  nY : ¬ S Y
  xy : X ≠ Y
  bX : B ≤ X
  bY : B ≤ Y
theorem TwoAt.start (h : TwoAt B X Y w0 S zs1 zs2 v1 v2 w) : TwoSt B X Y w0 S w zs1 zs2 v1 v2 none none false false none none w :=
  ⟨h.own1, h.own2, h.dis, h.box1, h.box2, (fun _ _ e => by cases e), (fun _ _ e => by cases e), h.below, Kept.refl _ _, KeepsOthers.refl _, h.size, h.inS, h.nS, h.nX, h.nY, h.xy, h.bX, h.bY⟩
theorem TwoSt.fin {Wd : World} {a1 a2 : Value} {x1 x2 : Int} {g1 g2 : Option (Nat × Int)} (h : TwoSt B X Y w0 S Wd zs1 zs2 v1 v2 (some (a1, x1)) (some (a2, x2)) true true g1 g2 w) : TwoAt B X Y w0 S (zs1 ++ [x1]) (zs2 ++ [x2]) a1 a2 w ∧ Kept S Wd w ∧ KeepsOthers Wd w :=
  ⟨⟨h.own1, h.own2, h.dis, h.box1, h.box2, h.below, h.size, (fun k hk => Nat.lt_of_lt_of_le (h.inS k hk) h.kept.size), h.nS, h.nX, h.nY, h.xy, h.bX, h.bY⟩, h.kept, h.others⟩
theorem TwoAt.grown {row : Option Nat} (h : TwoAt B X Y w0 S zs1 zs2 v1 v2 w) (hg : w.grownBy w' row) (hrow : ∀ r, row = some r → B ≤ r ∧ ∃ o : Obj, w.heap[r]? = some o ∧ o.isCells = false) : TwoAt B X Y w0 S zs1 zs2 v1 v2 w' where
  own1 := own_grown h.own1 hg (fun r e => (hrow r e).2)
  own2 := own_grown h.own2 hg (fun r e => (hrow r e).2)
  dis := h.dis
  box1 := row_grownX h.box1 hg (fun r e => (hrow r e).2)
  box2 := row_grownX h.box2 hg (fun r e => (hrow r e).2)
  below := h.below.trans (((Kept.refl (· < B) w).grown hg (fun k (hk : k < B) => Nat.lt_of_lt_of_le hk h.size) (fun k e (hk : k < B) => by have := (hrow k e).1; omega)).below (fun _ h => h))
  size := Nat.le_trans h.size hg.size
  inS := fun k hk => Nat.lt_of_lt_of_le (h.inS k hk) hg.size
  nS := h.nS
  nX := h.nX
  nY := h.nY
  xy := h.xy
  bX := h.bX
  bY := h.bY
end
end Go.Proofs.YtinbilbgipfemaaDoor
