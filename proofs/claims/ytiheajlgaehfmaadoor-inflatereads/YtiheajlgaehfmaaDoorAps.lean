import Derived.Test.YtiheajlgaehfmaaDoorOfl
import Derived.Test.YtiheajlgaehfmaaDoorCod
import Derived.Test.YtiheajlgaehfmaaDoorApp
import Derived.Test.YtiheajlgaehfmaaDoorMem
import Derived.OwnWalkIn
import Derived.Maps.AppendAt
/- slices.AppendSeq over the symbols of one length: the row that came in, and the symbols behind it. -/
namespace Go.Proofs.YtiheajlgaehfmaaDoor
open Go.RowKit Go.Shelf

attribute [local go_sem] Oper.semAt_some

theorem wpListIn_append_own2 {F : Fence} {n : Nat} {P : Program} (w : World) {ops : Array Oper} {rest : List Oper} {o : Oper} {a : Act} {Q : Exit → Act → World → Prop} (hgd : o.guard = none) (s x : Operand) (t : TypeId)
    (ho : o.op = .call { callee := .builtin .append, args := #[s, x], argTypes := #[t, t] })
    (base : Nat) (e : TypeId) (i : TypeInfo) (z : Value) (size bytes : Nat) (ht : P.underlying t = some (.slice e)) (hi : P.info? e = some i) (hz : i.zero = some z)
    (hsize : i.size = size) (hby : i.bytes = bytes) (hzs : z.cells.size = size) (hsz : 0 < size)
    (v : Value) (k : Nat) (xs : List Value) (hs : a.eval s = v) (hown : w.ownsRow base e size v k xs)
    (ad : Addr) (m c : Nat) (news : List Value) (hx : a.eval x = .slice (some ad) m c) (hl : news.length = m * size) (hnews : ∀ j u, news[j]? = some u → w.cell? (ad.add j) = some u) (h1 : ∀ u ∈ news, u.oneCell' = true)
    (h63 : k + m ≤ maxLen) (hbytes : (k + m) * bytes ≤ 140737488355328) (hbase : base ≤ w.heap.size)
    (h : ∀ v' w', w'.ownsRow base e size v' (k + m) (xs ++ news) → w.grownBy w' v.ownBlock → (∀ k, v'.ownBlock = some k → v.ownBlock = some k ∨ w.heap.size ≤ k) → wpListIn F n P ops Q rest (a.put o.dst v') w') : wpListIn F n P ops Q (o :: rest) a w := by
  refine wpListIn_plain hgd fun K hK => ?_
  obtain ⟨v', w', hr, h2, h3, h4⟩ := run_append_own2 (P := P) w base t o.type e i z size bytes ht hi hz hsize hby hzs hsz v k xs hown ad m c news hl hnews h1 h63 hbytes hbase
  unfold Oper.wpIn
  refine ⟨?_, ?_⟩
  · simp [Oper.about, ho, resolve, Target.leads, Sem.run_pure]
  · rw [Oper.semAt_plain F _ _ (by rw [ho]; intro c hc'; cases hc')]
    simp [execOp, ho, resolve, invoke, builtin, hs, hx, hr, Result.andThen]
    exact hK _ _ (h v' w' h2 h3 h4)

theorem owns_grown {W W' : World} {base : Nat} {e : TypeId} {size : Nat} {v : Value} {n : Nat} {xs : List Value} {row : Option Nat} (h : W.ownsRow base e size v n xs) (hg : W.grownBy W' row) (hrow : ∀ r, row = some r → ∃ o : Obj, W.heap[r]? = some o ∧ o.isCells = false) : W'.ownsRow base e size v n xs := by
  refine ⟨h.1, ?_⟩
  rcases h.2 with hn | ⟨g, cap, cur, rfl, hb, hgg, rest⟩
  · exact .inl hn
  · refine .inr ⟨g, cap, cur, rfl, hb, (hg.block g (Array.getElem?_eq_some_iff.1 hgg).1 (fun e => ?_)).trans hgg, rest⟩
    obtain ⟨o, ho, hc⟩ := hrow g e.symm
    rw [hgg] at ho
    cases ho
    simp [Obj.isCells] at hc
theorem owns_cells {W : World} {base : Nat} {e : TypeId} {size : Nat} {v : Value} {n : Nat} {xs : List Value} (h : W.ownsRow base e size v n xs) (j : Nat) (o : Obj) (hj : v.ownBlock = some j) (ho : W.heap[j]? = some o) : o.isCells = true := by
  rcases h.2 with ⟨rfl, _⟩ | ⟨g, cap, cur, rfl, hb, hgg, rest⟩
  · simp [Value.ownBlock] at hj
  · simp only [Value.ownBlock, Option.some.injEq] at hj
    subst hj
    rw [hgg] at ho
    cases ho
    rfl

/-- What stands in the box between two rounds. -/
def ApIn (T : Nat → Prop) (base Bs : Nat) (w : World) (l : List Int) (W : World) : Prop :=
  ∃ v, Row W Bs 32 #[v] ∧ W.ownsRow base 3 1 v l.length (l.map (Value.int .i64)) ∧ (∀ k, v.ownBlock = some k → ¬ T k) ∧ Kept T w W
theorem row_ne {W : World} {base : Nat} {e t : TypeId} {size : Nat} {v : Value} {n : Nat} {xs : List Value} {B : Nat} {cs : Array Value} (h : W.ownsRow base e size v n xs) (hR : Row W B t cs) (hne : t ≠ e) : v.ownBlock ≠ some B := by
  rcases h.2 with ⟨rfl, _⟩ | ⟨g, cap, cur, rfl, hb, hgg, rest⟩
  · simp [Value.ownBlock]
  · intro he
    simp only [Value.ownBlock, Option.some.injEq] at he
    subst he
    rw [show W.heap[g]? = _ from hR] at hgg
    simp at hgg
    exact hne hgg.2

theorem Tryd.info3 : (Tryd.prog.info? 3).map (fun i => (i.zero, i.size, i.bytes)) = some (some (.int .i64 0), 1, 8) := by kernel_rfl

set_option maxRecDepth 100000 in
set_option maxHeartbeats 2000000 in
theorem aps_in (T : Nat → Prop) (B0 base : Nat) (v : Value) (xs : List Int) (m : Int) (sv : Value) (zs : List Int) (hl : zs.length ≤ 320) (hx : xs.length ≤ 10000) (w : World)
    (hT : ∀ k, T k → k < w.heap.size) (hT0 : T B0) (hT1 : T (B0 + 1)) (hbase : base ≤ w.heap.size) (c0 : w.cell? ⟨B0, 0, none⟩ = some sv) (c1 : w.cell? ⟨B0 + 1, 0, none⟩ = some (.int .i64 m)) (hI : IntsIn T w sv zs)
    (hv : w.ownsRow base 3 1 v xs.length (xs.map (Value.int .i64))) (hvT : ∀ k, v.ownBlock = some k → ¬ T k) :
    CallsIn Fence.wide 6 Tryd.prog 71 #[v, .func (.func 83) #[] #[.pointer (some ⟨B0, 0, none⟩), .pointer (some ⟨B0 + 1, 0, none⟩)]] w fun e w' => ∃ v' ys, ys = xs ++ (ofF zs m zs.length).map (fun x => (x.1 : Int)) ∧ e = .returned v' ∧
      w'.ownsRow base 3 1 v' ys.length (ys.map (Value.int .i64)) ∧ (∀ k, v'.ownBlock = some k → ¬ T k) ∧ Kept T w w' := by
  have hmx : Tryd.prog.follows .mixedOrders = true := by kernel_rfl
  obtain ⟨gv, cv, rfl⟩ := owns_form hv
  obtain ⟨i0, hi, hz0, hz1, hz2⟩ := info_parts Tryd.info3
  refine callsIn_of_wp_marks Tryd.func71 rfl trivial ?_ rfl
  simp only [Tryd.ntmps71, List.size_toArray, List.length_cons, List.length_nil, Nat.reduceAdd, Nat.reduceSub, Array.replicate_succ, Array.replicate_zero, List.push_toArray, List.append_toArray, List.nil_append, List.cons_append]
  gi_wp2
  have hR := Row.new w 32 #[.slice gv xs.length cv]
  have hown := hv.alloc (.cells #[.slice gv xs.length cv] 32)
  have hKw : Kept T w (w.alloc (.cells #[.slice gv xs.length cv] 32)) := (Kept.refl T w).alloc hT _
  have hsz : (w.alloc (.cells #[.slice gv xs.length cv] 32)).heap.size = w.heap.size + 1 := by simp
  have d0 := (hKw.cell (p := ⟨B0, 0, none⟩) hT0).trans c0
  have d1 := (hKw.cell (p := ⟨B0 + 1, 0, none⟩) hT1).trans c1
  have dI := hI.kept hKw
  have hlt0 := hT B0 hT0
  have hTB : ¬ T w.heap.size := fun h => absurd (hT _ h) (by omega)
  generalize w.alloc (.cells #[.slice gv xs.length cv] 32) = w1 at hR hown hKw hsz d0 d1 dI ⊢
  refine wpIn_rangeFunc_ownG rfl (by omega) (gf := 83) (lb := #[.pointer (some ⟨B0, 0, none⟩), .pointer (some ⟨B0 + 1, 0, none⟩)]) rfl trivial (enters_of Tryd.func83 (by kernel_rfl) rfl)
    (ofl_stops Fence.wide 5 trivial rfl (by omega) B0 T m sv zs (by omega) hT1 w1 (fun k hk => by have := hT k hk; omega) (by omega) d0 d1 dI)
    Kept.trans (keptK_b (fun k hk => by have := hT k hk; omega)) (Below.refl _ _) (fun _ => rfl)
    (fun pre W => ApIn T base w.heap.size w (xs ++ pre.map (fun x => (x.1 : Int))) W) (fun _ _ _ => False)
    (fun s A B row hs hg hr => by
      obtain ⟨u, h1, h2, h3, h4⟩ := hs
      exact ⟨u, row_grown h1 hg (fun r e => (hr r e).2), owns_grown h2 hg (fun r e => (hr r e).2), h3, h4.grown hg (fun k hk => Nat.lt_of_lt_of_le (hT k hk) h4.size) (fun r e hTr => by have := (hr r e).1; have := hT r hTr; omega)⟩)
    (fun _ _ _ _ _ hs _ _ => hs)
    ⟨_, hR, by simpa using hown, hvT, hKw⟩
    (fun x => { tmps := #[.slice gv xs.length cv, .func (.func 83) #[] #[.pointer (some ⟨B0, 0, none⟩), .pointer (some ⟨B0 + 1, 0, none⟩)], .pointer (some ⟨w.heap.size, 0, none⟩), undef, .slice none 0 0, .int .i64 x.1, .func (.func 83) #[] #[.pointer (some ⟨B0, 0, none⟩), .pointer (some ⟨B0 + 1, 0, none⟩)], .int .i64 x.1, undef, undef, undef, undef, undef], defers := [] }) ?assign ?body ?done ?stop
  case assign =>
    intro l x W K hK
    gi_wp2
    exact hK
  case body =>
    rintro l pre x W ⟨u, h1, h2, h3, h4⟩ hpre
    have HL : Hid ((xs ++ (pre ++ [x]).map (fun x => (x.1 : Int))) = (xs ++ pre.map (fun x => (x.1 : Int))) ++ [(x.1 : Int)]) := by
      show _ = _
      simp
    have hln : (xs ++ pre.map (fun x => (x.1 : Int))).length ≤ 10320 := by
      rw [List.length_append, List.length_map]
      omega
    generalize xs ++ pre.map (fun x => (x.1 : Int)) = ls at h2 HL hln
    obtain ⟨gu, cu, rfl⟩ := owns_form h2
    have cB := h1.cell (i := 0) (v := .slice gu ls.length cu) rfl
    have hne := row_ne h2 h1 (by decide)
    have hblt := h1.lt
    have hTW : ∀ k, T k → k < W.heap.size := fun k hk => Nat.lt_of_lt_of_le (hT k hk) h4.size
    gi_wp2_with (gi_at_builtin; refine wpListIn_append_own2 _ rfl (.tmp 8) (.tmp 10) 32 rfl base 3 i0 (.int .i64 0) 1 8 Tryd.underlying32 hi hz0 hz1 hz2 rfl (by decide) _ _ _ rfl (h2.alloc _) ⟨W.heap.size, 0, none⟩ 1 1 [.int .i64 (x.1 : Int)] rfl rfl (cell_one_new _ _ _) (by simp [Value.oneCell']) (by unfold maxLen; omega) (by omega) (by simp; have := h4.size; omega) ?_)
    intro v' w3 hown' hgrow hblk
    obtain ⟨g', c', rfl⟩ := owns_form hown'
    have hk3 : Kept T W w3 := ((Kept.refl T W).alloc hTW _).grown hgrow (fun k hk => by have := hTW k hk; simp; omega) (fun r e => h3 r e)
    have hR3 : Row w3 w.heap.size 32 #[.slice gu ls.length cu] := (hgrow.block _ (by simp; omega) (fun e => hne e.symm)).trans (h1.alloc _)
    have cB3 := hR3.cell (i := 0) (v := .slice gu ls.length cu) rfl
    have fB3 := hR3.frozen 0
    have hko : KeepsOthers W w3 := (KeepsOthers.alloc W _).trans (KeepsOthers.of_grownBy hgrow (fun j o hj ho => owns_cells (h2.alloc _) j o hj ho))
    have hr4 := hR3.set 0 (.slice g' (ls.length + 1) c')
    have hne' : (Value.slice g' (ls.length + 1) c').ownBlock ≠ some w.heap.size := row_ne hown' hR3 (by decide)
    gi_wp2
    refine ⟨(hko.trans (KeepsOthers.setCell _ _ _)).from _, hk3.setCell (p := ⟨w.heap.size, 0, none⟩) hTB _, _, by simpa using hr4, ?_, fun k hk => ?_, (h4.trans hk3).setCell (p := ⟨w.heap.size, 0, none⟩) hTB _⟩
    · rw [HL.out]
      have := owns_kept hown' ((Kept.refl (fun k => k ≠ w.heap.size) w3).setCell (p := ⟨w.heap.size, 0, none⟩) (by simp) (.slice g' (ls.length + 1) c')) (fun k hk e => hne' (e ▸ hk))
      simpa using this
    · rcases hblk k hk with h | h
      · exact h3 k h
      · intro hTk
        have := hTW k hTk
        have h5 : W.heap.size ≤ k := Nat.le_trans (by simp) h
        omega
  case done =>
    rintro D ys W hD rfl ⟨u, h1, h2, h3, h4⟩ hK
    have cB := h1.cell (i := 0) (v := u) rfl
    gi_wp2
    refine ⟨by simp, .inl ⟨_, _, rfl, run_takeDeferred hK, ?_⟩⟩
    have hDT : ¬ T D := fun h => by have := hT D h; omega
    refine ⟨u, by simp [results, Tryd.f71, go_sem], u, _, rfl, rfl, ?_, h3, h4.trans (Kept.putObj _ D _ hDT)⟩
    refine owns_kept h2 (Kept.putObj (S := fun k => k ≠ D) W D _ (by simp)) (fun k hk e => ?_)
    have := owns_cells h2 D _ (e ▸ hk) hK
    simp [Obj.isCells] at this
  case stop =>
    rintro D c pre W _ _ h _
    exact h.elim
end Go.Proofs.YtiheajlgaehfmaaDoor
