/- slices.Collect over the items; Parse. -/
import Derived.Test.YtijfjbpmlcmnmaaDoorIms
import Derived.Test.YtijfjbpmlcmnmaaDoorUni
import Derived.Test.YtijfjbpmlcmnmaaDoorApp
import Derived.OwnWalkIn
namespace Go.Proofs.YtijfjbpmlcmnmaaDoor
open Go.RowKit Go.Shelf

attribute [local go_sem] Oper.semAt_some

theorem wpListIn_append_own2 {F : Fence} {n : Nat} {P : Program} (w : World) {ops : Array Oper} {rest : List Oper} {o : Oper} {a : Act} {Q : Exit → Act → World → Prop} (hgd : o.guard = none) (s x : Operand) (t : TypeId)
    (ho : o.op = .call { callee := .builtin .append, args := #[s, x], argTypes := #[t, t] })
    (base : Nat) (e : TypeId) (i : TypeInfo) (z : Value) (size bytes : Nat) (ht : P.underlying t = some (.slice e)) (hi : P.info? e = some i) (hz : i.zero = some z)
    (hsize : i.size = size) (hby : i.bytes = bytes) (hzs : z.cells.size = size) (hsz : 0 < size)
    (v : Value) (k : Nat) (xs : List Value) (hs : a.eval s = v) (hown : w.ownsRow base e size v k xs)
    (ad : Addr) (m c : Nat) (news : List Value) (hx : a.eval x = .slice (some ad) m c) (hl : news.length = m * size) (hnews : ∀ j u, news[j]? = some u → w.cell? (ad.add j) = some u) (h1 : ∀ u ∈ news, u.oneCell' = true)
    (h63 : k + m ≤ maxLen) (hbytes : (k + m) * bytes ≤ 140737488355328) (hbase : base ≤ w.heap.size)
    (h : ∀ v' w', w'.ownsRow base e size v' (k + m) (xs ++ news) → w.grownBy w' v.ownBlock → (∀ k, v'.ownBlock = some k → v.ownBlock = some k ∨ w.heap.size ≤ k) → wpListIn F n P ops Q rest (a.put o.dst v') w') : wpListIn F n P ops Q (o :: rest) a w := by
  refine wpListIn_plain hgd fun K hK => ?_
  obtain ⟨v', w', hr, h2, h3, h4⟩ := run_append_own2 (P := P) w base t o.type e i z size bytes ht hi hz hsize hby hzs hsz v k xs hown ad m c news hl hnews h1 h63 hbytes hbase
  unfold Oper.wpIn
  refine ⟨?_, ?_⟩
  · simp [Oper.about, ho, resolve, Target.leads, Sem.run_pure]
  · rw [Oper.semAt_plain F _ _ (by rw [ho]; intro c hc'; cases hc')]
    simp [execOp, ho, resolve, invoke, builtin, hs, hx, hr, Result.andThen]
    exact hK _ _ (h v' w' h2 h3 h4)
theorem owns_cells {W : World} {base : Nat} {e : TypeId} {size : Nat} {v : Value} {n : Nat} {xs : List Value} (h : W.ownsRow base e size v n xs) (j : Nat) (o : Obj) (hj : v.ownBlock = some j) (ho : W.heap[j]? = some o) : o.isCells = true := by
  rcases h.2 with ⟨rfl, _⟩ | ⟨g, cap, cur, rfl, hb, hgg, rest⟩
  · simp [Value.ownBlock] at hj
  · simp only [Value.ownBlock, Option.some.injEq] at hj
    subst hj
    rw [hgg] at ho
    cases ho
    rfl
theorem row_ne {W : World} {base : Nat} {e t : TypeId} {size : Nat} {v : Value} {n : Nat} {xs : List Value} {B : Nat} {cs : Array Value} (h : W.ownsRow base e size v n xs) (hR : Row W B t cs) (hne : t ≠ e) : v.ownBlock ≠ some B := by
  rcases h.2 with ⟨rfl, _⟩ | ⟨g, cap, cur, rfl, hb, hgg, rest⟩
  · simp [Value.ownBlock]
  · intro he
    simp only [Value.ownBlock, Option.some.injEq] at he
    subst he
    rw [show W.heap[g]? = _ from hR] at hgg
    simp at hgg
    exact hne hgg.2
theorem owns_mild {B : Nat} {Z : Nat → Prop} {W W' : World} {base : Nat} {e : TypeId} {size : Nat} {v : Value} {n : Nat} {xs : List Value} (h : W.ownsRow base e size v n xs) (hm : Mild B Z W W') (hn : ∀ k, v.ownBlock = some k → ¬ Z k) : W'.ownsRow base e size v n xs := by
  refine ⟨h.1, ?_⟩
  rcases h.2 with h0 | ⟨g, cap, cur, rfl, hb, hgg, rest⟩
  · exact .inl h0
  · exact .inr ⟨g, cap, cur, rfl, hb, hm.block g _ hgg (hn g rfl) (.inl rfl), rest⟩

/-- Each item may come behind those ahead. -/
def GoodIts (T : List Int) (q : Nat) (its : List It) : Prop := ∀ (i : Nat) (r : It), its[i]? = some r → ItemOf T q (its.take i) r
theorem GoodIts.snoc {T : List Int} {q : Nat} {its : List It} {r : It} (h : GoodIts T q its) (hr : ItemOf T q its r) : GoodIts T q (its ++ [r]) := by
  intro i x hx
  rcases Nat.lt_trichotomy i its.length with hi | hi | hi
  · rw [List.getElem?_append_left hi] at hx
    rw [List.take_append_of_le_length (by omega)]
    exact h i x hx
  · subst hi
    simp at hx
    subst hx
    rw [List.take_left']
    exact hr
    rfl
  · rw [List.getElem?_eq_none (by simp; omega)] at hx
    cases hx
theorem told_ge : ∀ its : List It, its.length ≤ told its
  | [] => Nat.le_refl _
  | r :: rs => by
    have := told_ge rs
    have : 1 ≤ r.size := by unfold It.size; omega
    simp only [List.length_cons, told]
    omega

def ColI (Z : Nat → Prop) (T : List Int) (q : Nat) (w : World) (pre : List It) (own : Nat → Prop) (V : World) : Prop :=
  ∃ v, Kept (fun k => k < w.heap.size ∧ ¬ Z k) w V ∧ Row V w.heap.size 28 #[v] ∧ OwnIts w.heap.size V v pre ∧ GoodIts T q pre ∧ own = fun k => k = w.heap.size ∨ v.ownBlock = some k

set_option maxRecDepth 100000 in
set_option maxHeartbeats 4000000 in
theorem appendSeq_in (Z U : Nat → Prop) (lb : Array Value) (T : List Int) (q : Nat) (hq : q ≤ 2000000) (w : World) (hZ : ∀ k, Z k → k < w.heap.size) (hU : ∀ k, U k → k < w.heap.size)
    (hseq : SeqOwn Fence.wide 7 Tryd.prog 32 lb (fun r : It => #[r.val]) Z U (ItemOf T q) (fun xs => told xs = q) (w.alloc (.cells #[.slice none 0 0] 28))) :
    CallsIn Fence.wide 8 Tryd.prog 42 #[.slice none 0 0, .func (.func 32) #[] lb] w fun e w' => ∃ v its, e = .returned v ∧ told its = q ∧ GoodIts T q its ∧ OwnIts w.heap.size w' v its ∧ Kept (fun k => k < w.heap.size ∧ ¬ Z k) w w' := by
  obtain ⟨i0, hi, hz0, hz1, hz2⟩ := info_parts Tryd.info32
  refine callsIn_of_wp_marks Tryd.func42 rfl trivial ?_ rfl
  simp only [Tryd.ntmps42, List.size_toArray, List.length_cons, List.length_nil, Nat.reduceAdd, Nat.reduceSub, Array.replicate_succ, Array.replicate_zero, List.push_toArray, List.append_toArray, List.nil_append, List.cons_append]
  gi_wp2
  have hR := Row.new w 28 #[.slice none 0 0]
  have hKw : Kept (fun k => k < w.heap.size ∧ ¬ Z k) w (w.alloc (.cells #[.slice none 0 0] 28)) := (Kept.refl _ w).alloc (fun k h => h.1) _
  have hsz : (w.alloc (.cells #[.slice none 0 0] 28)).heap.size = w.heap.size + 1 := by simp
  generalize w.alloc (.cells #[.slice none 0 0] 28) = w1 at hR hKw hsz hseq ⊢
  refine wpIn_range_own rfl (by omega) (gf := 32) (lb := lb) rfl trivial (enters_of Tryd.func32 (by kernel_rfl) rfl) hseq (fun k h => by have := hZ k h; omega) (fun _ => rfl)
    (ColI Z T q w)
    (fun pre own V V' h hm => by
      obtain ⟨v, h1, h2, h3, h4, h5⟩ := h
      refine ⟨v, h1.trans (hm.kept (fun k hk => ⟨by omega, hk.2, Nat.lt_of_lt_of_le hk.1 h1.size⟩)), hm.row h2 (fun hz => by have := hZ _ hz; omega), ⟨h3.1, owns_mild h3.2 hm (fun k e hz => by have := hZ k hz; have := (h3.2.lt k e).1; omega)⟩, h4, h5⟩)
    (fun pre own V k h hk => by
      obtain ⟨v, h1, h2, h3, h4, rfl⟩ := h
      rcases hk with rfl | hk
      · exact ⟨h2.lt, fun hu => by have := hU _ hu; omega⟩
      · exact ⟨(h3.2.lt k hk).2, fun hu => by have := hU _ hu; have := (h3.2.lt k hk).1; omega⟩)
    ⟨_, _, hKw, hR, OwnIts.nil _ _, (fun i r h => by simp at h), rfl⟩
    (fun x W => { tmps := #[.slice none 0 0, .func (.func 32) #[] lb, .pointer (some ⟨w.heap.size, 0, none⟩), undef, .slice none 0 0, .pointer (some ⟨W.heap.size, 0, none⟩), .func (.func 32) #[] lb, x.val, undef, undef, undef, undef, undef], defers := [] })
    (fun x W => W.alloc (.cells #[.int .i64 x.b, .int .i64 x.l, .int .i64 x.d] 32)) (fun x W => (Kept.refl _ W).alloc (fun k h => h) _) ?assign ?body ?done
  case assign =>
    intro l x W K hK
    simp only [It.val] at hK ⊢
    gi_wp2
    exact hK
  case body =>
    rintro l pre ⟨rb, rl, rd⟩ own W V hWs hIW hIV hMV hRx
    simp only [It.val]
    clear hIW
    obtain ⟨v, h1, h2, h3, h4, rfl⟩ := hIV
    have hR5 := hMV.row (Row.new W 32 #[.int .i64 rb, .int .i64 rl, .int .i64 rd]) (fun h => h)
    have c50 := hR5.cell (i := 0) rfl
    have c51 := hR5.cell (i := 1) rfl
    have c52 := hR5.cell (i := 2) rfl
    have HGD : Hid (GoodIts T q (pre ++ [⟨rb, rl, rd⟩])) := h4.snoc hRx
    have HLN : Hid (pre.length + 1 ≤ 2000001) := by have := told_ge pre; have := hRx.1; show _ ≤ _; omega
    obtain ⟨⟨gu, cu, rfl⟩, hown⟩ := h3
    have cB := h2.cell (i := 0) (v := .slice gu pre.length cu) rfl
    have hne := row_ne hown h2 (by decide)
    have hblt := h2.lt
    have hVs := h1.size
    have HNW : Hid (∀ (j : Nat) (u : Value), ([.int .i64 rb, .int .i64 rl, .int .i64 rd] : List Value)[j]? = some u → (V.alloc (.cells #[.int .i64 rb, .int .i64 rl, .int .i64 rd] 32)).cell? ((⟨V.heap.size, 0, none⟩ : Addr).add j) = some u) := by
      intro j u hu
      have hR := Row.new V 32 #[.int .i64 rb, .int .i64 rl, .int .i64 rd]
      have h := hR.cell (i := j) (v := u) (by simpa using hu)
      rw [Go.WideShapes.add_plain]
      simpa using h
    gi_wp2_with (gi_at_builtin; refine wpListIn_append_own2 _ rfl (.tmp 8) (.tmp 10) 28 rfl w.heap.size 32 i0 (.agg #[.int .i64 0, .int .i64 0, .int .i64 0]) 3 24 Tryd.underlying28 hi hz0 hz1 hz2 rfl (by decide) _ _ _ rfl (hown.alloc _) ⟨V.heap.size, 0, none⟩ 1 1 [.int .i64 rb, .int .i64 rl, .int .i64 rd] rfl rfl HNW.out (by simp [Value.oneCell']) (by have := HLN.out; unfold maxLen; omega) (by have := HLN.out; omega) (by simp; omega) ?_)
    intro v' w3 hown' hgrow hblk
    have hR3 : Row w3 w.heap.size 28 #[.slice gu pre.length cu] := (hgrow.block _ (by simp; omega) (fun e => hne e.symm)).trans (h2.alloc _)
    have hko : KeepsOthers V w3 := (KeepsOthers.alloc V _).trans (KeepsOthers.of_grownBy hgrow (fun j o hj ho => owns_cells (hown.alloc _) j o hj ho))
    have hk3 : Kept (fun k => k < V.heap.size ∧ ¬ (k = w.heap.size ∨ (Value.slice gu pre.length cu).ownBlock = some k)) V w3 := ((Kept.refl _ V).alloc (fun k hk => hk.1) _).grown hgrow (fun k hk => by have := hk.1; simp; omega) (fun r e hr => hr.2 (.inr e))
    have hkw : Kept (fun k => k < w.heap.size ∧ ¬ Z k) w w3 := h1.trans (hk3.mono (fun k hk => ⟨by omega, by
      rintro (h | h)
      · omega
      · have := (hown.lt k h).1; omega⟩))
    obtain ⟨g', c', rfl⟩ := owns_form hown'
    have cB3 := hR3.cell (i := 0) (v := .slice gu pre.length cu) rfl
    have fB3 := hR3.frozen 0
    have hr4 := hR3.set 0 (.slice g' (pre.length + 1) c')
    have hne' : (Value.slice g' (pre.length + 1) c').ownBlock ≠ some w.heap.size := row_ne hown' hR3 (by decide)
    clear c50 c51 c52 cB HNW hMV hR5 h4 hRx
    gi_wp2
    refine ⟨(hko.trans (KeepsOthers.setCell _ _ _)).from _, hk3.setCell (p := ⟨w.heap.size, 0, none⟩) (fun h => h.2 (.inl rfl)) _, _, .slice g' (pre.length + 1) c', hkw.setCell (p := ⟨w.heap.size, 0, none⟩) (fun h => by have := h.1; simp at this) _, by simpa using hr4, ⟨⟨g', c', by simp⟩, ?_⟩, HGD.out, rfl⟩
    have := owns_kept hown' ((Kept.refl (fun k => k ≠ w.heap.size) w3).setCell (p := ⟨w.heap.size, 0, none⟩) (by simp) (.slice g' (pre.length + 1) c')) (fun k hk e => hne' (e ▸ hk))
    rw [List.length_append, itCells_append]
    exact this
  case done =>
    rintro D ys own W hD hE ⟨v, h1, h2, h3, h4, h5⟩ hK
    have cB := h2.cell (i := 0) (v := v) rfl
    gi_wp2
    refine ⟨by simp, .inl ⟨_, _, rfl, run_takeDeferred hK, ?_⟩⟩
    refine ⟨v, by simp [results, Tryd.f42, go_sem], v, ys, rfl, hE, h4, ⟨h3.1, owns_kept h3.2 (Kept.putObj (S := fun k => k ≠ D) W D _ (by simp)) (fun k hk e => ?_)⟩, h1.trans (Kept.putObj _ D _ (fun h => by have := h.1; omega))⟩
    have := owns_cells h3.2 D _ (e ▸ hk) hK
    simp [Obj.isCells] at this
end Go.Proofs.YtijfjbpmlcmnmaaDoor
