import Derived.Test.YtfbhonjndepjbaaDoorRat
import Derived.Deep.AppendSrc
/- Of: a number's digits. -/
namespace Go.Proofs.YtfbhonjndepjbaaDoor
open Go.RowKit

theorem Tryd.info3 : (Tryd.prog.info? 3).map (fun i => (i.zero, i.size, i.bytes)) = some (some (.int .i64 0), 1, 8) := by kernel_rfl
/-- The value v is a slice of the call's own that holds the digits ds. -/
def OwnD (B : Nat) (W : World) (v : Value) (ds : List Int) : Prop := W.ownsRow B 3 1 v ds.length (ds.map (Value.int .i64))
theorem OwnD.below {B : Nat} {W W' : World} {v : Value} {ds : List Int} (h : OwnD B W v ds) (hb : Below W.heap.size W W') : OwnD B W' v ds :=
  owns_kept h (Kept.of_below hb (fun _ hk => hk)) (fun k hk => (h.lt k hk).2)
theorem OwnD.form {B : Nat} {W : World} {v : Value} {ds : List Int} (h : OwnD B W v ds) : ∃ g c, v = .slice g ds.length c := owns_form h
theorem OwnD.ints {B : Nat} {W : World} {v : Value} {ds : List Int} (h : OwnD B W v ds) : IntsIn (· < W.heap.size) W v ds := by
  rcases h.2 with ⟨rfl, hx⟩ | ⟨g, cap, cur, rfl, h1, h2, _⟩
  · have : ds = [] := List.eq_nil_of_length_eq_zero hx
    subst this
    exact .inl ⟨rfl, _, _, rfl⟩
  · refine .inr ⟨g, 0, cap, rfl, (Array.getElem?_eq_some_iff.1 h2).1, fun j hj => ?_⟩
    have := World.ownsRow.cellAt h j (by omega)
    rw [Nat.zero_add, this]
    simp [List.getElem?_eq_getElem hj]
/-- Digits in memory. -/
def DgAt (w : World) (sv : Value) (ds : List Int) : Prop := IntsIn (· < w.heap.size) w sv ds ∧ ∃ a c, sv = .slice a ds.length c ∧ ds.length ≤ c ∧ (a = none → c = 0)
theorem DgAt.below {w w' : World} {sv : Value} {ds : List Int} (h : DgAt w sv ds) (hb : Below w.heap.size w w') : DgAt w' sv ds :=
  ⟨(h.1.kept (Kept.of_below hb (fun _ hk => hk))).mono (fun _ hk => Nat.lt_of_lt_of_le hk hb.size), h.2⟩
theorem dg_nil (w : World) : DgAt w (.slice none 0 0) [] := ⟨.inl ⟨rfl, _, _, rfl⟩, none, 0, rfl, Nat.le_refl _, fun _ => rfl⟩
theorem OwnD.dg {B : Nat} {W : World} {v : Value} {ds : List Int} (h : OwnD B W v ds) : DgAt W v ds := by
  refine ⟨h.ints, ?_⟩
  rcases h.2 with ⟨rfl, hx⟩ | ⟨g, cap, cur, rfl, h1, h2, h3, _⟩
  · exact ⟨none, 0, by rw [hx], by omega, fun _ => rfl⟩
  · exact ⟨_, cap, rfl, h3, fun h => by cases h⟩
/-- Digits that lie in a block from lo on. -/
def NewS (lo : Nat) (sv : Value) : Prop := ∀ b off sp n c, sv = .slice (some ⟨b, off, sp⟩) n c → 0 < n → lo ≤ b
theorem NewS.mono {lo lo' : Nat} {sv : Value} (h : NewS lo sv) (hl : lo' ≤ lo) : NewS lo' sv := fun b off sp n c e hn => Nat.le_trans hl (h b off sp n c e hn)
theorem new_nil (lo : Nat) : NewS lo (.slice none 0 0) := fun _ _ _ _ _ e => by simp at e
theorem OwnD.new {B : Nat} {W : World} {v : Value} {ds : List Int} (h : OwnD B W v ds) : NewS B v := by
  intro b off sp n c e _
  rcases h.2 with ⟨rfl, _⟩ | ⟨g, cap, cur, rfl, h1, _⟩
  · simp at e
  · simp only [Value.slice.injEq, Option.some.injEq, Addr.mk.injEq] at e
    obtain ⟨⟨rfl, _⟩, _⟩ := e
    exact h1
def NewV (lo : Nat) (v : Value) : Prop := ∃ ng sv, v = bv ng sv ∧ NewS lo sv
theorem NewV.mono {lo lo' : Nat} {v : Value} (h : NewV lo v) (hl : lo' ≤ lo) : NewV lo' v := by
  obtain ⟨ng, sv, e, h⟩ := h
  exact ⟨ng, sv, e, h.mono hl⟩
theorem NewV.get {lo : Nat} {ng : Bool} {sv : Value} (h : NewV lo (bv ng sv)) : NewS lo sv := by
  obtain ⟨ng', sv', e, h⟩ := h
  unfold bv at e
  simp only [Value.agg.injEq, Array.mk.injEq, List.cons.injEq, and_true] at e
  rw [e.2]; exact h
theorem OwnD.snoc {B : Nat} {W : World} {v : Value} {ds : List Int} {d : Int} (h : W.ownsRow B 3 1 v (ds.length + 1) (ds.map (Value.int .i64) ++ [.int .i64 d])) : OwnD B W v (ds ++ [d]) := by
  unfold OwnD
  rw [List.length_append, List.map_append]
  exact h
/-- One cell more, in a new block. -/
theorem new_one (wr : World) (d : Int) : ∀ (j : Nat) (u : Value), ([.int .i64 d] : List Value)[j]? = some u → (wr.alloc (.cells #[.int .i64 d] 3)).cell? ((⟨wr.heap.size, 0, none⟩ : Addr).add j) = some u := by
  intro j u hu
  have hR := Row.new wr 3 #[.int .i64 d]
  have h := hR.cell (i := j) (v := u) (by simpa using hu)
  rw [Go.WideShapes.add_plain]
  simpa using h
/-- What stays behind an append to a row of one's own. -/
theorem row_grownO {B : Nat} {A W : World} {v : Value} {n : Nat} {xs : List Value} {K : Nat} {t : TypeId} {cs : Array Value} (hR : Row A K t cs) (ho : A.ownsRow B 3 1 v n xs) (hg : A.grownBy W v.ownBlock) (ht : t ≠ 3) : Row W K t cs :=
  (hg.block K hR.lt (fun e => row_ne ho hR ht e.symm)).trans hR
theorem below_grownO {B : Nat} {w A W : World} {v : Value} {n : Nat} {xs : List Value} (hB : Below B w A) (hs : B ≤ A.heap.size) (ho : A.ownsRow B 3 1 v n xs) (hg : A.grownBy W v.ownBlock) : Below B w W :=
  hB.grown hg hs (fun k e => (ho.lt k e).1)
theorem run_append_nilsrc {P : Program} (w : World) (base : Nat) (t ty e : TypeId) (i : TypeInfo) (size : Nat) (ht : P.underlying t = some (.slice e)) (hi : P.info? e = some i) (v : Value) (n : Nat) (xs : List Value) (hown : w.ownsRow base e size v n xs) :
    (Builtin.append_ #[t, t] ty #[v, .slice none 0 0]).run P w = .ok v w := by
  rcases hown.2 with ⟨rfl, rfl⟩ | ⟨g, cap, cur, rfl, hbg, hg, hnc, hcm, hcs, htake⟩
  · simp [Builtin.append_, run_underlying ht, sizeOf, typeInfo, hi, Builtin.lenOf, Builtin.firstCells]
  · exact run_append_room_src (P := P) w t t ty e i ht hi g 0 n cap (.slice none 0 0) 0 [] (Src.ofNil w ht 0) (by omega) (fun j hj => by simp at hj) (fun j hj => by simp at hj)
/-- Digits are put behind a row of one's own. -/
theorem wpList_append_dg (w : World) {ops : Array Oper} {rest : List Oper} {o : Oper} {a : Act} {Q : Exit → Act → World → Prop} (hgd : o.guard = none) (s x : Operand)
    (ho : o.op = .call { callee := .builtin .append, args := #[s, x], argTypes := #[43, 43] }) (base : Nat) (v : Value) (n : Nat) (xs : List Value) (hs : a.eval s = v) (hown : w.ownsRow base 3 1 v n xs)
    (sv : Value) (ds : List Int) (hx : a.eval x = sv) (hD : DgAt w sv ds) (hl : n + ds.length ≤ 100000) (hbase : base ≤ w.heap.size)
    (h : ∀ v' w', w'.ownsRow base 3 1 v' (n + ds.length) (xs ++ ds.map (Value.int .i64)) → w.grownBy w' v.ownBlock → wpList Tryd.prog ops Q rest (a.put o.dst v') w') : wpList Tryd.prog ops Q (o :: rest) a w := by
  obtain ⟨i0, hi, hzz⟩ := Option.map_eq_some_iff.1 Tryd.info3
  simp only [Prod.mk.injEq] at hzz
  obtain ⟨hz0, hz1, hz2⟩ := hzz
  obtain ⟨hI, ad, c, rfl, hc, hn⟩ := hD
  cases ad with
  | none =>
    obtain rfl := hn rfl
    have h0 : ds = [] := List.eq_nil_of_length_eq_zero (by omega)
    subst h0
    have hr := run_append_nilsrc (P := Tryd.prog) w base 43 o.type 3 i0 1 Tryd.underlying43 hi v n xs hown
    refine wpList_plain hgd fun K hK => ?_
    unfold Oper.wp execOp
    have hx : a.eval x = .slice none 0 0 := hx
    simp only [ho, resolve, invoke, builtin, Sem.run_bind, Sem.run_pure, Result.andThen_ok, List.map_toArray, List.map_cons, List.map_nil, hs, hx, hr]
    exact hK _ _ (h v w (by simpa using hown) ⟨rfl, rfl, rfl, Nat.le_refl _, fun _ _ _ => rfl⟩)
  | some A =>
    refine wpList_append_own2 w hgd s x 43 ho base 3 i0 (.int .i64 0) 1 8 Tryd.underlying43 hi hz0 hz1 hz2 rfl (by decide) v n xs hs hown A ds.length c (ds.map (Value.int .i64)) hx (by simp) ?_ (by intro u hu; obtain ⟨y, _, rfl⟩ := List.mem_map.1 hu; rfl) (by unfold maxLen; omega) (by omega) hbase (fun v' w' h1 h2 _ => h v' w' h1 h2)
    intro j u hu
    rcases hI with ⟨rfl, _⟩ | ⟨b, off, c', he, hb, hcell⟩
    · simp at hu
    · simp only [Value.slice.injEq, Option.some.injEq, true_and] at he
      obtain ⟨rfl, rfl⟩ := he
      have hj : j < ds.length := by
        by_cases hj : j < ds.length
        · exact hj
        · rw [List.getElem?_eq_none (by simp; omega)] at hu; cases hu
      rw [Go.WideShapes.add_plain, hcell j hj]
      rw [List.getElem?_map, List.getElem?_eq_getElem hj] at hu
      rw [List.getElem?_eq_getElem hj]
      exact hu
end Go.Proofs.YtfbhonjndepjbaaDoor
