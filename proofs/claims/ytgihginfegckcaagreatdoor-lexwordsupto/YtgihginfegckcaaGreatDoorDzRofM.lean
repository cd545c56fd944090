import Derived.Test.YtgihginfegckcaaGreatDoorMwdM
import Derived.Deep.AppendSrc
import Derived.Laws.MakeOwn
/- Of: a number's digits. -/
namespace Go.Proofs.YtgihginfegckcaaGreatDoor
open Go.RowKit

theorem Tryz.info3 : (Tryz.prog.info? 3).map (fun i => (i.zero, i.size, i.bytes)) = some (some (.int .i64 0), 1, 8) := by kernel_rfl
/-- The value v is a slice of the call's own that holds the digits ds. -/
def OwnD (B : Nat) (W : World) (v : Value) (ds : List Int) : Prop := W.ownsRow B 3 1 v ds.length (ds.map (Value.int .i64))
theorem OwnD.below {B : Nat} {W W' : World} {v : Value} {ds : List Int} (h : OwnD B W v ds) (hb : Below W.heap.size W W') : OwnD B W' v ds :=
  owns_kept h (Kept.of_below hb (fun _ hk => hk)) (fun k hk => (h.lt k hk).2)
theorem OwnD.form {B : Nat} {W : World} {v : Value} {ds : List Int} (h : OwnD B W v ds) : ∃ g c, v = .slice g ds.length c := owns_form h
theorem OwnD.ints {B : Nat} {W : World} {v : Value} {ds : List Int} (h : OwnD B W v ds) : IntsIn (· < W.heap.size) W v ds := by
  rcases h.2 with ⟨rfl, hx⟩ | ⟨g, cap, cur, rfl, h1, h2, _⟩
  · have : ds = [] := List.eq_nil_of_length_eq_zero hx
    subst this
    exact .inl ⟨rfl, _, _, rfl⟩
  · refine .inr ⟨g, 0, cap, rfl, (Array.getElem?_eq_some_iff.1 h2).1, fun j hj => ?_⟩
    have := World.ownsRow.cellAt h j (by omega)
    rw [Nat.zero_add, this]
    simp [List.getElem?_eq_getElem hj]
/-- Digits in memory. -/
def DgAt (w : World) (sv : Value) (ds : List Int) : Prop := IntsIn (· < w.heap.size) w sv ds ∧ ∃ a c, sv = .slice a ds.length c ∧ ds.length ≤ c ∧ (a = none → c = 0)
theorem DgAt.below {w w' : World} {sv : Value} {ds : List Int} (h : DgAt w sv ds) (hb : Below w.heap.size w w') : DgAt w' sv ds :=
  ⟨(h.1.kept (Kept.of_below hb (fun _ hk => hk))).mono (fun _ hk => Nat.lt_of_lt_of_le hk hb.size), h.2⟩
theorem dg_nil (w : World) : DgAt w (.slice none 0 0) [] := ⟨.inl ⟨rfl, _, _, rfl⟩, none, 0, rfl, Nat.le_refl _, fun _ => rfl⟩
theorem OwnD.dg {B : Nat} {W : World} {v : Value} {ds : List Int} (h : OwnD B W v ds) : DgAt W v ds := by
  refine ⟨h.ints, ?_⟩
  rcases h.2 with ⟨rfl, hx⟩ | ⟨g, cap, cur, rfl, h1, h2, h3, _⟩
  · exact ⟨none, 0, by rw [hx], by omega, fun _ => rfl⟩
  · exact ⟨_, cap, rfl, h3, fun h => by cases h⟩
/-- Digits that lie in a block from lo on. -/
def NewS (lo : Nat) (sv : Value) : Prop := ∀ b off sp n c, sv = .slice (some ⟨b, off, sp⟩) n c → 0 < n → lo ≤ b
theorem NewS.mono {lo lo' : Nat} {sv : Value} (h : NewS lo sv) (hl : lo' ≤ lo) : NewS lo' sv := fun b off sp n c e hn => Nat.le_trans hl (h b off sp n c e hn)
theorem new_nil (lo : Nat) : NewS lo (.slice none 0 0) := fun _ _ _ _ _ e => by simp at e
theorem OwnD.new {B : Nat} {W : World} {v : Value} {ds : List Int} (h : OwnD B W v ds) : NewS B v := by
  intro b off sp n c e _
  rcases h.2 with ⟨rfl, _⟩ | ⟨g, cap, cur, rfl, h1, _⟩
  · simp at e
  · simp only [Value.slice.injEq, Option.some.injEq, Addr.mk.injEq] at e
    obtain ⟨⟨rfl, _⟩, _⟩ := e
    exact h1
def NewV (lo : Nat) (v : Value) : Prop := ∃ ng sv, v = bv ng sv ∧ NewS lo sv
theorem NewV.mono {lo lo' : Nat} {v : Value} (h : NewV lo v) (hl : lo' ≤ lo) : NewV lo' v := by
  obtain ⟨ng, sv, e, h⟩ := h
  exact ⟨ng, sv, e, h.mono hl⟩
theorem NewV.get {lo : Nat} {ng : Bool} {sv : Value} (h : NewV lo (bv ng sv)) : NewS lo sv := by
  obtain ⟨ng', sv', e, h⟩ := h
  unfold bv at e
  simp only [Value.agg.injEq, Array.mk.injEq, List.cons.injEq, and_true] at e
  rw [e.2]; exact h
theorem OwnD.snoc {B : Nat} {W : World} {v : Value} {ds : List Int} {d : Int} (h : W.ownsRow B 3 1 v (ds.length + 1) (ds.map (Value.int .i64) ++ [.int .i64 d])) : OwnD B W v (ds ++ [d]) := by
  unfold OwnD
  rw [List.length_append, List.map_append]
  exact h
/-- One cell more, in a new block. -/
theorem new_one (wr : World) (d : Int) : ∀ (j : Nat) (u : Value), ([.int .i64 d] : List Value)[j]? = some u → (wr.alloc (.cells #[.int .i64 d] 3)).cell? ((⟨wr.heap.size, 0, none⟩ : Addr).add j) = some u := by
  intro j u hu
  have hR := Row.new wr 3 #[.int .i64 d]
  have h := hR.cell (i := j) (v := u) (by simpa using hu)
  rw [Go.WideShapes.add_plain]
  simpa using h
/-- What stays behind an append to a row of one's own. -/
theorem row_grownO {B : Nat} {A W : World} {v : Value} {n : Nat} {xs : List Value} {K : Nat} {t : TypeId} {cs : Array Value} (hR : Row A K t cs) (ho : A.ownsRow B 3 1 v n xs) (hg : A.grownBy W v.ownBlock) (ht : t ≠ 3) : Row W K t cs :=
  (hg.block K hR.lt (fun e => row_ne ho hR ht e.symm)).trans hR
theorem below_grownO {B : Nat} {w A W : World} {v : Value} {n : Nat} {xs : List Value} (hB : Below B w A) (hs : B ≤ A.heap.size) (ho : A.ownsRow B 3 1 v n xs) (hg : A.grownBy W v.ownBlock) : Below B w W :=
  hB.grown hg hs (fun k e => (ho.lt k e).1)
theorem run_append_nilsrc {P : Program} (w : World) (base : Nat) (t ty e : TypeId) (i : TypeInfo) (size : Nat) (ht : P.underlying t = some (.slice e)) (hi : P.info? e = some i) (v : Value) (n : Nat) (xs : List Value) (hown : w.ownsRow base e size v n xs) :
    (Builtin.append_ #[t, t] ty #[v, .slice none 0 0]).run P w = .ok v w := by
  rcases hown.2 with ⟨rfl, rfl⟩ | ⟨g, cap, cur, rfl, hbg, hg, hnc, hcm, hcs, htake⟩
  · simp [Builtin.append_, run_underlying ht, sizeOf, typeInfo, hi, Builtin.lenOf, Builtin.firstCells]
  · exact run_append_room_src (P := P) w t t ty e i ht hi g 0 n cap (.slice none 0 0) 0 [] (Src.ofNil w ht 0) (by omega) (fun j hj => by simp at hj) (fun j hj => by simp at hj)
/-- Digits are put behind a row of one's own. -/
theorem wpList_append_dg (w : World) {ops : Array Oper} {rest : List Oper} {o : Oper} {a : Act} {Q : Exit → Act → World → Prop} (hgd : o.guard = none) (s x : Operand)
    (ho : o.op = .call { callee := .builtin .append, args := #[s, x], argTypes := #[92, 92] }) (base : Nat) (v : Value) (n : Nat) (xs : List Value) (hs : a.eval s = v) (hown : w.ownsRow base 3 1 v n xs)
    (sv : Value) (ds : List Int) (hx : a.eval x = sv) (hD : DgAt w sv ds) (hl : n + ds.length ≤ 100000) (hbase : base ≤ w.heap.size)
    (h : ∀ v' w', w'.ownsRow base 3 1 v' (n + ds.length) (xs ++ ds.map (Value.int .i64)) → w.grownBy w' v.ownBlock → wpList Tryz.prog ops Q rest (a.put o.dst v') w') : wpList Tryz.prog ops Q (o :: rest) a w := by
  obtain ⟨i0, hi, hzz⟩ := Option.map_eq_some_iff.1 Tryz.info3
  simp only [Prod.mk.injEq] at hzz
  obtain ⟨hz0, hz1, hz2⟩ := hzz
  obtain ⟨hI, ad, c, rfl, hc, hn⟩ := hD
  cases ad with
  | none =>
    obtain rfl := hn rfl
    have h0 : ds = [] := List.eq_nil_of_length_eq_zero (by omega)
    subst h0
    have hr := run_append_nilsrc (P := Tryz.prog) w base 92 o.type 3 i0 1 Tryz.underlying92 hi v n xs hown
    refine wpList_plain hgd fun K hK => ?_
    unfold Oper.wp execOp
    have hx : a.eval x = .slice none 0 0 := hx
    simp only [ho, resolve, invoke, builtin, Sem.run_bind, Sem.run_pure, Result.andThen_ok, List.map_toArray, List.map_cons, List.map_nil, hs, hx, hr]
    exact hK _ _ (h v w (by simpa using hown) ⟨rfl, rfl, rfl, Nat.le_refl _, fun _ _ _ => rfl⟩)
  | some A =>
    refine wpList_append_own2 w hgd s x 92 ho base 3 i0 (.int .i64 0) 1 8 Tryz.underlying92 hi hz0 hz1 hz2 rfl (by decide) v n xs hs hown A ds.length c (ds.map (Value.int .i64)) hx (by simp) ?_ (by intro u hu; obtain ⟨y, _, rfl⟩ := List.mem_map.1 hu; rfl) (by unfold maxLen; omega) (by omega) hbase (fun v' w' h1 h2 _ => h v' w' h1 h2)
    intro j u hu
    rcases hI with ⟨rfl, _⟩ | ⟨b, off, c', he, hb, hcell⟩
    · simp at hu
    · simp only [Value.slice.injEq, Option.some.injEq, true_and] at he
      obtain ⟨rfl, rfl⟩ := he
      have hj : j < ds.length := by
        by_cases hj : j < ds.length
        · exact hj
        · rw [List.getElem?_eq_none (by simp; omega)] at hu; cases hu
      rw [Go.WideShapes.add_plain, hcell j hj]
      rw [List.getElem?_map, List.getElem?_eq_getElem hj] at hu
      rw [List.getElem?_eq_getElem hj]
      exact hu
end Go.Proofs.YtgihginfegckcaaGreatDoor
/- Of: a number's digits. -/
namespace Go.Proofs.YtgihginfegckcaaGreatDoor
open Go.RowKit

set_option maxRecDepth 100000 in
set_option maxHeartbeats 1000000 in
theorem of_pos (n0 : Nat) (hn : n0 ≤ 9223372036854775808 - 1) (w : World) : Calls Tryz.prog 127 #[.int .i64 (n0 : Int)] w fun r w' => ∃ v, r = .returned (bv false v) ∧ DgAt w' v (digs n0) ∧ NewS w.heap.size v ∧ Below w.heap.size w w' := by
  obtain ⟨i0, hi, hzz⟩ := Option.map_eq_some_iff.1 Tryz.info3
  simp only [Prod.mk.injEq] at hzz
  obtain ⟨hz0, hz1, hz2⟩ := hzz
  have hl20 : (digs n0).length ≤ 20 := digs_len n0 20 (by omega)
  have HL : Hid ((digs n0).length ≤ 20) := hl20
  clear hl20
  have hlt0 : ¬ (n0 : Int) < 0 := by omega
  go_enter Tryz.func127, Tryz.ntmps127
  go_wp2_with fail
  have hZ := Row.new w 94 #[.bool false, .slice none 0 0]
  have hB := (Below.refl _ w).alloc (Nat.le_refl _) (.cells #[.bool false, .slice none 0 0] 94)
  go_loopw [3, 4] (fun v3 v4 wr => ∃ (m : Nat) (ds : List Int), m ≤ 9223372036854775808 - 1 ∧ v4 = .int .i64 (m : Int) ∧ Hid (ds ++ digs m = digs n0) ∧ OwnD w.heap.size wr v3 ds ∧ Row wr w.heap.size 94 #[.bool false, .slice none 0 0] ∧ Below w.heap.size w wr) (fun _ v4 _ => (intOf v4).natAbs)
  case atStart => exact ⟨n0, [], hn, rfl, rfl, World.ownsRow_nil _ _ _ _, hZ, hB⟩
  case round =>
    clear hZ hB
    obtain ⟨m, ds, hm, rfl, HD, hO, hZ, hB⟩ := hrel
    by_cases h0 : m = 0
    · subst h0
      obtain ⟨gu, cu, rfl⟩ := hO.form
      obtain ⟨d0, d1⟩ := hZ.duo
      have z := hZ.frozen
      have HE : Hid (ds = digs n0) := by have := HD.out; rw [digs_zero, List.append_nil] at this; exact this
      have hOb : OwnD w.heap.size ((wr.setCell ⟨w.heap.size, 0, none⟩ (.bool false)).setCell ⟨w.heap.size, 1, none⟩ (.slice gu ds.length cu)) (.slice gu ds.length cu) ds := by
        have hne := row_ne hO hZ (by decide)
        exact owns_kept hO (((Kept.refl (fun k => k ≠ w.heap.size) wr).setCell (p := ⟨w.heap.size, 0, none⟩) (by simp) _).setCell (p := ⟨w.heap.size, 1, none⟩) (by simp) _) (fun k hk e => hne (e ▸ hk))
      have hOi := hOb.dg
      have hOn := hOb.new
      have hBe := below_set (below_set hB (B := w.heap.size) 0 (.bool false) (Nat.le_refl _)) (B := w.heap.size) 1 (.slice gu ds.length cu) (Nat.le_refl _)
      have hZe := Row.set2 hZ (.bool false) (.slice gu ds.length cu)
      clear hOb hO
      go_wp2
      refine bodyPost_ret (ret_one rfl (g := w.heap.size) rfl (load43 hZe rfl)) rfl ⟨_, rfl, ?_, hOn, hBe⟩
      rw [← HE.out]; exact hOi
    · have hne0 : ((m : Int) != 0) = true := by simp; omega
      obtain ⟨d, hd⟩ : ∃ d, m % 10 = d := ⟨_, rfl⟩
      obtain ⟨m', hm'⟩ : ∃ m', m / 10 = m' := ⟨_, rfl⟩
      have f1 : (m : Int).tmod 10 = (d : Int) := by rw [Int.tmod_eq_emod_of_nonneg (by omega)]; omega
      have f2 : (m : Int).tdiv 10 = (m' : Int) := by rw [Int.tdiv_eq_ediv_of_nonneg (by omega)]; omega
      have hd9 : d ≤ 9 := by omega
      have hm9 : m' ≤ 922337203685477580 := by omega
      have HD2 : Hid (ds ++ [(d : Int)] ++ digs m' = digs n0) := by
        show _ = _
        rw [← HD.out, digs_pos m h0, hd, hm', List.append_assoc]; rfl
      have hS1 : ds.length + 1 ≤ 20 := by
        have h1 := HD2.out
        have h2 := HL.out
        rw [← h1] at h2
        simp only [List.length_append, List.length_cons, List.length_nil] at h2
        omega
      have HMM : Hid (m' < m) := by show _ < _; omega
      clear hd hm' h0 HD
      obtain ⟨gu, cu, rfl⟩ := hO.form
      have hlt := hZ.lt
      have hBs := hB.size
      have f3 : ¬ ((d : Int) < 0) := by omega
      have HNW : Hid _ := new_one wr (d : Int)
      have hO1 : (wr.alloc (.cells #[.int .i64 (d : Int)] 3)).ownsRow w.heap.size 3 1 (.slice gu ds.length cu) ds.length (ds.map (Value.int .i64)) := World.ownsRow.alloc hO _
      have hZ1 := hZ.alloc (.cells #[.int .i64 (d : Int)] 3)
      have hB1 := hB.alloc hBs (.cells #[.int .i64 (d : Int)] 3)
      clear hO hZ hB
      go_wp2_with (at_builtin; refine wpList_append_own2 _ rfl (.tmp 15) (.tmp 17) 92 rfl w.heap.size 3 i0 (.int .i64 0) 1 8 Tryz.underlying92 hi hz0 hz1 hz2 rfl (by decide) _ _ _ rfl hO1 ⟨wr.heap.size, 0, none⟩ 1 1 [.int .i64 (d : Int)] rfl rfl HNW.out (by simp [Value.oneCell']) (by unfold maxLen; omega) (by omega) (by simp; omega) ?_)
      intro v1 x1 hown1 hgrow1 hblk1
      have hZ2 := row_grownO hZ1 hO1 hgrow1 (by decide)
      have hB2 := below_grownO hB1 (by simp; omega) hO1 hgrow1
      have hO2 := OwnD.snoc hown1
      clear hown1 hgrow1 hblk1 hZ1 hB1 hO1
      go_wp2
      go_roundw
      case rel => exact ⟨m', ds ++ [(d : Int)], by omega, rfl, HD2, hO2, hZ2, hB2⟩
      case measure => have := HMM.out; simp [intOf]; omega
set_option maxRecDepth 100000 in
set_option maxHeartbeats 1000000 in
theorem of_neg (n0 : Nat) (hn : n0 ≤ 9223372036854775808) (hpos : n0 ≠ 0) (w : World) : Calls Tryz.prog 127 #[.int .i64 (-(n0 : Int))] w fun r w' => ∃ v, r = .returned (bv true v) ∧ DgAt w' v (digs n0) ∧ NewS w.heap.size v ∧ Below w.heap.size w w' := by
  obtain ⟨i0, hi, hzz⟩ := Option.map_eq_some_iff.1 Tryz.info3
  simp only [Prod.mk.injEq] at hzz
  obtain ⟨hz0, hz1, hz2⟩ := hzz
  have hl20 : (digs n0).length ≤ 20 := digs_len n0 20 (by omega)
  have HL : Hid ((digs n0).length ≤ 20) := hl20
  clear hl20
  have hlt0 : -(n0 : Int) < 0 := by omega
  have hlt1 : 0 < n0 := by omega
  have hlt2 : (0 : Int) < (n0 : Int) := by omega
  go_enter Tryz.func127, Tryz.ntmps127
  go_wp2_with fail
  have hZ := Row.new w 94 #[.bool false, .slice none 0 0]
  have hB := (Below.refl _ w).alloc (Nat.le_refl _) (.cells #[.bool false, .slice none 0 0] 94)
  go_loopw [3, 4] (fun v3 v4 wr => ∃ (m : Nat) (ds : List Int), m ≤ 9223372036854775808 ∧ v4 = .int .i64 (-(m : Int)) ∧ Hid (ds ++ digs m = digs n0) ∧ OwnD w.heap.size wr v3 ds ∧ Row wr w.heap.size 94 #[.bool false, .slice none 0 0] ∧ Below w.heap.size w wr) (fun _ v4 _ => (intOf v4).natAbs)
  case atStart => exact ⟨n0, [], hn, rfl, rfl, World.ownsRow_nil _ _ _ _, hZ, hB⟩
  case round =>
    clear hZ hB
    obtain ⟨m, ds, hm, rfl, HD, hO, hZ, hB⟩ := hrel
    by_cases h0 : m = 0
    · subst h0
      obtain ⟨gu, cu, rfl⟩ := hO.form
      obtain ⟨d0, d1⟩ := hZ.duo
      have z := hZ.frozen
      have HE : Hid (ds = digs n0) := by have := HD.out; rw [digs_zero, List.append_nil] at this; exact this
      have hOb : OwnD w.heap.size ((wr.setCell ⟨w.heap.size, 0, none⟩ (.bool true)).setCell ⟨w.heap.size, 1, none⟩ (.slice gu ds.length cu)) (.slice gu ds.length cu) ds := by
        have hne := row_ne hO hZ (by decide)
        exact owns_kept hO (((Kept.refl (fun k => k ≠ w.heap.size) wr).setCell (p := ⟨w.heap.size, 0, none⟩) (by simp) _).setCell (p := ⟨w.heap.size, 1, none⟩) (by simp) _) (fun k hk e => hne (e ▸ hk))
      have hOi := hOb.dg
      have hOn := hOb.new
      have hBe := below_set (below_set hB (B := w.heap.size) 0 (.bool true) (Nat.le_refl _)) (B := w.heap.size) 1 (.slice gu ds.length cu) (Nat.le_refl _)
      have hZe := Row.set2 hZ (.bool true) (.slice gu ds.length cu)
      clear hOb hO
      go_wp2
      refine bodyPost_ret (ret_one rfl (g := w.heap.size) rfl (load43 hZe rfl)) rfl ⟨_, rfl, ?_, hOn, hBe⟩
      rw [← HE.out]; exact hOi
    · have hne0 : ((-(m : Int)) != 0) = true := by simp; omega
      obtain ⟨d, hd⟩ : ∃ d, m % 10 = d := ⟨_, rfl⟩
      obtain ⟨m', hm'⟩ : ∃ m', m / 10 = m' := ⟨_, rfl⟩
      have f1 : (-(m : Int)).tmod 10 = -(d : Int) := by rw [Int.neg_tmod, Int.tmod_eq_emod_of_nonneg (by omega)]; omega
      have f2 : (-(m : Int)).tdiv 10 = (-(m' : Int)) := by rw [Int.neg_tdiv, Int.tdiv_eq_ediv_of_nonneg (by omega)]; omega
      have hd9 : d ≤ 9 := by omega
      have hm9 : m' ≤ 922337203685477580 := by omega
      have HD2 : Hid (ds ++ [(d : Int)] ++ digs m' = digs n0) := by
        show _ = _
        rw [← HD.out, digs_pos m h0, hd, hm', List.append_assoc]; rfl
      have hS1 : ds.length + 1 ≤ 20 := by
        have h1 := HD2.out
        have h2 := HL.out
        rw [← h1] at h2
        simp only [List.length_append, List.length_cons, List.length_nil] at h2
        omega
      have HMM : Hid (m' < m) := by show _ < _; omega
      clear hd hm' h0 HD
      obtain ⟨gu, cu, rfl⟩ := hO.form
      have hlt := hZ.lt
      have hBs := hB.size
      by_cases hdz : d = 0
      · subst hdz
        have f1 : (-(m : Int)).tmod 10 = 0 := f1
        have HD2 : Hid (ds ++ [(0 : Int)] ++ digs m' = digs n0) := HD2
        have HNW : Hid _ := new_one wr (0 : Int)
        have hO1 : (wr.alloc (.cells #[.int .i64 (0 : Int)] 3)).ownsRow w.heap.size 3 1 (.slice gu ds.length cu) ds.length (ds.map (Value.int .i64)) := World.ownsRow.alloc hO _
        have hZ1 := hZ.alloc (.cells #[.int .i64 (0 : Int)] 3)
        have hB1 := hB.alloc hBs (.cells #[.int .i64 (0 : Int)] 3)
        clear hO hZ hB
        go_wp2_with (at_builtin; refine wpList_append_own2 _ rfl (.tmp 15) (.tmp 17) 92 rfl w.heap.size 3 i0 (.int .i64 0) 1 8 Tryz.underlying92 hi hz0 hz1 hz2 rfl (by decide) _ _ _ rfl hO1 ⟨wr.heap.size, 0, none⟩ 1 1 [.int .i64 (0 : Int)] rfl rfl HNW.out (by simp [Value.oneCell']) (by unfold maxLen; omega) (by omega) (by simp; omega) ?_)
        intro v1 x1 hown1 hgrow1 hblk1
        have hZ2 := row_grownO hZ1 hO1 hgrow1 (by decide)
        have hB2 := below_grownO hB1 (by simp; omega) hO1 hgrow1
        have hO2 := OwnD.snoc hown1
        clear hown1 hgrow1 hblk1 hZ1 hB1 hO1
        go_wp2
        go_roundw
        case rel => exact ⟨m', ds ++ [(0 : Int)], by omega, rfl, HD2, hO2, hZ2, hB2⟩
        case measure => have := HMM.out; simp [intOf]; omega
      · have f4 : -(d : Int) < 0 := by omega
        have HNW : Hid _ := new_one wr (d : Int)
        have hO1 : (wr.alloc (.cells #[.int .i64 (d : Int)] 3)).ownsRow w.heap.size 3 1 (.slice gu ds.length cu) ds.length (ds.map (Value.int .i64)) := World.ownsRow.alloc hO _
        have hZ1 := hZ.alloc (.cells #[.int .i64 (d : Int)] 3)
        have hB1 := hB.alloc hBs (.cells #[.int .i64 (d : Int)] 3)
        clear hO hZ hB
        go_wp2_with (at_builtin; refine wpList_append_own2 _ rfl (.tmp 15) (.tmp 17) 92 rfl w.heap.size 3 i0 (.int .i64 0) 1 8 Tryz.underlying92 hi hz0 hz1 hz2 rfl (by decide) _ _ _ rfl hO1 ⟨wr.heap.size, 0, none⟩ 1 1 [.int .i64 (d : Int)] rfl rfl HNW.out (by simp [Value.oneCell']) (by unfold maxLen; omega) (by omega) (by simp; omega) ?_)
        intro v1 x1 hown1 hgrow1 hblk1
        have hZ2 := row_grownO hZ1 hO1 hgrow1 (by decide)
        have hB2 := below_grownO hB1 (by simp; omega) hO1 hgrow1
        have hO2 := OwnD.snoc hown1
        clear hown1 hgrow1 hblk1 hZ1 hB1 hO1
        go_wp2
        go_roundw
        case rel => exact ⟨m', ds ++ [(d : Int)], by omega, rfl, HD2, hO2, hZ2, hB2⟩
        case measure => have := HMM.out; simp [intOf]; omega
/-- A whole number, as a Big. -/
def BigV (w : World) (z : Int) (v : Value) : Prop := ∃ sv, v = bv (decide (z < 0)) sv ∧ DgAt w sv (digs z.natAbs)
theorem BigV.below {w w' : World} {z : Int} {v : Value} (h : BigV w z v) (hb : Below w.heap.size w w') : BigV w' z v := by
  obtain ⟨sv, rfl, h⟩ := h
  exact ⟨sv, rfl, h.below hb⟩
theorem of_new (c : Int) (hc : I64 c) (w : World) : Calls Tryz.prog 127 #[.int .i64 c] w fun r w' => ∃ v, r = .returned v ∧ BigV w' c v ∧ NewV w.heap.size v ∧ Below w.heap.size w w' := by
  by_cases h : c < 0
  · obtain ⟨n, rfl⟩ : ∃ n : Nat, c = -(n : Int) := ⟨c.natAbs, by omega⟩
    refine (of_neg n (by have := hc.1; omega) (by omega) w).mono ?_
    rintro r w' ⟨sv, rfl, hI, hN, hB⟩
    refine ⟨_, rfl, ⟨sv, by rw [decide_eq_true h], ?_⟩, ⟨_, _, rfl, hN⟩, hB⟩
    rw [show (-(n : Int)).natAbs = n by omega]; exact hI
  · obtain ⟨n, rfl⟩ : ∃ n : Nat, c = (n : Int) := ⟨c.natAbs, by omega⟩
    refine (of_pos n (by have := hc.2; omega) w).mono ?_
    rintro r w' ⟨sv, rfl, hI, hN, hB⟩
    exact ⟨_, rfl, ⟨sv, by rw [decide_eq_false h], by simpa using hI⟩, ⟨_, _, rfl, hN⟩, hB⟩
theorem of_any (c : Int) (hc : I64 c) (w : World) : Calls Tryz.prog 127 #[.int .i64 c] w fun r w' => ∃ v, r = .returned v ∧ BigV w' c v ∧ Below w.heap.size w w' := by
  refine (of_new c hc w).mono ?_
  rintro r w' ⟨v, h1, h2, _, h3⟩
  exact ⟨v, h1, h2, h3⟩
end Go.Proofs.YtgihginfegckcaaGreatDoor
/- Pure: lists of digits as numbers. -/
namespace Go.Proofs.YtgihginfegckcaaGreatDoor

def DgL (ds : List Int) : Prop := ∀ d ∈ ds, 0 ≤ d ∧ d ≤ 9
theorem DgL.get {ds : List Int} (h : DgL ds) (i : Nat) : 0 ≤ ds[i]?.getD 0 ∧ ds[i]?.getD 0 ≤ 9 := by
  by_cases hi : i < ds.length
  · rw [List.getElem?_eq_getElem hi]; exact h _ (List.getElem_mem hi)
  · rw [List.getElem?_eq_none (by omega)]; exact ⟨by decide, by decide⟩
theorem dval_nonneg {ds : List Int} (h : DgL ds) : 0 ≤ dval ds := by
  induction ds with
  | nil => exact Int.le_refl _
  | cons d r ih =>
    have h1 := h d (by simp)
    have h2 := ih (fun x hx => h x (by simp [hx]))
    show 0 ≤ d + 10 * dval r
    omega
theorem dval_append (a b : List Int) : dval (a ++ b) = dval a + 10 ^ a.length * dval b := by
  induction a with
  | nil => simp [dval]
  | cons d r ih =>
    show d + 10 * dval (r ++ b) = d + 10 * dval r + _
    rw [ih, List.length_cons, Int.pow_succ, Int.mul_add, ← Int.mul_assoc, Int.mul_comm 10 (10 ^ r.length)]
    omega
theorem dval_zeros {ds : List Int} (h : ∀ d ∈ ds, d = 0) : dval ds = 0 := by
  induction ds with
  | nil => rfl
  | cons d r ih =>
    show d + 10 * dval r = 0
    rw [h d (by simp), ih (fun x hx => h x (by simp [hx]))]; rfl
theorem digs_dg (n : Nat) : DgL (digs n) := by
  induction n using Nat.strongRecOn with
  | ind n ih =>
    by_cases h : n = 0
    · subst h; rw [digs_zero]; intro d hd; simp at hd
    · rw [digs_pos n h]
      intro d hd
      rcases List.mem_cons.1 hd with rfl | hd
      · omega
      · exact ih (n / 10) (by omega) d hd
/-- Digits of which the last is no nought are a number's. -/
theorem digs_of : ∀ {es : List Int}, DgL es → (es = [] ∨ es.getLast? ≠ some 0) → es = digs (dval es).toNat
  | [], _, _ => by rw [show (dval []).toNat = 0 from rfl, digs_zero]
  | d :: r, h, hl => by
    have h1 := h d (by simp)
    have hr : DgL r := fun x hx => h x (by simp [hx])
    have hl2 : (d :: r).getLast? ≠ some 0 := by rcases hl with hl | hl; cases hl; exact hl
    have hlr : r = [] ∨ r.getLast? ≠ some 0 := by
      cases r with
      | nil => exact .inl rfl
      | cons a s => exact .inr (by simpa [List.getLast?_cons_cons] using hl2)
    have ih := digs_of hr hlr
    have hn := dval_nonneg hr
    have hv : dval (d :: r) = d + 10 * dval r := rfl
    have hpos : dval (d :: r) ≠ 0 := by
      rw [hv]
      intro hz
      have hd0 : d = 0 := by omega
      have hr0 : dval r = 0 := by omega
      rw [hr0, show (0 : Int).toNat = 0 from rfl, digs_zero] at ih
      subst ih
      exact hl2 (by simp [hd0])
    rw [digs_pos _ (by rw [hv] at hpos ⊢; omega)]
    have e1 : (((dval (d :: r)).toNat % 10 : Nat) : Int) = d := by rw [hv]; omega
    have e2 : (dval (d :: r)).toNat / 10 = (dval r).toNat := by rw [hv]; omega
    rw [e1, e2, ← ih]
/-- What a row of digits is without noughts at its end. -/
theorem trim_digs {ds : List Int} (h : DgL ds) (n : Nat) (hn : n ≤ ds.length) (hz : ∀ j, n ≤ j → ds[j]?.getD 0 = 0) (hl : n = 0 ∨ ds[n - 1]?.getD 0 ≠ 0) : ds.take n = digs (dval ds).toNat ∧ dval (ds.take n) = dval ds := by
  have e : dval ds = dval (ds.take n) := by
    conv => lhs; rw [← List.take_append_drop n ds, dval_append]
    rw [dval_zeros (ds := ds.drop n), Int.mul_zero, Int.add_zero]
    intro d hd
    obtain ⟨i, hi, rfl⟩ := List.getElem_of_mem hd
    rw [List.length_drop] at hi
    have := hz (n + i) (by omega)
    rw [List.getElem?_eq_getElem (by omega)] at this
    rw [List.getElem_drop]; exact this
  refine ⟨?_, e.symm⟩
  rw [e]
  refine digs_of (fun d hd => h d (List.mem_of_mem_take hd)) ?_
  rcases hl with rfl | hl
  · exact .inl (by simp)
  · by_cases h0 : n = 0
    · subst h0; exact .inl (by simp)
    · right
      have hlt : n - 1 < ds.length := by omega
      rw [List.getLast?_eq_getElem?, List.length_take, Nat.min_eq_left hn, List.getElem?_take_of_lt (by omega), List.getElem?_eq_getElem hlt]
      rw [List.getElem?_eq_getElem hlt] at hl
      intro hc
      exact hl (by simpa using hc)
end Go.Proofs.YtgihginfegckcaaGreatDoor
/- trim: a number without noughts at its end. -/
namespace Go.Proofs.YtgihginfegckcaaGreatDoor
open Go.RowKit

/-- A number of a sign and digits. -/
def bval (neg : Bool) (ds : List Int) : Int := if neg then -dval ds else dval ds
theorem bval_zero {neg : Bool} {ds : List Int} (h : dval ds = 0) : bval neg ds = 0 := by unfold bval; rw [h]; cases neg <;> rfl
theorem bval_neg {neg : Bool} {ds : List Int} (h : DgL ds) (h0 : dval ds ≠ 0) : decide (bval neg ds < 0) = neg ∧ (bval neg ds).natAbs = (dval ds).toNat := by
  have := dval_nonneg h
  unfold bval
  cases neg
  · exact ⟨decide_eq_false (by simp; omega), by simp; omega⟩
  · exact ⟨decide_eq_true (by simp; omega), by simp; omega⟩
theorem cells_src {w : World} {b off : Nat} {ds : List Int} (n : Nat) (hn : n ≤ ds.length) (h : ∀ j : Nat, j < ds.length → w.cell? ⟨b, off + j, none⟩ = some (.int .i64 (ds[j]?.getD 0))) :
    ∀ (j : Nat) (u : Value), ((ds.take n).map (Value.int .i64))[j]? = some u → w.cell? ((⟨b, off, none⟩ : Addr).add j) = some u := by
  intro j u hu
  have hj : j < n := by
    by_cases hj : j < n
    · exact hj
    · rw [List.getElem?_eq_none (by simp; omega)] at hu; cases hu
  rw [Go.WideShapes.add_plain, h j (by omega)]
  rw [List.getElem?_map, List.getElem?_take_of_lt hj, List.getElem?_eq_getElem (by omega)] at hu
  rw [List.getElem?_eq_getElem (by omega)]
  exact hu
set_option maxRecDepth 100000 in
set_option maxHeartbeats 2000000 in
theorem trim_new (neg : Bool) (sv : Value) (ds : List Int) (w : World) (hD : DgAt w sv ds) (hd : DgL ds) (hl : ds.length ≤ 1000) :
    Calls Tryz.prog 62 #[bv neg sv] w fun r w' => ∃ v, r = .returned v ∧ BigV w' (bval neg ds) v ∧ NewV w.heap.size v ∧ Below w.heap.size w w' := by
  obtain ⟨hI, a, cap, rfl, hcap, _⟩ := hD
  unfold bv
  obtain ⟨i0, hi, hzz⟩ := Option.map_eq_some_iff.1 Tryz.info3
  simp only [Prod.mk.injEq] at hzz
  obtain ⟨hz0, hz1, hz2⟩ := hzz
  have HI : Hid (IntsIn (· < w.heap.size) w (.slice a ds.length cap) ds) := hI
  have HDG : Hid (DgL ds) := hd
  have hcap2 : (ds.length : Int) ≤ (cap : Int) := by omega
  clear hI hd
  go_enter Tryz.func62, Tryz.ntmps62
  go_wp2_with fail
  have r1 := (Row.new w 94 #[.bool neg, .slice a ds.length cap]).alloc (.cells #[.bool false, .slice none 0 0] 94)
  have r2 := Row.new1 w (.cells #[.bool neg, .slice a ds.length cap] 94) 94 #[.bool false, .slice none 0 0]
  have hB := ((Below.refl _ w).alloc (Nat.le_refl _) (.cells #[.bool neg, .slice a ds.length cap] 94)).alloc (by simp) (.cells #[.bool false, .slice none 0 0] 94)
  obtain ⟨d0, d1⟩ := r1.duo
  go_wp2
  clear d0 d1
  go_loopw [3] (fun v wr => ∃ n : Nat, n ≤ ds.length ∧ v = .int .i64 (n : Int) ∧ Hid (∀ j, n ≤ j → ds[j]?.getD 0 = 0) ∧ Row wr w.heap.size 94 #[.bool neg, .slice a ds.length cap] ∧ Row wr (w.heap.size + 1) 94 #[.bool false, .slice none 0 0] ∧ Below w.heap.size w wr) (fun v _ => (intOf v).toNat)
  case atStart => exact ⟨ds.length, Nat.le_refl _, rfl, fun j hj => by rw [List.getElem?_eq_none hj]; rfl, r1, r2, hB⟩
  case round =>
    obtain ⟨n, hn, rfl, HZ, q1, q2, hBr⟩ := hrel
    clear r1 r2 hB
    obtain ⟨d0, d1⟩ := q1.duo
    obtain ⟨e0, e1⟩ := q2.duo
    by_cases h0 : n = 0
    · subst h0
      have z := q2.frozen
      have hz : dval ds = 0 := by
        refine dval_zeros fun d hd => ?_
        obtain ⟨i, hi, rfl⟩ := List.getElem_of_mem hd
        have := HZ.out i (Nat.zero_le _)
        rwa [List.getElem?_eq_getElem hi] at this
      have hBe := below_set (below_set hBr (B := w.heap.size + 1) 0 (.bool false) (by omega)) (B := w.heap.size + 1) 1 (.slice none 0 0) (by omega)
      have hZe := Row.set2 q2 (.bool false) (.slice none 0 0)
      have hlt := q2.lt
      have hlt1 := q1.lt
      go_wp2
      refine bodyPost_ret (ret_one rfl (g := w.heap.size + 1) rfl (load43 hZe rfl)) rfl ⟨_, rfl, ⟨.slice none 0 0, ?_, ?_⟩, ⟨_, _, rfl, new_nil _⟩, hBe⟩
      · rw [bval_zero hz]; rfl
      · rw [bval_zero hz]
        exact (show digs (0 : Int).natAbs = [] from digs_zero) ▸ dg_nil _
    · rcases HI.out.kept (Kept.of_below hBr (fun _ h => h)) with ⟨hnil, _⟩ | ⟨b, off, cap', he, hlt, hc⟩
      · exfalso; rw [hnil] at hn; simp at hn; omega
      · simp only [Value.slice.injEq, true_and] at he
        obtain ⟨rfl, rfl⟩ := he
        obtain ⟨m, hm⟩ : ∃ m, n = m + 1 := ⟨n - 1, by omega⟩
        have hnm : (n : Int) - 1 = (m : Int) := by omega
        have hmd : m < ds.length := by omega
        have cm := hc m hmd
        have hg0 : (0 : Int) < (n : Int) := by omega
        have hg1 : (m : Int) < (ds.length : Int) := by omega
        obtain ⟨d, hdd⟩ : ∃ d, ds[m]?.getD 0 = d := ⟨_, rfl⟩
        rw [hdd] at cm
        have HC : Hid (∀ j : Nat, j < ds.length → wr.cell? ⟨b, off + j, none⟩ = some (.int .i64 (ds[j]?.getD 0))) := hc
        have HDD : Hid (ds[m]?.getD 0 = d) := hdd
        have HM : Hid (n = m + 1) := hm
        have z1 := q1.lt
        have z2 := q2.lt
        clear hc hdd hm h0
        by_cases hd0 : d = 0
        · subst hd0
          have HZ2 : Hid (∀ j, m ≤ j → ds[j]?.getD 0 = 0) := by
            intro j hj
            by_cases hjm : j = m
            · rw [hjm]; exact HDD.out
            · exact HZ.out j (by have := HM.out; omega)
          go_wp2
          go_roundw
          case rel => exact ⟨m, by omega, rfl, HZ2, q1, q2, hBr⟩
          case measure => have := HM.out; simp [intOf]; omega
        · have g0 : (d == 0) = false := by simpa using hd0
          have g1 : ((n : Int) == 0) = false := by simp only [beq_eq_false_iff_ne]; omega
          obtain ⟨ht1, ht2⟩ := trim_digs HDG.out n hn HZ.out (.inr (by rw [show n - 1 = m by have := HM.out; omega, HDD.out]; exact hd0))
          have hv0 : dval ds ≠ 0 := by
            intro hv
            rw [hv, show (0 : Int).toNat = 0 from rfl, digs_zero] at ht1
            have := congrArg List.length ht1
            rw [List.length_take, List.length_nil] at this
            omega
          obtain ⟨hb1, hb2⟩ := bval_neg (neg := neg) HDG.out hv0
          have HT : Hid (ds.take n = digs (bval neg ds).natAbs ∧ decide (bval neg ds < 0) = neg) := ⟨by rw [hb2]; exact ht1, hb1⟩
          have HN1 : Hid (n ≤ ds.length) := hn
          clear ht1 ht2 hv0 hb1 hb2 HZ
          have hn1 : (n : Int) ≤ (cap : Int) := by omega
          go_wp2_with fail
          have hS : Below wr.heap.size wr wr.drew := (Below.refl _ wr).drew
          refine wp_region_M (fun wx : World => Below wr.heap.size wr wx) (fun j => decide (j < 9)) 10 rfl (by kernel_rfl) ?_
          refine wpM_held 0 (v := ?_) rfl (by kernel_rfl) (by kernel_rfl) rfl (fun _ _ _ h => h) rfl (by intro wx hx; go_simp <;> rfl) hS ?_
          refine wpM_held 1 (v := .bool neg) rfl (by kernel_rfl) (by kernel_rfl) rfl (fun _ _ _ h => h) rfl (by intro wx hx; obtain ⟨x0, x1⟩ := (q1.below hx q1.lt).duo; go_simp <;> rfl) hS ?_
          refine wpM_held 3 (v := ?_) rfl (by kernel_rfl) (by kernel_rfl) rfl (fun _ _ _ h => h) rfl (by intro wx hx; go_simp <;> rfl) hS ?_
          refine wpM_held 4 (v := .slice (some ⟨b, off, none⟩) ds.length cap) rfl (by kernel_rfl) (by kernel_rfl) rfl (fun _ _ _ h => h) rfl (by intro wx hx; obtain ⟨x0, x1⟩ := (q1.below hx q1.lt).duo; go_simp <;> rfl) hS ?_
          refine wpM_held 5 (v := .int .i64 (n : Int)) rfl (by kernel_rfl) (by kernel_rfl) rfl (fun _ _ _ h => h) rfl (by intro wx hx; go_simp <;> rfl) hS ?_
          refine wpM_held 6 (v := .slice (some ⟨b, off, none⟩) n cap) rfl (by kernel_rfl) (by kernel_rfl) rfl (fun _ _ _ h => h) rfl (by intro wx hx; go_simp <;> first | rfl | omega) hS ?_
          refine wpM_one 2 rfl (by kernel_rfl) rfl ?_
          go_wp2_with fail
          have hW1 : Below wr.heap.size wr (wr.alloc (.cells #[] 3)).drew := ((Below.refl _ wr).alloc (Nat.le_refl _) _).drew
          have hO0 : (wr.alloc (.cells #[] 3)).drew.ownsRow wr.heap.size 3 1 (.slice (some ⟨wr.heap.size, 0, none⟩) 0 0) 0 [] := World.ownsRow_made wr #[] 0 (Nat.le_refl _) (by unfold maxLen; omega) rfl
          have hzs : wr.heap.size ≤ (wr.alloc (.cells #[] 3)).drew.heap.size := hW1.size
          have HSRC : Hid (∀ (j : Nat) (u : Value), ((ds.take n).map (Value.int .i64))[j]? = some u → (wr.alloc (.cells #[] 3)).drew.cell? ((⟨b, off, none⟩ : Addr).add j) = some u) :=
            cells_src n HN1.out (fun j hj => ((Kept.of_below (S := fun k => k < wr.heap.size) hW1 (fun _ h => h)).cell (p := ⟨b, off + j, none⟩) (by show b < wr.heap.size; have : b < w.heap.size := hlt; omega)).trans (HC.out j hj))
          refine ⟨fun _ => hW1, ?_⟩
          generalize hWg : (wr.alloc (.cells #[] 3)).drew = W1 at *
          clear hWg
          have hlen : ((ds.take n).map (Value.int .i64)).length = n * 1 := by rw [List.length_map, List.length_take, Nat.min_eq_left HN1.out]; omega
          refine wpM_one 7 rfl (by kernel_rfl) rfl ?_
          refine wpList_append_own2 _ rfl (.tmp 25) (.tmp 29) 92 rfl wr.heap.size 3 i0 (.int .i64 0) 1 8 Tryz.underlying92 hi hz0 hz1 hz2 rfl (by decide) _ _ _ rfl hO0 ⟨b, off, none⟩ n cap ((ds.take n).map (Value.int .i64)) rfl hlen HSRC.out (by intro u hu; obtain ⟨x, _, rfl⟩ := List.mem_map.1 hu; rfl) (by unfold maxLen; omega) (by omega) hzs ?_
          intro v1 x1 hown1 hgrow1 hblk1
          have hW2 : Below wr.heap.size wr x1 := hW1.grown hgrow1 hzs (fun k e => (hO0.lt k e).1)
          have HO : Hid (OwnD wr.heap.size x1 v1 (ds.take n)) := by
            show OwnD _ _ _ _
            unfold OwnD
            rw [List.length_take, Nat.min_eq_left HN1.out]
            simpa using hown1
          rw [Nat.zero_add] at hown1
          obtain ⟨g1, k1, rfl⟩ := owns_form hown1
          clear hown1 hgrow1 hblk1 HSRC hO0 hlen
          go_wp2_with fail
          refine ⟨fun _ => hW2, ?_⟩
          have p2 := q2.below hW2 q2.lt
          obtain ⟨y0, y1⟩ := p2.duo
          have zf := p2.frozen
          refine wpM_one 8 rfl (by kernel_rfl) rfl ?_
          go_wp2_with fail
          refine ⟨fun _ => hW2, ?_⟩
          refine wpM_one 9 rfl (by kernel_rfl) rfl ?_
          go_wp2_with fail
          refine ⟨fun h => by simp at h, ?_⟩
          refine wpM_done (by kernel_rfl) ?_
          have hBx := hBr.trans (hW2.mono hBr.size)
          have hBe := below_set (below_set hBx (B := w.heap.size + 1) 0 (.bool neg) (by omega)) (B := w.heap.size + 1) 1 (.slice g1 n k1) (by omega)
          have hZe := Row.set2 p2 (.bool neg) (.slice g1 n k1)
          have hOe : DgAt ((x1.setCell ⟨w.heap.size + 1, 0, none⟩ (.bool neg)).setCell ⟨w.heap.size + 1, 1, none⟩ (.slice g1 n k1)) (.slice g1 n k1) (ds.take n) :=
            OwnD.dg (B := wr.heap.size) (owns_kept HO.out (((Kept.refl (fun k => k ≠ w.heap.size + 1) x1).setCell (p := ⟨w.heap.size + 1, 0, none⟩) (by simp) _).setCell (p := ⟨w.heap.size + 1, 1, none⟩) (by simp) _) (fun k hk e => by have := (HO.out.lt k hk).1; omega))
          go_wp2
          refine bodyPost_ret (ret_one rfl (g := w.heap.size + 1) rfl (load43 hZe rfl)) rfl ⟨_, rfl, ⟨.slice g1 n k1, ?_, ?_⟩, ⟨_, _, rfl, HO.out.new.mono hBr.size⟩, hBe⟩
          · rw [HT.out.2]; rfl
          · rw [← HT.out.1]; exact hOe
theorem trim_any (neg : Bool) (sv : Value) (ds : List Int) (w : World) (hD : DgAt w sv ds) (hd : DgL ds) (hl : ds.length ≤ 1000) :
    Calls Tryz.prog 62 #[bv neg sv] w fun r w' => ∃ v, r = .returned v ∧ BigV w' (bval neg ds) v ∧ Below w.heap.size w w' := by
  refine (trim_new neg sv ds w hD hd hl).mono ?_
  rintro r w' ⟨v, h1, h2, _, h3⟩
  exact ⟨v, h1, h2, h3⟩
end Go.Proofs.YtgihginfegckcaaGreatDoor
/- Shift: times ten, again and again. -/
namespace Go.Proofs.YtgihginfegckcaaGreatDoor
open Go.RowKit

theorem make41 (n : Nat) (hn : n ≤ 1000) (w : World) : (Instr.makeSlice 92 (.int .i64 (n : Int)) (.int .i64 (n : Int))).run Tryz.prog w = .ok (.slice (some ⟨w.heap.size, 0, none⟩) n n) (w.alloc (.cells (madeCells #[.int .i64 0] n) 3)) := by
  obtain ⟨i0, hi, hzz⟩ := Option.map_eq_some_iff.1 Tryz.info3
  simp only [Prod.mk.injEq] at hzz
  obtain ⟨hz0, hz1, hz2⟩ := hzz
  have := run_makeSlice (P := Tryz.prog) w 92 3 i0 _ Tryz.underlying92 hi hz0 .i64 .i64 (n : Int) (n : Int) (by omega) (by omega) (by rw [hz1]; simp; omega) (by rw [hz2]; omega) (by omega)
  rw [hz1] at this
  simpa [Value.cells] using this
theorem made_zeros (n : Nat) : (madeCells #[.int .i64 0] n).toList = (List.replicate n (0 : Int)).map (Value.int .i64) := by
  rw [toList_madeCells_one]
  simp
theorem shift_val (x : Int) (n : Nat) : bval (decide (x < 0)) (List.replicate n 0 ++ digs x.natAbs) = x * 10 ^ n ∧ DgL (List.replicate n 0 ++ digs x.natAbs) := by
  have h1 : dval (List.replicate n (0 : Int) ++ digs x.natAbs) = 10 ^ n * (x.natAbs : Int) := by
    rw [dval_append, dval_zeros (fun d hd => (List.mem_replicate.1 hd).2), List.length_replicate, dval_digs]
    omega
  refine ⟨?_, fun d hd => ?_⟩
  · unfold bval
    rw [h1, Int.mul_comm]
    by_cases h : x < 0
    · rw [decide_eq_true h, if_pos rfl, ← Int.neg_mul]
      congr 1; omega
    · rw [decide_eq_false h, if_neg (by simp)]
      congr 1; omega
  · rcases List.mem_append.1 hd with hd | hd
    · rw [(List.mem_replicate.1 hd).2]; omega
    · exact digs_dg _ d hd
theorem row_cell {W : World} {B i : Nat} {t : TypeId} {cs : Array Value} (h : Row W B t cs) : W.cell? ⟨B, i, none⟩ = cs[i]? := cell_of_row W B i cs t (0, 0) h
/-- A Big's cell is written: digits elsewhere stay. -/
theorem DgAt.store {W : World} {sv : Value} {ds : List Int} (h : DgAt W sv ds) {B : Nat} {p : Bool} {x : Option Addr} {y z : Nat} (hR : Row W B 94 #[.bool p, .slice x y z]) (u u' : Value) :
    DgAt ((W.setCell ⟨B, 0, none⟩ u).setCell ⟨B, 1, none⟩ u') sv ds := by
  refine ⟨?_, h.2⟩
  have hk := ((Kept.refl (fun k => k ≠ B) W).setCell (p := ⟨B, 0, none⟩) (by simp) u).setCell (p := ⟨B, 1, none⟩) (by simp) u'
  rcases h.1 with h0 | ⟨b, off, c, e, hb, hc⟩
  · exact .inl h0
  · by_cases h0 : ds = []
    · subst h0; exact .inl ⟨rfl, _, _, e⟩
    · have hl : 0 < ds.length := List.length_pos_iff.2 h0
      have hne : b ≠ B := by
        rintro rfl
        have h1 := hc 0 hl
        rw [row_cell hR] at h1
        match off, h1 with
        | 0, h1 => simp at h1
        | 1, h1 => simp at h1
        | o + 2, h1 => simp at h1
      exact .inr ⟨b, off, c, e, Nat.lt_of_lt_of_le hb hk.size, fun j hj => (hk.cell (p := ⟨b, off + j, none⟩) hne).trans (hc j hj)⟩
set_option maxRecDepth 100000 in
set_option maxHeartbeats 1000000 in
theorem shift_new (x : Int) (v : Value) (n : Nat) (w : World) (hV : BigV w x v) (hn : n ≤ 300) (hx : (digs x.natAbs).length ≤ 600) :
    Calls Tryz.prog 98 #[v, .int .i64 (n : Int)] w fun r w' => ∃ v', r = .returned v' ∧ BigV w' (x * 10 ^ n) v' ∧ NewV w.heap.size v' ∧ Below w.heap.size w w' := by
  obtain ⟨sv, rfl, hD⟩ := hV
  obtain ⟨hsv, hsd⟩ := shift_val x n
  have HT : ∀ W sv', DgAt W sv' (List.replicate n 0 ++ digs x.natAbs) → Hid (Calls Tryz.prog 62 #[.agg #[.bool (decide (x < 0)), sv']] W fun r w' => ∃ v', r = .returned v' ∧ BigV w' (x * 10 ^ n) v' ∧ NewV W.heap.size v' ∧ Below W.heap.size W w') := fun W sv' h => by
    have := trim_new (decide (x < 0)) sv' _ W h hsd (by rw [List.length_append, List.length_replicate]; omega)
    rw [hsv] at this
    exact this
  clear hsv hsd
  unfold bv
  generalize decide (x < 0) = neg at *
  generalize digs x.natAbs = ds at *
  obtain ⟨_, a, c, rfl, _, _⟩ := id hD
  have HD : Hid (DgAt w (.slice a ds.length c) ds) := hD
  clear hD
  go_enter Tryz.func98, Tryz.ntmps98
  go_wp2_with fail
  have r1 := (Row.new w 94 #[.bool neg, .slice a ds.length c]).alloc (.cells #[.bool false, .slice none 0 0] 94)
  have r2 := Row.new1 w (.cells #[.bool neg, .slice a ds.length c] 94) 94 #[.bool false, .slice none 0 0]
  have hB := ((Below.refl _ w).alloc (Nat.le_refl _) (.cells #[.bool neg, .slice a ds.length c] 94)).alloc (by simp) (.cells #[.bool false, .slice none 0 0] 94)
  generalize (w.alloc (.cells #[.bool neg, .slice a ds.length c] 94)).alloc (.cells #[.bool false, .slice none 0 0] 94) = W at *
  have hS : Below W.heap.size W W.drew := (Below.refl _ W).drew
  have hz2 := r2.lt
  refine wp_region_M (fun wx : World => Below W.heap.size W wx) (fun j => decide (j < 9)) 10 rfl (by kernel_rfl) ?_
  refine wpM_held 0 (v := ?_) rfl (by kernel_rfl) (by kernel_rfl) rfl (fun _ _ _ h => h) rfl (by intro wx hx; go_simp <;> rfl) hS ?_
  refine wpM_held 1 (v := .bool neg) rfl (by kernel_rfl) (by kernel_rfl) rfl (fun _ _ _ h => h) rfl (by intro wx hx; obtain ⟨x0, x1⟩ := (r1.below hx r1.lt).duo; go_simp <;> rfl) hS ?_
  refine wpM_held 2 (v := .int .i64 (n : Int)) rfl (by kernel_rfl) (by kernel_rfl) rfl (fun _ _ _ h => h) rfl (by intro wx hx; go_simp <;> rfl) hS ?_
  refine wpM_held 4 (v := ?_) rfl (by kernel_rfl) (by kernel_rfl) rfl (fun _ _ _ h => h) rfl (by intro wx hx; go_simp <;> rfl) hS ?_
  refine wpM_held 5 (v := .slice a ds.length c) rfl (by kernel_rfl) (by kernel_rfl) rfl (fun _ _ _ h => h) rfl (by intro wx hx; obtain ⟨x0, x1⟩ := (r1.below hx r1.lt).duo; go_simp <;> rfl) hS ?_
  refine wpM_one 3 rfl (by kernel_rfl) rfl ?_
  have mk := make41 n (by omega)
  go_wp2_with fail
  have hsz0 : (madeCells #[Value.int .i64 0] n).size = n * 1 := by rw [size_madeCells]; omega
  have hO0 : (W.alloc (.cells (madeCells #[.int .i64 0] n) 3)).drew.ownsRow W.heap.size 3 1 (.slice (some ⟨W.heap.size, 0, none⟩) n n) n ((List.replicate n (0 : Int)).map (Value.int .i64)) := by
    have := World.ownsRow_lit (base := W.heap.size) (e := 3) (size := 1) W (madeCells #[.int .i64 0] n) n (Nat.le_refl _) (by unfold maxLen; omega) hsz0
    rw [made_zeros] at this
    exact this
  have hW1 : Below W.heap.size W (W.alloc (.cells (madeCells #[.int .i64 0] n) 3)).drew := ((Below.refl _ W).alloc (Nat.le_refl _) _).drew
  clear mk hsz0
  generalize (W.alloc (.cells (madeCells #[.int .i64 0] n) 3)).drew = W1 at *
  refine ⟨fun _ => hW1, ?_⟩
  have hD1 : DgAt W1 (.slice a ds.length c) ds := (HD.out.below hB).below (hW1.mono (Nat.le_refl _))
  refine wpM_one 6 rfl (by kernel_rfl) rfl ?_
  refine wpList_append_dg _ rfl (.tmp 8) (.tmp 10) rfl W.heap.size _ _ _ rfl hO0 _ ds rfl hD1 (by omega) hW1.size ?_
  intro v1 x1 hown1 hgrow1
  have hW2 : Below W.heap.size W x1 := hW1.grown hgrow1 hW1.size (fun k e => (hO0.lt k e).1)
  have hDg : DgAt x1 v1 (List.replicate n 0 ++ ds) := by
    refine OwnD.dg (B := W.heap.size) ?_
    unfold OwnD
    rw [List.length_append, List.length_replicate, List.map_append]
    exact hown1
  obtain ⟨g1, k1, rfl⟩ := owns_form hown1
  have HTT := HT x1 _ hDg
  clear hown1 hgrow1 hO0 hD1 HT hDg
  go_wp2_with fail
  refine ⟨fun _ => hW2, ?_⟩
  refine wpM_one 7 rfl (by kernel_rfl) rfl ?_
  go_wp2_with fail
  refine ⟨fun _ => hW2, ?_⟩
  refine wpM_one 8 rfl (by kernel_rfl) rfl ?_
  go_wp2_with fail
  refine Calls.mono HTT.out ?_
  rintro _ x2 ⟨v2, rfl, hV2, hN2, hb2⟩
  obtain ⟨s2, rfl, hD2⟩ := hV2
  have hN2 := hN2.get.mono hW2.size
  have hW3 : Below W.heap.size W x2 := hW2.trans (hb2.mono hW2.size)
  obtain ⟨_, a2, c2, rfl, _, _⟩ := id hD2
  clear hb2 HTT
  unfold bv
  obtain ⟨ng, hng⟩ : ∃ ng, decide (x * 10 ^ n < 0) = ng := ⟨_, rfl⟩
  have HNG : Hid (decide (x * 10 ^ n < 0) = ng) := hng
  rw [hng]
  clear hng
  go_wp2_with fail
  refine ⟨fun _ => hW3, ?_⟩
  have p2 := r2.below hW3 r2.lt
  obtain ⟨y0, y1⟩ := p2.duo
  have zf := p2.frozen
  refine wpM_one 9 rfl (by kernel_rfl) rfl ?_
  go_wp2_with fail
  refine ⟨fun h => by simp at h, ?_⟩
  refine wpM_done (by kernel_rfl) ?_
  have hBx := hB.trans (hW3.mono (by omega))
  have hBe := below_set (below_set hBx (B := w.heap.size + 1) 0 (.bool ng) (by omega)) (B := w.heap.size + 1) 1 (.slice a2 (digs (x * 10 ^ n).natAbs).length c2) (by omega)
  have hZe := Row.set2 p2 (.bool ng) (.slice a2 (digs (x * 10 ^ n).natAbs).length c2)
  have hDe := hD2.store p2 (.bool ng) (.slice a2 (digs (x * 10 ^ n).natAbs).length c2)
  go_wp2
  exact bodyPost_ret (ret_one rfl (g := w.heap.size + 1) rfl (load43 hZe rfl)) rfl ⟨_, rfl, ⟨_, by rw [HNG.out]; rfl, hDe⟩, ⟨_, _, rfl, hN2.mono (by omega)⟩, hBe⟩
theorem shift_any (x : Int) (v : Value) (n : Nat) (w : World) (hV : BigV w x v) (hn : n ≤ 300) (hx : (digs x.natAbs).length ≤ 600) :
    Calls Tryz.prog 98 #[v, .int .i64 (n : Int)] w fun r w' => ∃ v', r = .returned v' ∧ BigV w' (x * 10 ^ n) v' ∧ Below w.heap.size w w' := by
  refine (shift_new x v n w hV hn hx).mono ?_
  rintro r w' ⟨v, h1, h2, _, h3⟩
  exact ⟨v, h1, h2, h3⟩
end Go.Proofs.YtgihginfegckcaaGreatDoor
/- more: which of two rows of digits is the greater number. -/
namespace Go.Proofs.YtgihginfegckcaaGreatDoor
open Go.RowKit

theorem dval_tail (ds : List Int) : dval ds = ds[0]?.getD 0 + 10 * dval ds.tail := by cases ds <;> simp [dval]
theorem tail_get (ds : List Int) (j : Nat) : ds.tail[j]?.getD 0 = ds[j + 1]?.getD 0 := by cases ds <;> simp
theorem dval_ext : ∀ (n : Nat) (a b : List Int), a.length ≤ n → b.length ≤ n → (∀ j : Nat, a[j]?.getD 0 = b[j]?.getD 0) → dval a = dval b
  | 0, a, b, ha, hb, _ => by rw [List.eq_nil_of_length_eq_zero (by omega : a.length = 0), List.eq_nil_of_length_eq_zero (by omega : b.length = 0)]
  | n + 1, a, b, ha, hb, h => by
    rw [dval_tail a, dval_tail b, h 0, dval_ext n a.tail b.tail (by simp; omega) (by simp; omega) (fun j => by rw [tail_get, tail_get, h])]
theorem dgl_tail {ds : List Int} (h : DgL ds) : DgL ds.tail := fun d hd => h d (List.mem_of_mem_tail hd)
theorem dval_more : ∀ (i : Nat) (a b : List Int), DgL a → DgL b → (∀ j : Nat, i < j → a[j]?.getD 0 = b[j]?.getD 0) → b[i]?.getD 0 < a[i]?.getD 0 → dval b < dval a
  | 0, a, b, ha, hb, h, hi => by
    rw [dval_tail a, dval_tail b, dval_ext (a.length + b.length) a.tail b.tail (by simp; omega) (by simp; omega) (fun j => by rw [tail_get, tail_get, h (j + 1) (by omega)])]
    omega
  | i + 1, a, b, ha, hb, h, hi => by
    have ih := dval_more i a.tail b.tail (dgl_tail ha) (dgl_tail hb) (fun j hj => by rw [tail_get, tail_get, h (j + 1) (by omega)]) (by rw [tail_get, tail_get]; exact hi)
    have h1 := ha.get 0
    have h2 := hb.get 0
    rw [dval_tail a, dval_tail b]
    omega
def cI (x y : Int) : Int := if y < x then 1 else if x < y then -1 else 0
set_option maxRecDepth 100000 in
set_option maxHeartbeats 2000000 in
theorem more_any (na nb : Bool) (sa sb : Value) (da db : List Int) (w : World) (hA : DgAt w sa da) (hB : DgAt w sb db) (ga : DgL da) (gb : DgL db) (la : da.length ≤ 1000) (lb : db.length ≤ 1000) :
    Calls Tryz.prog 128 #[bv na sa, bv nb sb] w fun r w' => r = .returned (.int .i64 (cI (dval da) (dval db))) ∧ Below w.heap.size w w' := by
  obtain ⟨_, a1, c1, rfl, _, _⟩ := id hA
  obtain ⟨_, a2, c2, rfl, _, _⟩ := id hB
  obtain ⟨ci, HCI⟩ : ∃ ci, Hid (cI (dval da) (dval db) = ci) := ⟨_, rfl⟩
  rw [HCI.out]
  have HA : Hid (DgAt w (.slice a1 da.length c1) da) := hA
  have HB : Hid (DgAt w (.slice a2 db.length c2) db) := hB
  have HGA : Hid (DgL da) := ga
  have HGB : Hid (DgL db) := gb
  have HAT : ∀ W (i : Nat), DgAt W (.slice a1 da.length c1) da → Hid (Calls Tryz.prog 148 #[.agg #[.bool na, .slice a1 da.length c1], .int .i64 (i : Int)] W fun r w' => r = .returned (.int .i64 (da[i]?.getD 0)) ∧ Below W.heap.size W w') := fun W i h => by
    have := at_any na a1 c1 da (i : Int) W h.1
    rw [if_pos (by omega), Int.toNat_natCast] at this
    exact this
  have HBT : ∀ W (i : Nat), DgAt W (.slice a2 db.length c2) db → Hid (Calls Tryz.prog 148 #[.agg #[.bool nb, .slice a2 db.length c2], .int .i64 (i : Int)] W fun r w' => r = .returned (.int .i64 (db[i]?.getD 0)) ∧ Below W.heap.size W w') := fun W i h => by
    have := at_any nb a2 c2 db (i : Int) W h.1
    rw [if_pos (by omega), Int.toNat_natCast] at this
    exact this
  unfold bv
  clear hA hB ga gb
  go_enter Tryz.func128, Tryz.ntmps128
  go_wp2_with fail
  have r1 := (Row.new w 94 #[.bool na, .slice a1 da.length c1]).alloc (.cells #[.bool nb, .slice a2 db.length c2] 94)
  have r2 := Row.new1 w (.cells #[.bool na, .slice a1 da.length c1] 94) 94 #[.bool nb, .slice a2 db.length c2]
  have hB0 := ((Below.refl _ w).alloc (Nat.le_refl _) (.cells #[.bool na, .slice a1 da.length c1] 94)).alloc (by simp) (.cells #[.bool nb, .slice a2 db.length c2] 94)
  obtain ⟨d0, d1⟩ := r1.duo
  obtain ⟨e0, e1⟩ := r2.duo
  go_wp2
  clear d0 d1 e0 e1
  go_loopw [5] (fun v wr => ∃ k : Nat, k ≤ da.length + db.length + 1 ∧ v = .int .i64 ((k : Int) - 1) ∧ Hid (∀ j : Nat, k ≤ j → da[j]?.getD 0 = db[j]?.getD 0) ∧ Row wr w.heap.size 94 #[.bool na, .slice a1 da.length c1] ∧ Row wr (w.heap.size + 1) 94 #[.bool nb, .slice a2 db.length c2] ∧ Hid (Below w.heap.size w wr)) (fun v _ => (intOf v + 1).toNat)
  case atStart => exact ⟨da.length + db.length + 1, Nat.le_refl _, by congr 1; omega, fun j hj => by rw [List.getElem?_eq_none (by omega), List.getElem?_eq_none (by omega)], r1, r2, hB0⟩
  case round =>
    obtain ⟨k, hk, rfl, HE, q1, q2, HBr⟩ := hrel
    clear r1 r2 hB0
    by_cases h0 : k = 0
    · subst h0
      have hci : ci = 0 := by
        rw [← HCI.out]
        have := dval_ext (da.length + db.length) da db (by omega) (by omega) (fun j => HE.out j (Nat.zero_le _))
        unfold cI; rw [this]; simp
      have HC0 : Hid (ci = 0) := hci
      clear hci
      go_wp2
      go_ret
      exact ⟨by rw [HC0.out]; rfl, HBr.out⟩
    · obtain ⟨i, hi⟩ : ∃ i, k = i + 1 := ⟨k - 1, by omega⟩
      have hki : (k : Int) - 1 = (i : Int) := by omega
      have HKI : Hid (k = i + 1) := hi
      obtain ⟨x, ha⟩ : ∃ x, da[i]?.getD 0 = x := ⟨_, rfl⟩
      obtain ⟨y, hb⟩ : ∃ y, db[i]?.getD 0 = y := ⟨_, rfl⟩
      have hbx := HGA.out.get i
      have hby := HGB.out.get i
      rw [ha] at hbx
      rw [hb] at hby
      have hB0 := HBr.out
      clear hi h0
      rcases Int.lt_trichotomy x y with hxy | hxy | hxy
      · have hci : Hid (ci = -1) := by
          show _ = _
          rw [← HCI.out]
          have := dval_more i db da HGB.out HGA.out (fun j hj => (HE.out j (by have := HKI.out; omega)).symm) (by rw [ha, hb]; exact hxy)
          unfold cI; rw [if_neg (by omega), if_pos this]
        have g1 : decide (y < x) = false := decide_eq_false (by omega)
        go_wp2_with fail
        have hS : Below wr.heap.size wr wr.drew := (Below.refl _ wr).drew
        refine wp_region_M (fun wx : World => Below wr.heap.size wr wx) (fun j => decide (j < 7)) 7 rfl (by kernel_rfl) ?_
        refine wpM_held 0 (v := .agg #[.bool na, .slice a1 da.length c1]) rfl (by kernel_rfl) (by kernel_rfl) rfl (fun _ _ _ h => h) rfl (by intro wx hx; obtain ⟨x0, x1⟩ := (q1.below hx q1.lt).duo; go_simp <;> rfl) hS ?_
        refine wpM_held 1 (v := .int .i64 (i : Int)) rfl (by kernel_rfl) (by kernel_rfl) rfl (fun _ _ _ h => h) rfl (by intro wx hx; go_simp <;> rfl) hS ?_
        refine wpM_held 3 (v := .agg #[.bool nb, .slice a2 db.length c2]) rfl (by kernel_rfl) (by kernel_rfl) rfl (fun _ _ _ h => h) rfl (by intro wx hx; obtain ⟨x0, x1⟩ := (q2.below hx q2.lt).duo; go_simp <;> rfl) hS ?_
        refine wpM_held 4 (v := .int .i64 (i : Int)) rfl (by kernel_rfl) (by kernel_rfl) rfl (fun _ _ _ h => h) rfl (by intro wx hx; go_simp <;> rfl) hS ?_
        refine wpM_one 2 rfl (by kernel_rfl) rfl ?_
        go_wp2_with fail
        refine Calls.mono (HAT _ i (HA.out.below (hB0.trans (hS.mono hB0.size)))).out ?_
        rintro _ wa ⟨rfl, ba⟩
        have hS1 : Below wr.heap.size wr wa := hS.trans (ba.mono hS.size)
        clear ba
        rw [ha]
        go_wp2_with fail
        refine ⟨fun _ => hS1, ?_⟩
        refine wpM_one 5 rfl (by kernel_rfl) rfl ?_
        go_wp2_with fail
        refine Calls.mono (HBT _ i (HB.out.below (hB0.trans (hS1.mono hB0.size)))).out ?_
        rintro _ wb ⟨rfl, bb⟩
        have hS2 : Below wr.heap.size wr wb := hS1.trans (bb.mono hS1.size)
        clear bb hS1 hS
        rw [hb]
        go_wp2_with fail
        refine ⟨fun _ => hS2, ?_⟩
        refine wpM_one 6 rfl (by kernel_rfl) rfl ?_
        go_wp2_with fail
        refine ⟨fun _ => hS2, ?_⟩
        refine wpM_done (by kernel_rfl) ?_
        have q1 := q1.below hS2 q1.lt
        have q2 := q2.below hS2 q2.lt
        have hB02 := hB0.trans (hS2.mono hB0.size)
        clear hS2
        clear HBr
        go_wp2_with fail
        have hS : Below wb.heap.size wb wb.drew := (Below.refl _ wb).drew
        refine wp_region_M (fun wx : World => Below wb.heap.size wb wx) (fun j => decide (j < 7)) 7 rfl (by kernel_rfl) ?_
        refine wpM_held 0 (v := .agg #[.bool na, .slice a1 da.length c1]) rfl (by kernel_rfl) (by kernel_rfl) rfl (fun _ _ _ h => h) rfl (by intro wx hx; obtain ⟨x0, x1⟩ := (q1.below hx q1.lt).duo; go_simp <;> rfl) hS ?_
        refine wpM_held 1 (v := .int .i64 (i : Int)) rfl (by kernel_rfl) (by kernel_rfl) rfl (fun _ _ _ h => h) rfl (by intro wx hx; go_simp <;> rfl) hS ?_
        refine wpM_held 3 (v := .agg #[.bool nb, .slice a2 db.length c2]) rfl (by kernel_rfl) (by kernel_rfl) rfl (fun _ _ _ h => h) rfl (by intro wx hx; obtain ⟨x0, x1⟩ := (q2.below hx q2.lt).duo; go_simp <;> rfl) hS ?_
        refine wpM_held 4 (v := .int .i64 (i : Int)) rfl (by kernel_rfl) (by kernel_rfl) rfl (fun _ _ _ h => h) rfl (by intro wx hx; go_simp <;> rfl) hS ?_
        refine wpM_one 2 rfl (by kernel_rfl) rfl ?_
        go_wp2_with fail
        refine Calls.mono (HAT _ i (HA.out.below (hB02.trans (hS.mono hB02.size)))).out ?_
        rintro _ wc ⟨rfl, ba⟩
        have hS1 : Below wb.heap.size wb wc := hS.trans (ba.mono hS.size)
        clear ba
        rw [ha]
        go_wp2_with fail
        refine ⟨fun _ => hS1, ?_⟩
        refine wpM_one 5 rfl (by kernel_rfl) rfl ?_
        go_wp2_with fail
        refine Calls.mono (HBT _ i (HB.out.below (hB02.trans (hS1.mono hB02.size)))).out ?_
        rintro _ wd ⟨rfl, bb⟩
        have hS2 : Below wb.heap.size wb wd := hS1.trans (bb.mono hS1.size)
        clear bb hS1 hS
        rw [hb]
        go_wp2_with fail
        refine ⟨fun _ => hS2, ?_⟩
        refine wpM_one 6 rfl (by kernel_rfl) rfl ?_
        go_wp2_with fail
        refine ⟨fun _ => hS2, ?_⟩
        refine wpM_done (by kernel_rfl) ?_
        have q1 := q1.below hS2 q1.lt
        have q2 := q2.below hS2 q2.lt
        have hB022 := hB02.trans (hS2.mono hB02.size)
        clear hS2
        go_wp2
        go_ret
        exact ⟨by rw [hci.out]; rfl, hB022⟩
      · have HXY : Hid (x = y) := hxy
        have g1 : decide (y < x) = false := decide_eq_false (by omega)
        have g2 : decide (x < y) = false := decide_eq_false (by omega)
        clear hxy
        go_wp2_with fail
        have hS : Below wr.heap.size wr wr.drew := (Below.refl _ wr).drew
        refine wp_region_M (fun wx : World => Below wr.heap.size wr wx) (fun j => decide (j < 7)) 7 rfl (by kernel_rfl) ?_
        refine wpM_held 0 (v := .agg #[.bool na, .slice a1 da.length c1]) rfl (by kernel_rfl) (by kernel_rfl) rfl (fun _ _ _ h => h) rfl (by intro wx hx; obtain ⟨x0, x1⟩ := (q1.below hx q1.lt).duo; go_simp <;> rfl) hS ?_
        refine wpM_held 1 (v := .int .i64 (i : Int)) rfl (by kernel_rfl) (by kernel_rfl) rfl (fun _ _ _ h => h) rfl (by intro wx hx; go_simp <;> rfl) hS ?_
        refine wpM_held 3 (v := .agg #[.bool nb, .slice a2 db.length c2]) rfl (by kernel_rfl) (by kernel_rfl) rfl (fun _ _ _ h => h) rfl (by intro wx hx; obtain ⟨x0, x1⟩ := (q2.below hx q2.lt).duo; go_simp <;> rfl) hS ?_
        refine wpM_held 4 (v := .int .i64 (i : Int)) rfl (by kernel_rfl) (by kernel_rfl) rfl (fun _ _ _ h => h) rfl (by intro wx hx; go_simp <;> rfl) hS ?_
        refine wpM_one 2 rfl (by kernel_rfl) rfl ?_
        go_wp2_with fail
        refine Calls.mono (HAT _ i (HA.out.below (hB0.trans (hS.mono hB0.size)))).out ?_
        rintro _ wa ⟨rfl, ba⟩
        have hS1 : Below wr.heap.size wr wa := hS.trans (ba.mono hS.size)
        clear ba
        rw [ha]
        go_wp2_with fail
        refine ⟨fun _ => hS1, ?_⟩
        refine wpM_one 5 rfl (by kernel_rfl) rfl ?_
        go_wp2_with fail
        refine Calls.mono (HBT _ i (HB.out.below (hB0.trans (hS1.mono hB0.size)))).out ?_
        rintro _ wb ⟨rfl, bb⟩
        have hS2 : Below wr.heap.size wr wb := hS1.trans (bb.mono hS1.size)
        clear bb hS1 hS
        rw [hb]
        go_wp2_with fail
        refine ⟨fun _ => hS2, ?_⟩
        refine wpM_one 6 rfl (by kernel_rfl) rfl ?_
        go_wp2_with fail
        refine ⟨fun _ => hS2, ?_⟩
        refine wpM_done (by kernel_rfl) ?_
        have q1 := q1.below hS2 q1.lt
        have q2 := q2.below hS2 q2.lt
        have hB02 := hB0.trans (hS2.mono hB0.size)
        clear hS2
        clear HBr
        go_wp2_with fail
        have hS : Below wb.heap.size wb wb.drew := (Below.refl _ wb).drew
        refine wp_region_M (fun wx : World => Below wb.heap.size wb wx) (fun j => decide (j < 7)) 7 rfl (by kernel_rfl) ?_
        refine wpM_held 0 (v := .agg #[.bool na, .slice a1 da.length c1]) rfl (by kernel_rfl) (by kernel_rfl) rfl (fun _ _ _ h => h) rfl (by intro wx hx; obtain ⟨x0, x1⟩ := (q1.below hx q1.lt).duo; go_simp <;> rfl) hS ?_
        refine wpM_held 1 (v := .int .i64 (i : Int)) rfl (by kernel_rfl) (by kernel_rfl) rfl (fun _ _ _ h => h) rfl (by intro wx hx; go_simp <;> rfl) hS ?_
        refine wpM_held 3 (v := .agg #[.bool nb, .slice a2 db.length c2]) rfl (by kernel_rfl) (by kernel_rfl) rfl (fun _ _ _ h => h) rfl (by intro wx hx; obtain ⟨x0, x1⟩ := (q2.below hx q2.lt).duo; go_simp <;> rfl) hS ?_
        refine wpM_held 4 (v := .int .i64 (i : Int)) rfl (by kernel_rfl) (by kernel_rfl) rfl (fun _ _ _ h => h) rfl (by intro wx hx; go_simp <;> rfl) hS ?_
        refine wpM_one 2 rfl (by kernel_rfl) rfl ?_
        go_wp2_with fail
        refine Calls.mono (HAT _ i (HA.out.below (hB02.trans (hS.mono hB02.size)))).out ?_
        rintro _ wc ⟨rfl, ba⟩
        have hS1 : Below wb.heap.size wb wc := hS.trans (ba.mono hS.size)
        clear ba
        rw [ha]
        go_wp2_with fail
        refine ⟨fun _ => hS1, ?_⟩
        refine wpM_one 5 rfl (by kernel_rfl) rfl ?_
        go_wp2_with fail
        refine Calls.mono (HBT _ i (HB.out.below (hB02.trans (hS1.mono hB02.size)))).out ?_
        rintro _ wd ⟨rfl, bb⟩
        have hS2 : Below wb.heap.size wb wd := hS1.trans (bb.mono hS1.size)
        clear bb hS1 hS
        rw [hb]
        go_wp2_with fail
        refine ⟨fun _ => hS2, ?_⟩
        refine wpM_one 6 rfl (by kernel_rfl) rfl ?_
        go_wp2_with fail
        refine ⟨fun _ => hS2, ?_⟩
        refine wpM_done (by kernel_rfl) ?_
        have q1 := q1.below hS2 q1.lt
        have q2 := q2.below hS2 q2.lt
        have hB022 := hB02.trans (hS2.mono hB02.size)
        clear hS2
        have HE2 : Hid (∀ j : Nat, i ≤ j → da[j]?.getD 0 = db[j]?.getD 0) := by
          intro j hj
          by_cases hji : j = i
          · rw [hji, ha, hb]; exact HXY.out
          · exact HE.out j (by have := HKI.out; omega)
        go_wp2
        go_roundw
        case rel => exact ⟨i, by have := HKI.out; omega, by go_num, HE2, q1, q2, hB022⟩
        case measure => have := HKI.out; simp [intOf]; omega
      · have hci : Hid (ci = 1) := by
          show _ = _
          rw [← HCI.out]
          have := dval_more i da db HGA.out HGB.out (fun j hj => HE.out j (by have := HKI.out; omega)) (by rw [ha, hb]; exact hxy)
          unfold cI; rw [if_pos this]
        go_wp2_with fail
        have hS : Below wr.heap.size wr wr.drew := (Below.refl _ wr).drew
        refine wp_region_M (fun wx : World => Below wr.heap.size wr wx) (fun j => decide (j < 7)) 7 rfl (by kernel_rfl) ?_
        refine wpM_held 0 (v := .agg #[.bool na, .slice a1 da.length c1]) rfl (by kernel_rfl) (by kernel_rfl) rfl (fun _ _ _ h => h) rfl (by intro wx hx; obtain ⟨x0, x1⟩ := (q1.below hx q1.lt).duo; go_simp <;> rfl) hS ?_
        refine wpM_held 1 (v := .int .i64 (i : Int)) rfl (by kernel_rfl) (by kernel_rfl) rfl (fun _ _ _ h => h) rfl (by intro wx hx; go_simp <;> rfl) hS ?_
        refine wpM_held 3 (v := .agg #[.bool nb, .slice a2 db.length c2]) rfl (by kernel_rfl) (by kernel_rfl) rfl (fun _ _ _ h => h) rfl (by intro wx hx; obtain ⟨x0, x1⟩ := (q2.below hx q2.lt).duo; go_simp <;> rfl) hS ?_
        refine wpM_held 4 (v := .int .i64 (i : Int)) rfl (by kernel_rfl) (by kernel_rfl) rfl (fun _ _ _ h => h) rfl (by intro wx hx; go_simp <;> rfl) hS ?_
        refine wpM_one 2 rfl (by kernel_rfl) rfl ?_
        go_wp2_with fail
        refine Calls.mono (HAT _ i (HA.out.below (hB0.trans (hS.mono hB0.size)))).out ?_
        rintro _ wa ⟨rfl, ba⟩
        have hS1 : Below wr.heap.size wr wa := hS.trans (ba.mono hS.size)
        clear ba
        rw [ha]
        go_wp2_with fail
        refine ⟨fun _ => hS1, ?_⟩
        refine wpM_one 5 rfl (by kernel_rfl) rfl ?_
        go_wp2_with fail
        refine Calls.mono (HBT _ i (HB.out.below (hB0.trans (hS1.mono hB0.size)))).out ?_
        rintro _ wb ⟨rfl, bb⟩
        have hS2 : Below wr.heap.size wr wb := hS1.trans (bb.mono hS1.size)
        clear bb hS1 hS
        rw [hb]
        go_wp2_with fail
        refine ⟨fun _ => hS2, ?_⟩
        refine wpM_one 6 rfl (by kernel_rfl) rfl ?_
        go_wp2_with fail
        refine ⟨fun _ => hS2, ?_⟩
        refine wpM_done (by kernel_rfl) ?_
        have q1 := q1.below hS2 q1.lt
        have q2 := q2.below hS2 q2.lt
        have hB02 := hB0.trans (hS2.mono hB0.size)
        clear hS2
        go_wp2
        go_ret
        exact ⟨by rw [hci.out]; rfl, hB02⟩
end Go.Proofs.YtgihginfegckcaaGreatDoor
/- Pure: sums and differences of rows of digits, place by place. -/
namespace Go.Proofs.YtgihginfegckcaaGreatDoor

theorem dval_lt {ds : List Int} (h : DgL ds) : dval ds < 10 ^ ds.length := by
  induction ds with
  | nil => simp [dval]
  | cons d r ih =>
    have h1 := h d (by simp)
    have h2 := ih (fun x hx => h x (by simp [hx]))
    show d + 10 * dval r < 10 ^ (r.length + 1)
    rw [Int.pow_succ]
    omega
theorem pow10_pos (k : Nat) : (0 : Int) < 10 ^ k := Int.pow_pos (by omega)
end Go.Proofs.YtgihginfegckcaaGreatDoor
/- fits: is a whole number the C of a Dec? -/
namespace Go.Proofs.YtgihginfegckcaaGreatDoor
open Go.RowKit

def fitsB (z : Int) : Bool := decide (-9223372036854775808 ≤ z) && decide (z ≤ 9223372036854775807)
theorem one_rowD (w w1 : World) (o1 : Array Value) (t1 : TypeId) (h : Below ((w.alloc (.cells o1 t1)).heap.size) (w.alloc (.cells o1 t1)) w1) :
    Row w1 w.heap.size t1 o1 ∧ Below w.heap.size w w1 :=
  ⟨(Row.new w t1 o1).below h (by simp), ((Below.refl _ w).alloc (Nat.le_refl _) _).trans (h.mono (by simp))⟩
theorem digs_big : (digs 9223372036854775808).length ≤ 800 := Nat.le_trans (digs_len _ 19 (by decide)) (by decide)
set_option maxRecDepth 100000 in
set_option maxHeartbeats 1000000 in
theorem fits_any (z : Int) (v : Value) (w : World) (hV : BigV w z v) (hz : (digs z.natAbs).length ≤ 800) :
    Calls Tryz.prog 99 #[v] w fun r w' => r = .returned (.bool (fitsB z)) ∧ Below w.heap.size w w' := by
  obtain ⟨sa, rfl, hA⟩ := hV
  obtain ⟨fb, HFB⟩ : ∃ fb, Hid (fitsB z = fb) := ⟨_, rfl⟩
  rw [HFB.out]
  have HO : ∀ W, Hid (Calls Tryz.prog 127 #[.int .i64 (-9223372036854775808)] W _) := fun W => of_any (-9223372036854775808) ⟨by decide, by decide⟩ W
  obtain ⟨na, hna⟩ : ∃ na, decide (z < 0) = na := ⟨_, rfl⟩
  have HNA : Hid (decide (z < 0) = na) := hna
  have HMO : ∀ W sb, Below w.heap.size w W → DgAt W sb (digs 9223372036854775808) → Hid (Calls Tryz.prog 128 #[bv na sa, bv na sb] W fun r w' => r = .returned (.int .i64 (cI (z.natAbs : Int) 9223372036854775808)) ∧ Below W.heap.size W w') := fun W sb h hb => by
    have := more_any na na sa sb _ _ W (hA.below h) hb (digs_dg _) (digs_dg _) (by omega) (by have := digs_big; omega)
    rw [dval_digs, dval_digs] at this
    exact this
  rw [hna]
  clear hna
  obtain ⟨_, a1, c1, rfl, _, _⟩ := id hA
  clear hA
  generalize (digs z.natAbs).length = la at *
  unfold bv at *
  go_enter Tryz.func99, Tryz.ntmps99
  go_wp2_with fail
  refine Calls.mono (HO _).out ?_
  rintro _ w1 ⟨v1, rfl, hV1, b1⟩
  obtain ⟨sb, rfl, hB⟩ := hV1
  obtain ⟨r1, hB1⟩ := one_rowD w w1 _ _ b1
  rw [show (-9223372036854775808 : Int).natAbs = 9223372036854775808 from rfl] at hB
  obtain ⟨_, a2, c2, rfl, _, _⟩ := id hB
  obtain ⟨lb, hlb⟩ : ∃ lb, (digs 9223372036854775808).length = lb := ⟨_, rfl⟩
  rw [hlb] at hB
  rw [hlb]
  rw [show decide ((-9223372036854775808 : Int) < 0) = true from rfl]
  unfold bv
  clear b1 HO hlb
  obtain ⟨d0, d1⟩ := r1.duo
  have hz1 := r1.lt
  have hal : ∀ o, Below w1.heap.size w1 (w1.alloc o) := fun o => (Below.refl _ w1).alloc (Nat.le_refl _) o
  have HM := HMO (w1.alloc (.cells #[.bool na, .slice a2 lb c2] 94)) _ (hB1.trans ((hal _).mono hB1.size)) (hB.below (hal _))
  have hB2 := hB1.trans ((hal (.cells #[.bool na, .slice a2 lb c2] 94)).mono hB1.size)
  have r2 := r1.below (hal (.cells #[.bool na, .slice a2 lb c2] 94)) hz1
  clear hB hal HMO hB1 r1
  go_wp2_with fail
  refine Calls.mono HM.out ?_
  rintro _ w2 ⟨rfl, b2⟩
  have r3 := r2.below b2 r2.lt
  have hB3 := hB2.trans (b2.mono (by have := hB2.size; simp at this ⊢; omega))
  clear b2 HM r2 hB2 d0 d1
  obtain ⟨d0, d1⟩ := r3.duo
  have hz3 := r3.lt
  rcases Int.lt_trichotomy (z.natAbs : Int) 9223372036854775808 with h | h | h
  · have hc : cI (z.natAbs : Int) 9223372036854775808 = -1 := by unfold cI; rw [if_neg (by omega), if_pos h]
    have HF : Hid (fb = true) := by
      show _ = _
      rw [← HFB.out]; unfold fitsB; rw [decide_eq_true (by omega), decide_eq_true (by omega)]; rfl
    rw [hc]
    clear hc h
    go_wp2
    go_ret
    exact ⟨by rw [HF.out]; rfl, hB3⟩
  · have hc : cI (z.natAbs : Int) 9223372036854775808 = 0 := by unfold cI; rw [if_neg (by omega), if_neg (by omega)]
    have HF : Hid (fb = na) := by
      show _ = _
      rw [← HFB.out, ← HNA.out]; unfold fitsB
      by_cases hz0 : z < 0
      · rw [decide_eq_true (by omega), decide_eq_true (by omega), decide_eq_true hz0]; rfl
      · rw [decide_eq_true (show (-9223372036854775808 : Int) ≤ z by omega), decide_eq_false (show ¬ z ≤ 9223372036854775807 by omega), decide_eq_false hz0]; rfl
    rw [hc]
    clear hc h
    go_wp2
    go_ret
    exact ⟨by rw [HF.out]; rfl, hB3⟩
  · have hc : cI (z.natAbs : Int) 9223372036854775808 = 1 := by unfold cI; rw [if_pos (by omega)]
    have HF : Hid (fb = false) := by
      show _ = _
      rw [← HFB.out]; unfold fitsB
      by_cases hz0 : z < 0
      · rw [decide_eq_false (show ¬ (-9223372036854775808 : Int) ≤ z by omega)]; rfl
      · rw [decide_eq_false (show ¬ z ≤ 9223372036854775807 by omega), Bool.and_false]
    rw [hc]
    clear hc h
    go_wp2
    go_ret
    exact ⟨by rw [HF.out]; rfl, hB3⟩
end Go.Proofs.YtgihginfegckcaaGreatDoor
/- Pure: how a number that ends on no nought is told. -/
namespace Go.Proofs.YtgihginfegckcaaGreatDoor

theorem fits_iff (z : Int) : (fitsB z = true) ↔ z.natAbs ≤ 9223372036854775807 + (decide (z < 0)).toNat := by
  unfold fitsB
  by_cases h : z < 0
  · rw [decide_eq_true h]; simp; omega
  · rw [decide_eq_false h]; simp; omega
theorem tell_low (y f : Int) (hy : y.natAbs % 10 ≠ 0) (hf : f ≤ 18) : tell y f = if fitsB y = true ∧ -18 ≤ f then some (y, f) else none := by
  unfold tell tellW
  rw [if_neg (by omega), strip_fix _ _ (.inl hy)]
  have hr : raise (y.natAbs, f) = (y.natAbs, f) := by unfold raise; rw [if_neg (by simp only; omega)]
  rw [hr]
  simp only
  have hval : (if decide (y < 0) = true then -(y.natAbs : Int) else (y.natAbs : Int)) = y := by
    by_cases h0 : y < 0
    · rw [decide_eq_true h0, if_pos rfl]; omega
    · rw [decide_eq_false h0, if_neg (by simp)]; omega
  rw [hval]
  by_cases h : y.natAbs ≤ 9223372036854775807 + (decide (y < 0)).toNat ∧ -18 ≤ f
  · rw [if_pos h, if_pos ⟨(fits_iff y).2 h.1, h.2⟩]
  · rw [if_neg h, if_neg (fun hc => h ⟨(fits_iff y).1 hc.1, hc.2⟩)]
theorem tell_high (y f : Int) (hy : y.natAbs % 10 ≠ 0) (hf : 18 < f) : tell y f = if fitsB (y * 10 ^ (f - 18).toNat) = true then some (y * 10 ^ (f - 18).toNat, 18) else none := by
  have hp : (0 : Int) < 10 ^ (f - 18).toNat := Int.pow_pos (by omega)
  have hna : (y * 10 ^ (f - 18).toNat).natAbs = y.natAbs * 10 ^ (f - 18).toNat := by rw [Int.natAbs_mul, Int.natAbs_pow]; rfl
  have hsg : (y * 10 ^ (f - 18).toNat < 0) ↔ y < 0 := by
    constructor
    · intro h
      apply Int.lt_of_not_ge
      intro hc
      have := Int.mul_nonneg hc (Int.le_of_lt hp)
      omega
    · intro h; exact Int.mul_neg_of_neg_of_pos h hp
  have hd : decide (y * 10 ^ (f - 18).toNat < 0) = decide (y < 0) := by simp only [hsg]
  unfold tell tellW
  rw [if_neg (by omega), strip_fix _ _ (.inl hy)]
  have hr : raise (y.natAbs, f) = (y.natAbs * 10 ^ (f - 18).toNat, 18) := by unfold raise; rw [if_pos (by simpa using hf)]
  rw [hr]
  simp only
  have hfi := fits_iff (y * 10 ^ (f - 18).toNat)
  rw [hna, hd] at hfi
  by_cases h : y.natAbs * 10 ^ (f - 18).toNat ≤ 9223372036854775807 + (decide (y < 0)).toNat
  · rw [if_pos ⟨h, by decide⟩, if_pos (hfi.2 h)]
    congr 2
    by_cases h0 : y < 0
    · rw [decide_eq_true h0, if_pos rfl, ← hna]
      have := hsg.2 h0
      omega
    · rw [decide_eq_false h0, if_neg (by simp), ← hna]
      have : ¬ y * 10 ^ (f - 18).toNat < 0 := fun hc => h0 (hsg.1 hc)
      omega
  · rw [if_neg (fun hc => h hc.1), if_neg (fun hc => h (hfi.1 hc))]
theorem digs_ge (n k : Nat) (h : k + 1 ≤ (digs n).length) : 10 ^ k ≤ n := by
  apply Nat.le_of_not_lt
  intro hc
  have := digs_len n k hc
  omega
/-- A number whose digits are many can't be told. -/
theorem tell_many (y f : Int) (k : Nat) (hy : y.natAbs % 10 ≠ 0) (hk : 18 + (k : Int) < f) (hl : 30 ≤ (digs (y * 10 ^ k).natAbs).length) : tell y f = none := by
  rw [tell_high y f hy (by omega), if_neg]
  intro hc
  have h1 := (fits_iff _).1 hc
  have h2 := digs_ge _ 29 hl
  rw [Int.natAbs_mul, Int.natAbs_pow] at h1 h2
  have h3 : 10 ^ k ≤ 10 ^ (f - 18).toNat := Nat.pow_le_pow_right (by decide) (by omega)
  have h4 := Nat.mul_le_mul_left y.natAbs h3
  have h5 : (decide (y * 10 ^ (f - 18).toNat < 0)).toNat ≤ 1 := Bool.toNat_le _
  rw [show (10 : Int).natAbs = 10 from rfl] at h1 h2
  have : (10 : Nat) ^ 29 = 100000000000000000000000000000 := by decide
  omega
theorem tell_far (y f : Int) (hy : y ≠ 0) (hf : 60 < f) : tell y f = none := by
  obtain ⟨k, h1, h2, h3, h4, h5⟩ := strip_spec y.natAbs f (by omega)
  have h6 : k = 0 := by omega
  subst h6
  unfold tell tellW
  rw [if_neg (by omega), if_neg]
  rintro ⟨ha, -⟩
  have hs : strip y.natAbs f = (y.natAbs, f) := strip_fix _ _ (.inr (by omega))
  rw [hs] at ha
  unfold raise at ha
  rw [if_pos (by simp only; omega)] at ha
  simp only at ha
  have hp : 10 ^ 40 ≤ 10 ^ (f - 18).toNat := Nat.pow_le_pow_right (by decide) (by omega)
  have h7 : 1 * 10 ^ 40 ≤ y.natAbs * 10 ^ (f - 18).toNat := Nat.mul_le_mul (by omega) hp
  have h8 : (decide (y < 0)).toNat ≤ 1 := Bool.toNat_le _
  have : (10 : Nat) ^ 40 = 10000000000000000000000000000000000000000 := by decide
  omega
end Go.Proofs.YtgihginfegckcaaGreatDoor
/- Tell: how the document tells a number. -/
namespace Go.Proofs.YtgihginfegckcaaGreatDoor
open Go.RowKit

theorem digs_pos_len {n : Nat} (h : n ≠ 0) : 1 ≤ (digs n).length := by rw [digs_pos n h]; simp
/-- What stays of a Tell's boxes. -/
structure TlAt (w : World) (K : Nat) (y : Int) (sv : Value) (wr : World) : Prop where
  res : Row wr (w.heap.size + 1) 30 #[.int .i64 0, .int .i64 0]
  big : Row wr K 94 #[.bool (decide (y < 0)), sv]
  dg : DgAt wr sv (digs y.natAbs)
  below : Below w.heap.size w wr
theorem TlAt.mono {w wr wx : World} {K : Nat} {y : Int} {sv : Value} (h : TlAt w K y sv wr) (hb : Below wr.heap.size wr wx) : TlAt w K y sv wx :=
  ⟨h.res.below hb h.res.lt, h.big.below hb h.big.lt, h.dg.below hb, h.below.trans (hb.mono h.below.size)⟩
/-- Another number is put into the box. -/
theorem TlAt.put {w wr wx : World} {K : Nat} {y y' : Int} {sv : Value} {a a' : Option Addr} {n c n' c' : Nat} (h : TlAt w K y sv wr) (hsv : sv = .slice a n c) (hK : w.heap.size + 1 < K) (hb : Below wr.heap.size wr wx) (hD : DgAt wx (.slice a' n' c') (digs y'.natAbs)) (ng : Bool) (hng : decide (y' < 0) = ng) :
    TlAt w K y' (.slice a' n' c') ((wx.setCell ⟨K, 0, none⟩ (.bool ng)).setCell ⟨K, 1, none⟩ (.slice a' n' c')) := by
  have h2 := h.mono hb
  have hbig := h2.big
  rw [hsv] at hbig
  refine ⟨(h2.res.off 0 _ (by omega)).off 1 _ (by omega), ?_, hD.store hbig _ _, below_set (below_set h2.below 0 _ (by omega)) 1 _ (by omega)⟩
  rw [hng]
  exact Row.set2 hbig _ _
/-- The digits without the first. -/
theorem DgAt.tail {W : World} {a : Option Addr} {n c : Nat} {d : Int} {ds : List Int} (h : DgAt W (.slice a n c) (d :: ds)) :
    ∃ a', (∀ V, (Instr.sliceAt 92 (.slice a n c) (some (.int .i64 1)) none none).run Tryz.prog V = .ok (.slice a' (n - 1) (c - 1)) V) ∧ n = ds.length + 1 ∧ ∀ V, Below W.heap.size W V → DgAt V (.slice a' (n - 1) (c - 1)) ds := by
  obtain ⟨hI, a0, c0, he, hc, hn⟩ := h
  simp only [Value.slice.injEq, List.length_cons] at he
  obtain ⟨rfl, rfl, rfl⟩ := he
  rcases hI with ⟨h0, _⟩ | ⟨b, off, c', he, hb, hcell⟩
  · cases h0
  · simp only [Value.slice.injEq, List.length_cons, true_and] at he
    obtain ⟨rfl, rfl⟩ := he
    rw [List.length_cons] at hc
    refine ⟨if c = 1 then some ⟨b, off, none⟩ else some ⟨b, off + 1, none⟩, fun V => ?_, rfl, fun V hV => ?_⟩
    · have h1 : (1 : Int) ≤ ((ds.length + 1 : Nat) : Int) := by omega
      by_cases hc1 : c = 1
      · subst hc1
        rw [if_pos rfl]
        go_simp
        omega
      · rw [if_neg hc1]
        go_simp
        intro h
        omega
    · have hk := Kept.of_below (S := fun k => k < W.heap.size) hV (fun _ h => h)
      refine ⟨?_, _, _, rfl, by show ds.length ≤ c - 1; omega, fun h => by split at h <;> cases h⟩
      by_cases h0 : ds = []
      · subst h0; exact .inl ⟨rfl, _, _, rfl⟩
      · have hl : 0 < ds.length := List.length_pos_iff.2 h0
        rw [if_neg (by omega)]
        refine .inr ⟨b, off + 1, c - 1, by simp, Nat.lt_of_lt_of_le hb hV.size, fun j hj => ?_⟩
        have := hcell (j + 1) (by rw [List.length_cons]; omega)
        rw [hk.cell (p := ⟨b, off + 1 + j, none⟩) hb, show off + 1 + j = off + (j + 1) by omega, this]
        rfl
theorem tell_fin (y f : Int) (k : Nat) (hy : y.natAbs % 10 ≠ 0) (hk : k = 0 ∨ 18 ≤ f - k) (hg : f - k ≤ 18) : tell y f = if fitsB (y * 10 ^ k) = true ∧ -18 ≤ f - k then some (y * 10 ^ k, f - k) else none := by
  by_cases h0 : k = 0
  · subst h0
    rw [tell_low y f hy (by omega)]
    simp
  · have h1 : f - (k : Int) = 18 := by omega
    rw [tell_high y f hy (by omega), show (f - 18).toNat = k by omega, h1]
    by_cases hf : fitsB (y * 10 ^ k) = true
    · rw [if_pos hf, if_pos ⟨hf, by decide⟩]
    · rw [if_neg hf, if_neg (fun h => hf h.1)]
theorem dval_drop_le {ds : List Int} (h : DgL ds) (m : Nat) : 0 ≤ dval (ds.drop m) ∧ dval (ds.drop m) ≤ dval ds := by
  have h1 := dval_nonneg (fun d hd => h d (List.mem_of_mem_drop hd) : DgL (ds.drop m))
  refine ⟨h1, ?_⟩
  have h2 := dval_nonneg (fun d hd => h d (List.mem_of_mem_take hd) : DgL (ds.take m))
  have e := dval_append (ds.take m) (ds.drop m)
  rw [List.take_append_drop] at e
  have hp := pow10_pos (ds.take m).length
  have : 1 * dval (ds.drop m) ≤ 10 ^ (ds.take m).length * dval (ds.drop m) := Int.mul_le_mul_of_nonneg_right (by omega) h1
  omega
theorem dval_drop (ds : List Int) (m : Nat) (h : m < ds.length) : dval (ds.drop m) = ds[m]?.getD 0 + 10 * dval (ds.drop (m + 1)) := by
  rw [List.drop_eq_getElem_cons h, List.getElem?_eq_getElem h]; rfl
set_option maxRecDepth 100000 in
set_option maxHeartbeats 4000000 in
theorem tell_head (z e : Int) (sv : Value) (w : World) (hz : z ≠ 0) (hD : DgAt w sv (digs z.natAbs)) (v : Value)
    (HV : Hid (v = decV (tell z e)))
    (he1 : -2000 ≤ e) (he2 : e ≤ 2000) (hl : (digs z.natAbs).length ≤ 500) :
    Calls Tryz.prog 63 #[.agg #[.bool (decide (z < 0)), sv, .int .i64 e]] w fun r w' => r = .returned v ∧ Below w.heap.size w w' := by
  obtain ⟨ng, HNG⟩ : ∃ ng, Hid (decide (z < 0) = ng) := ⟨_, rfl⟩
  rw [HNG.out]
  have hL1 := digs_pos_len (show z.natAbs ≠ 0 by omega)
  obtain ⟨_, a, c, rfl, _, _⟩ := id hD
  obtain ⟨L, HL⟩ : ∃ L, Hid ((digs z.natAbs).length = L) := ⟨_, rfl⟩
  rw [HL.out] at hD hL1 hl
  rw [HL.out]
  have HD : Hid (DgAt w (.slice a L c) (digs z.natAbs)) := hD
  have gL : ((L : Int) == 0) = false := by simp only [beq_eq_false_iff_ne]; omega
  clear hD
  go_enter Tryz.func63, Tryz.ntmps63
  go_wp2_with fail
  have r0 := (Row.new w 96 #[.bool ng, .slice a L c, .int .i64 e]).alloc (.cells #[.int .i64 0, .int .i64 0] 30)
  have r1 := Row.new1 w (.cells #[.bool ng, .slice a L c, .int .i64 e] 96) 30 #[.int .i64 0, .int .i64 0]
  have hB := ((Below.refl _ w).alloc (Nat.le_refl _) (.cells #[.bool ng, .slice a L c, .int .i64 e] 96)).alloc (by simp) (.cells #[.int .i64 0, .int .i64 0] 30)
  have hWs : ((w.alloc (.cells #[.bool ng, .slice a L c, .int .i64 e] 96)).alloc (.cells #[.int .i64 0, .int .i64 0] 30)).heap.size = w.heap.size + 2 := by simp
  generalize (w.alloc (.cells #[.bool ng, .slice a L c, .int .i64 e] 96)).alloc (.cells #[.int .i64 0, .int .i64 0] 30) = W at *
  have HWs : Hid (W.heap.size = w.heap.size + 2) := hWs
  clear hWs
  have hS : Below W.heap.size W W.drew := (Below.refl _ W).drew
  have tri : ∀ wx, Below W.heap.size W wx → wx.cell? ⟨w.heap.size, 0, none⟩ = some (.bool ng) ∧ wx.cell? ⟨w.heap.size, 1, none⟩ = some (.slice a L c) ∧ wx.cell? ⟨w.heap.size, 2, none⟩ = some (.int .i64 e) := fun wx hx =>
    ⟨(r0.below hx r0.lt).cell rfl, (r0.below hx r0.lt).cell rfl, (r0.below hx r0.lt).cell rfl⟩
  refine wp_region_M (fun wx : World => Below W.heap.size W wx) (fun j => decide (j < 7)) 7 rfl (by kernel_rfl) ?_
  refine wpM_held 0 (v := ?_) rfl (by kernel_rfl) (by kernel_rfl) rfl (fun _ _ _ h => h) rfl (by intro wx hx; go_simp <;> rfl) hS ?_
  refine wpM_held 1 (v := .agg #[.bool ng, .slice a L c]) rfl (by kernel_rfl) (by kernel_rfl) rfl (fun _ _ _ h => h) rfl (by intro wx hx; obtain ⟨x0, x1, x2⟩ := tri wx hx; go_simp <;> rfl) hS ?_
  refine wpM_held 2 (v := ?_) rfl (by kernel_rfl) (by kernel_rfl) rfl (fun _ _ _ h => h) rfl (by intro wx hx; go_simp <;> rfl) hS ?_
  refine wpM_held 3 (v := .int .i64 e) rfl (by kernel_rfl) (by kernel_rfl) rfl (fun _ _ _ h => h) rfl (by intro wx hx; obtain ⟨x0, x1, x2⟩ := tri wx hx; go_simp <;> rfl) hS ?_
  refine wpM_one 4 rfl (by kernel_rfl) rfl ?_
  go_wp2_with fail
  have hW1 : ∀ o, Below W.heap.size W (W.alloc o).drew := fun o => ((Below.refl _ W).alloc (Nat.le_refl _) o).drew
  refine ⟨fun _ => hW1 _, ?_⟩
  refine wpM_one 5 rfl (by kernel_rfl) rfl ?_
  go_wp2_with fail
  refine ⟨fun _ => hW1 _, ?_⟩
  refine wpM_one 6 rfl (by kernel_rfl) rfl ?_
  go_wp2_with fail
  refine ⟨fun _ => hW1 _, ?_⟩
  refine wpM_done (by kernel_rfl) ?_
  have hT : TlAt w W.heap.size z (.slice a L c) (W.alloc (.cells #[.bool ng, .slice a L c] 94)).drew := by
    have hx := hW1 (.cells #[.bool ng, .slice a L c] 94)
    refine ⟨r1.below hx r1.lt, ?_, (HD.out.below hB).below hx, hB.trans (hx.mono (by have := HWs.out; omega))⟩
    rw [HNG.out]
    exact Row.new W 94 _
  generalize (W.alloc (.cells #[.bool ng, .slice a L c] 94)).drew = W2 at *
  clear r0 r1 hB hS tri HD hW1
  have hK : w.heap.size + 1 < W.heap.size := by have := HWs.out; omega
  clear HWs
  generalize W.heap.size = K at *
  clear W
  have hbig := hT.big
  rw [HNG.out] at hbig
  obtain ⟨d0, d1⟩ := hbig.duo
  obtain ⟨f0, f1⟩ := hT.res.duo
  have ff := hT.res.frozen
  have hlt1 := hT.res.lt
  by_cases h60 : 60 < e
  · have HVN : Hid (v = .tuple #[.agg #[.int .i64 0, .int .i64 0], .int .i64 30]) := by
      show _ = _
      rw [HV.out, tell_far z e hz h60]; rfl
    have hZe := Row.set2 hT.res (.int .i64 0) (.int .i64 0)
    have hBe := below_set (below_set hT.below (B := w.heap.size + 1) 0 (.int .i64 0) (by omega)) (B := w.heap.size + 1) 1 (.int .i64 0) (by omega)
    clear HV
    go_wp2
    exact bodyPost_ret (ret_two rfl (g := w.heap.size + 1) rfl rfl (load30 hZe rfl)) rfl ⟨by rw [HVN.out]; rfl, hBe⟩
  · have g60 : decide (60 < e) = false := decide_eq_false h60
    clear h60
    go_wp2
    clear d0 d1 f0 f1 ff hlt1 hbig
    go_loopw [5] (fun v5 wr => ∃ (y f : Int) (a : Option Addr) (n c : Nat), v5 = .int .i64 f ∧ TlAt w K y (.slice a n c) wr ∧ Hid (y ≠ 0 ∧ tell y f = tell z e ∧ (digs y.natAbs).length = n ∧ f + n ≤ e + L) ∧ -2000 ≤ f ∧ f ≤ 4000 ∧ n ≤ 500) (fun v5 _ => (5000 - intOf v5).toNat)
    case atStart => exact ⟨z, e, a, L, c, rfl, hT, ⟨hz, rfl, HL.out, Int.le_refl _⟩, he1, by omega, hl⟩
    case round =>
      obtain ⟨y, f, a1, n, c1, rfl, hT1, HY, hf1, hf2, hn200⟩ := hrel
      clear hT
      obtain ⟨ny, HNY⟩ : ∃ ny, Hid (decide (y < 0) = ny) := ⟨_, rfl⟩
      have hbig := hT1.big
      rw [HNY.out] at hbig
      obtain ⟨d0, d1⟩ := hbig.duo
      have hy0 := HY.out.1
      have hdg := hT1.dg
      have hds := digs_pos y.natAbs (show y.natAbs ≠ 0 by omega)
      rw [hds] at hdg
      obtain ⟨a2, hsl, hn, htl⟩ := hdg.tail
      obtain ⟨bb, off, hab, _, hc0⟩ := hdg.1.at 0 (by simp)
      subst hab
      obtain ⟨d, hd⟩ : ∃ d, y.natAbs % 10 = d := ⟨_, rfl⟩
      simp only [List.getElem?_cons_zero, Option.getD_some, Nat.add_zero] at hc0
      rw [hd] at hc0 hds
      have gn : (0 : Int) < (n : Int) := by omega
      have HN : Hid (n = (digs (y.natAbs / 10)).length + 1) := hn
      have HTL : Hid (∀ V, Below wr.heap.size wr V → DgAt V (.slice a2 (n - 1) (c1 - 1)) (digs (y.natAbs / 10))) := htl
      have HD9 : Hid (y.natAbs % 10 = d) := hd
      clear hn htl hd hdg hds
      by_cases h0 : d = 0
      · subst h0
        obtain ⟨y', hy'⟩ : ∃ y', bval ny (digs (y.natAbs / 10)) = y' := ⟨_, rfl⟩
        have hyq : y = y' * 10 := by
          rw [← hy']
          unfold bval
          rw [dval_digs, ← HNY.out]
          have h9 := HD9.out
          by_cases hs : y < 0
          · rw [decide_eq_true hs, if_pos rfl]; omega
          · rw [decide_eq_false hs, if_neg (by simp)]; omega
        have hln : (digs y'.natAbs).length = n - 1 := by rw [show y'.natAbs = y.natAbs / 10 by omega, HN.out]; omega
        have hn1 := digs_pos_len (show y'.natAbs ≠ 0 by omega)
        have HY2 : Hid (y' ≠ 0 ∧ tell y' (f + 1) = tell z e ∧ (digs y'.natAbs).length = n - 1 ∧ f + 1 + ((n - 1 : Nat) : Int) ≤ e + L) := by
          obtain ⟨i1, i2, i3, i4⟩ := HY.out
          refine ⟨by omega, ?_, hln, by omega⟩
          rw [← i2, hyq]
          have := tell_pow y' (f + 1) 1
          rw [show f + 1 - ((1 : Nat) : Int) = f by omega, Int.pow_succ, Int.pow_zero, Int.one_mul] at this
          exact this.symm
        have hf3 : f + 1 ≤ 4000 := by have := HY.out.2.2.2; omega
        have HNY2 : Hid (decide (y' < 0) = ny) := by
          show _ = _
          rw [← HNY.out]
          by_cases hs : y < 0
          · rw [decide_eq_true hs, decide_eq_true (by omega)]
          · rw [decide_eq_false hs, decide_eq_false (by omega)]
        have HTR : ∀ V, Below wr.heap.size wr V → Hid (Calls Tryz.prog 62 #[.agg #[.bool ny, .slice a2 (n - 1) (c1 - 1)]] V fun r w' => ∃ v', r = .returned v' ∧ BigV w' y' v' ∧ Below V.heap.size V w') := fun V h => by
          have := trim_any ny _ _ V (HTL.out V h) (digs_dg _) (by have := HN.out; omega)
          rw [hy'] at this
          exact this
        have HT1 : Hid (TlAt w K y (.slice (some ⟨bb, off, none⟩) n c1) wr) := hT1
        have hg0 : (1 : Int) ≤ (n : Int) := by omega
        clear hyq hy' hy0 hT1 HV
        go_wp2_with fail
        have hS : Below wr.heap.size wr wr.drew := (Below.refl _ wr).drew
        have duo : ∀ wx, Below wr.heap.size wr wx → wx.cell? ⟨K, 0, none⟩ = some (.bool ny) ∧ wx.cell? ⟨K, 1, none⟩ = some (.slice (some ⟨bb, off, none⟩) n c1) := fun wx hx => (hbig.below hx hbig.lt).duo
        have keyS : ∀ wx x, x = Value.slice (some ⟨bb, off, none⟩) n c1 → (((Instr.sliceAt 92 x (some (.int .i64 1)) none none).run Tryz.prog wx).andThen fun a w' => Result.ok (Next.value a) w') = Result.ok (Next.value (.slice a2 (n - 1) (c1 - 1))) wx := by
          rintro wx _ rfl; rw [hsl wx]; rfl
        refine wp_region_M (fun wx : World => Below wr.heap.size wr wx) (fun j => decide (j < 7)) 8 rfl (by kernel_rfl) ?_
        refine wpM_held 0 (v := ?_) rfl (by kernel_rfl) (by kernel_rfl) rfl (fun _ _ _ h => h) rfl (by intro wx hx; go_simp <;> rfl) hS ?_
        refine wpM_held 1 (v := .bool ny) rfl (by kernel_rfl) (by kernel_rfl) rfl (fun _ _ _ h => h) rfl (by intro wx hx; obtain ⟨x0, x1⟩ := duo wx hx; go_simp <;> rfl) hS ?_
        refine wpM_held 2 (v := ?_) rfl (by kernel_rfl) (by kernel_rfl) rfl (fun _ _ _ h => h) rfl (by intro wx hx; go_simp <;> rfl) hS ?_
        refine wpM_held 3 (v := .slice (some ⟨bb, off, none⟩) n c1) rfl (by kernel_rfl) (by kernel_rfl) rfl (fun _ _ _ h => h) rfl (by intro wx hx; obtain ⟨x0, x1⟩ := duo wx hx; go_simp <;> rfl) hS ?_
        refine wpM_held 4 (v := .slice a2 (n - 1) (c1 - 1)) rfl (by kernel_rfl) (by kernel_rfl) rfl (fun _ _ _ h => h) rfl (by intro wx hx; simp [execOp, Act.eval]; exact keyS wx _ rfl) hS ?_
        refine wpM_one 5 rfl (by kernel_rfl) rfl ?_
        go_wp2_with fail
        refine ⟨fun _ => hS, ?_⟩
        refine wpM_one 6 rfl (by kernel_rfl) rfl ?_
        go_wp2_with fail
        refine Calls.mono (HTR _ hS).out ?_
        rintro _ wb ⟨v2, rfl, hV2, b2⟩
        obtain ⟨s2, rfl, hD2⟩ := hV2
        obtain ⟨_, a6, c6, rfl, _, _⟩ := id hD2
        have hW3 : Below wr.heap.size wr wb := hS.trans (b2.mono hS.size)
        clear b2 HTR hS
        unfold bv
        rw [HNY2.out]
        rw [HY2.out.2.2.1] at hD2
        rw [HY2.out.2.2.1]
        go_wp2_with fail
        refine ⟨fun _ => hW3, ?_⟩
        have p2 := hbig.below hW3 hbig.lt
        obtain ⟨y0, y1⟩ := p2.duo
        have zf := p2.frozen
        have hT2 := HT1.out.put rfl hK hW3 hD2 ny HNY2.out
        refine wpM_one 7 rfl (by kernel_rfl) rfl ?_
        go_wp2_with fail
        refine ⟨fun h => by simp at h, ?_⟩
        refine wpM_done (by kernel_rfl) ?_
        go_wp2
        go_roundw
        case rel => exact ⟨y', f + 1, a6, n - 1, c6, by go_num, hT2, HY2, by omega, hf3, by omega⟩
        case measure => simp [intOf]; omega
      · have gd : ((d : Int) == 0) = false := by simp only [beq_eq_false_iff_ne]; omega
        have HYD : Hid (y.natAbs % 10 ≠ 0 ∧ tell y f = tell z e) := ⟨by rw [HD9.out]; exact h0, HY.out.2.1⟩
        have HY0 : Hid (y ≠ 0) := hy0
        have HNN : Hid ((digs y.natAbs).length = n) := HY.out.2.2.1
        have HT1 : Hid (TlAt w K y (.slice (some ⟨bb, off, none⟩) n c1) wr) := hT1
        clear h0 HY HD9 HTL HN hsl hT1 hy0
        go_wp2
        clear d0 d1 hc0 hbig gd
        go_loopw [5] (fun v5 wx => ∃ (k : Nat) (a : Option Addr) (n c : Nat), v5 = .int .i64 (f - (k : Int)) ∧ Hid (TlAt w K (y * 10 ^ k) (.slice a n c) wx) ∧ Hid ((digs (y * 10 ^ k).natAbs).length = n ∧ (k = 0 ∨ 18 ≤ f - (k : Int))) ∧ n ≤ 500 ∧ -2000 ≤ f - (k : Int) ∧ (k : Int) ≤ 6000) (fun v5 _ => (intOf v5 + 600).toNat)
        case atStart => exact ⟨0, _, n, c1, by simp, by show TlAt _ _ _ _ _; simpa using HT1.out, by show _ ∧ _; exact ⟨by simpa using HNN.out, .inl rfl⟩, hn200, by simpa using hf1, by omega⟩
        case round =>
          obtain ⟨k, a5, n5, c5, rfl, HT5, HN5, hn5, hk1, hk2⟩ := hrel
          clear HT1 HNN
          obtain ⟨x, hx⟩ : ∃ x, y * 10 ^ k = x := ⟨_, rfl⟩
          rw [hx] at HT5 HN5
          obtain ⟨nx, HNX⟩ : ∃ nx, Hid (decide (x < 0) = nx) := ⟨_, rfl⟩
          obtain ⟨g, hg⟩ : ∃ g, f - (k : Int) = g := ⟨_, rfl⟩
          have hbig := HT5.out.big
          rw [HNX.out] at hbig
          obtain ⟨d0, d1⟩ := hbig.duo
          have hres := HT5.out.res
          obtain ⟨e0, e1⟩ := hres.duo
          have hlK := hbig.lt
          have hlR := hres.lt
          have ff := hres.frozen
          have HG : Hid (f - (k : Int) = g) := hg
          have HX : Hid (y * 10 ^ k = x) := hx
          have hgu : g ≤ 4000 := by omega
          rw [hg] at hk1 ⊢
          clear hx hg
          by_cases hc : 18 < g
          · by_cases hn30 : n5 < 30
            · have g2 : (n5 : Int) < 30 := by omega
              have HSH : ∀ V, Below wr.heap.size wr V → Hid (Calls Tryz.prog 98 #[.agg #[.bool nx, .slice a5 n5 c5], .int .i64 1] V fun r w' => ∃ v', r = .returned v' ∧ BigV w' (x * 10 ^ 1) v' ∧ Below V.heap.size V w') := fun V h => by
                have := shift_any x (bv (decide (x < 0)) (.slice a5 n5 c5)) 1 V ⟨_, rfl, HT5.out.dg.below h⟩ (by omega) (by rw [HN5.out.1]; omega)
                rw [HNX.out] at this
                exact this
              have hx1 : y * 10 ^ (k + 1) = x * 10 ^ 1 := by rw [← HX.out, Int.pow_succ, Int.pow_succ, Int.pow_zero, Int.one_mul, Int.mul_assoc]
              have HX1 : Hid (y * 10 ^ (k + 1) = x * 10 ^ 1) := hx1
              obtain ⟨n6, hn6e⟩ : ∃ n6, (digs (x * 10 ^ 1).natAbs).length = n6 := ⟨_, rfl⟩
              have HN6 : Hid ((digs (x * 10 ^ 1).natAbs).length = n6) := hn6e
              clear hn6e
              have hn6 : n6 ≤ 500 := by
                rw [← HN6.out]
                refine Nat.le_trans (digs_len _ 31 ?_) (by omega)
                have h1 := HN5.out.1
                have h2 : x.natAbs < 10 ^ 30 := by
                  have := dval_lt (digs_dg x.natAbs)
                  rw [dval_digs, h1] at this
                  have h3 : (10 : Nat) ^ n5 ≤ 10 ^ 30 := Nat.pow_le_pow_right (by decide) (by omega)
                  have h4 : (x.natAbs : Int) < ((10 ^ n5 : Nat) : Int) := by rw [Int.natCast_pow]; exact this
                  omega
                rw [Int.natAbs_mul]
                have : ((10 : Int) ^ 1).natAbs = 10 := rfl
                rw [this, Nat.pow_succ]
                omega
              obtain ⟨nz, hnz⟩ : ∃ nz, decide (x * 10 ^ 1 < 0) = nz := ⟨_, rfl⟩
              have HNZ : Hid (decide (x * 10 ^ 1 < 0) = nz) := hnz
              clear hnz
              clear hx1 hn30 HV e0 e1 ff
              go_wp2_with fail
              refine Calls.mono (HSH _ (Below.refl _ _)).out ?_
              rintro _ wb ⟨v2, rfl, hV2, b2⟩
              obtain ⟨s2, rfl, hD2⟩ := hV2
              obtain ⟨_, a6, c6, rfl, _, _⟩ := id hD2
              unfold bv
              rw [HNZ.out]
              rw [HN6.out] at hD2
              rw [HN6.out]
              have p2 := hbig.below b2 hbig.lt
              clear d0 d1
              obtain ⟨y0, y1⟩ := p2.duo
              have zf := p2.frozen
              have hlb := p2.lt
              have hT6 := HT5.out.put rfl hK b2 hD2 nz HNZ.out
              have HT6 : Hid (TlAt w K (y * 10 ^ (k + 1)) (.slice a6 n6 c6) ((wb.setCell ⟨K, 0, none⟩ (.bool nz)).setCell ⟨K, 1, none⟩ (.slice a6 n6 c6))) := by show TlAt _ _ _ _ _; rw [HX1.out]; exact hT6
              have HN7 : Hid ((digs (y * 10 ^ (k + 1)).natAbs).length = n6 ∧ (k + 1 = 0 ∨ 18 ≤ f - ((k + 1 : Nat) : Int))) := by
                show _ ∧ _
                rw [HX1.out]
                exact ⟨HN6.out, .inr (by have := HG.out; omega)⟩
              have HG2 : Hid (f - ((k + 1 : Nat) : Int) = g - 1) := by show _ = _; have := HG.out; omega
              clear b2 hT6 HSH HT5 p2
              go_wp2
              go_roundw
              case rel => exact ⟨k + 1, a6, n6, c6, by rw [HG2.out], HT6, HN7, hn6, by rw [HG2.out]; omega, by have := HG.out; omega⟩
              case measure => simp [intOf]; omega
            · have g2 : decide ((n5 : Int) < 30) = false := decide_eq_false (by omega)
              have g3 : decide (n5 < 30) = false := decide_eq_false hn30
              have HMA : Hid (tell y f = none) := tell_many y f k HYD.out.1 (by have := HG.out; omega) (by rw [HX.out, HN5.out.1]; omega)
              have HVN : Hid (v = .tuple #[.agg #[.int .i64 0, .int .i64 0], .int .i64 30]) := by
                show _ = _
                rw [HV.out, ← HYD.out.2, HMA.out]; rfl
              have hZe := Row.set2 hres (.int .i64 0) (.int .i64 0)
              have hBe := below_set (below_set HT5.out.below (B := w.heap.size + 1) 0 (.int .i64 0) (by omega)) (B := w.heap.size + 1) 1 (.int .i64 0) (by omega)
              clear HV HT5
              go_wp2
              exact bodyPost_ret (ret_two rfl (g := w.heap.size + 1) rfl rfl (load30 hZe rfl)) rfl ⟨by rw [HVN.out]; rfl, hBe⟩
          · have g1 : decide (18 < g) = false := decide_eq_false hc
            have hfin := tell_fin y f k HYD.out.1 HN5.out.2 (by have := HG.out; omega)
            rw [HX.out, HG.out] at hfin
            have HFI : Hid (tell y f = if fitsB x = true ∧ -18 ≤ g then some (x, g) else none) := hfin
            clear hfin
            by_cases hlow : g < -18
            · have HMA : Hid (tell y f = none) := by show _ = _; rw [HFI.out, if_neg (by omega)]
              have HVN : Hid (v = .tuple #[.agg #[.int .i64 0, .int .i64 0], .int .i64 30]) := by
                show _ = _
                rw [HV.out, ← HYD.out.2, HMA.out]; rfl
              have hZe := Row.set2 hres (.int .i64 0) (.int .i64 0)
              have hBe := below_set (below_set HT5.out.below (B := w.heap.size + 1) 0 (.int .i64 0) (by omega)) (B := w.heap.size + 1) 1 (.int .i64 0) (by omega)
              clear HV HT5
              go_wp2
              exact bodyPost_ret (ret_two rfl (g := w.heap.size + 1) rfl rfl (load30 hZe rfl)) rfl ⟨by rw [HVN.out]; rfl, hBe⟩
            · have g2 : decide (g < -18) = false := decide_eq_false hlow
              have HFT : Hid (Calls Tryz.prog 99 #[.agg #[.bool nx, .slice a5 n5 c5]] wr fun r w' => r = .returned (.bool (fitsB x)) ∧ Below wr.heap.size wr w') := by
                have := fits_any x (bv (decide (x < 0)) (.slice a5 n5 c5)) wr ⟨_, rfl, HT5.out.dg⟩ (by rw [HN5.out.1]; omega)
                rw [HNX.out] at this
                exact this
              obtain ⟨fb, HFB⟩ : ∃ fb, Hid (fitsB x = fb) := ⟨_, rfl⟩
              rw [HFB.out] at HFT
              go_wp2_with fail
              refine Calls.mono HFT.out ?_
              rintro _ wb ⟨rfl, b2⟩
              have HT6 : Hid (TlAt w K x (.slice a5 n5 c5) wb) := HT5.out.mono b2
              have hres := HT6.out.res
              have hbig := HT6.out.big
              rw [HNX.out] at hbig
              clear d0 d1 e0 e1 ff hlR hlK b2 HFT HT5
              obtain ⟨d0, d1⟩ := hbig.duo
              obtain ⟨e0, e1⟩ := hres.duo
              have ff := hres.frozen
              have hlR := hres.lt
              cases fb
              · have HMA : Hid (tell y f = none) := by show _ = _; rw [HFI.out, if_neg (by rw [HFB.out]; simp)]
                have HVN : Hid (v = .tuple #[.agg #[.int .i64 0, .int .i64 0], .int .i64 30]) := by
                  show _ = _
                  rw [HV.out, ← HYD.out.2, HMA.out]; rfl
                have hZe := Row.set2 hres (.int .i64 0) (.int .i64 0)
                have hBe := below_set (below_set HT6.out.below (B := w.heap.size + 1) 0 (.int .i64 0) (by omega)) (B := w.heap.size + 1) 1 (.int .i64 0) (by omega)
                clear HV HT6
                go_wp2
                exact bodyPost_ret (ret_two rfl (g := w.heap.size + 1) rfl rfl (load30 hZe rfl)) rfl ⟨by rw [HVN.out]; rfl, hBe⟩
              · have HVS : Hid (v = .tuple #[.agg #[.int .i64 x, .int .i64 g], .int .i64 0]) := by
                  show _ = _
                  rw [HV.out, ← HYD.out.2, HFI.out, if_pos ⟨HFB.out, by omega⟩]; rfl
                have HXB : Hid (-9223372036854775808 ≤ x ∧ x ≤ 9223372036854775807) := by
                  have := HFB.out
                  unfold fitsB at this
                  simp at this
                  exact this
                clear HV HYD HFI HX HG
                cases nx
                · go_wp2
                  clear d0 d1 e0 e1 ff hlR hres hbig
                  go_loopw [6, 7] (fun v6 v7 wx => ∃ (m : Nat) (c : Int), m ≤ n5 ∧ v7 = .int .i64 ((m : Int) - 1) ∧ v6 = .int .i64 c ∧ Hid (c = bval false ((digs x.natAbs).drop m)) ∧ Hid (TlAt w K x (.slice a5 n5 c5) wx)) (fun _ v7 _ => (intOf v7 + 1).toNat)
                  case atStart => exact ⟨n5, 0, Nat.le_refl _, by first | rfl | go_num, rfl, by show _ = _; rw [List.drop_of_length_le (by rw [HN5.out.1]; exact Nat.le_refl _)]; rfl, HT6⟩
                  case round =>
                  obtain ⟨m, c7, hm, rfl, rfl, HC, HT8⟩ := hrel
                  clear HT6
                  have hres := HT8.out.res
                  have hbig := HT8.out.big
                  rw [HNX.out] at hbig
                  obtain ⟨d0, d1⟩ := hbig.duo
                  obtain ⟨e0, e1⟩ := hres.duo
                  have ff := hres.frozen
                  have hlR := hres.lt
                  by_cases hm0 : m = 0
                  · subst hm0
                    have hcx : c7 = x := by
                      have h1 := HC.out
                      rw [List.drop_zero] at h1
                      rw [h1]
                      have h2 := HNX.out
                      unfold bval
                      rw [dval_digs]
                      simp at h2 ⊢
                      omega
                    have HCX : Hid (c7 = x) := hcx
                    have hZe := Row.set2 hres (.int .i64 c7) (.int .i64 g)
                    have hBe := below_set (below_set HT8.out.below (B := w.heap.size + 1) 0 (.int .i64 c7) (by omega)) (B := w.heap.size + 1) 1 (.int .i64 g) (by omega)
                    clear HT8 hcx
                    go_wp2
                    exact bodyPost_ret (ret_two rfl (g := w.heap.size + 1) rfl rfl (load30 hZe rfl)) rfl ⟨by rw [HVS.out, ← HCX.out]; rfl, hBe⟩
                  · obtain ⟨i, hi⟩ : ∃ i, m = i + 1 := ⟨m - 1, by omega⟩
                    have hki : (m : Int) - 1 = (i : Int) := by omega
                    have HMI : Hid (m = i + 1) := hi
                    have hin : (i : Int) < (n5 : Int) := by omega
                    obtain ⟨b5, off5, hab, _, hci⟩ := HT8.out.dg.1.at i (by rw [HN5.out.1]; omega)
                    subst hab
                    obtain ⟨d7, hd7⟩ : ∃ d7, (digs x.natAbs)[i]?.getD 0 = d7 := ⟨_, rfl⟩
                    rw [hd7] at hci
                    have hdb := (digs_dg x.natAbs).get i
                    rw [hd7] at hdb
                    have hdr := dval_drop (digs x.natAbs) i (by rw [HN5.out.1]; omega)
                    rw [hd7, ← hi] at hdr
                    have hb1 := dval_drop_le (digs_dg x.natAbs) i
                    have hb2 := dval_drop_le (digs_dg x.natAbs) m
                    rw [dval_digs] at hb1 hb2
                    obtain ⟨c8, hc8⟩ : ∃ c8, c7 * 10 + d7 = c8 := ⟨_, rfl⟩
                    have hcv := HC.out
                    have HC8 : Hid (c8 = bval false ((digs x.natAbs).drop i)) := by
                      show _ = _
                      rw [← hc8, hcv]
                      unfold bval
                      simp
                      omega
                    have hc8v := HC8.out
                    have hxs := HNX.out
                    have hfx := HXB.out
                    have k1 : -9223372036854775808 ≤ c7 * 10 := by unfold bval at hcv hc8v; simp at hcv hc8v hxs; omega
                    have k2 : c7 * 10 ≤ 9223372036854775807 := by unfold bval at hcv hc8v; simp at hcv hc8v hxs; omega
                    have k3 : -9223372036854775808 ≤ c8 := by unfold bval at hcv hc8v; simp at hcv hc8v hxs; omega
                    have k4 : c8 ≤ 9223372036854775807 := by unfold bval at hcv hc8v; simp at hcv hc8v hxs; omega
                    clear hi hm0 hdr hb1 hb2 hdb hd7 hcv hc8v hxs hfx hres
                    go_wp2
                    go_roundw
                    case rel => exact ⟨i, c8, by omega, by go_num, by first | rfl | go_num, HC8, HT8⟩
                    case measure => have := HMI.out; simp [intOf]; omega
                · go_wp2
                  clear d0 d1 e0 e1 ff hlR hres hbig
                  go_loopw [6, 7] (fun v6 v7 wx => ∃ (m : Nat) (c : Int), m ≤ n5 ∧ v7 = .int .i64 ((m : Int) - 1) ∧ v6 = .int .i64 c ∧ Hid (c = bval true ((digs x.natAbs).drop m)) ∧ Hid (TlAt w K x (.slice a5 n5 c5) wx)) (fun _ v7 _ => (intOf v7 + 1).toNat)
                  case atStart => exact ⟨n5, 0, Nat.le_refl _, by first | rfl | go_num, rfl, by show _ = _; rw [List.drop_of_length_le (by rw [HN5.out.1]; exact Nat.le_refl _)]; rfl, HT6⟩
                  case round =>
                  obtain ⟨m, c7, hm, rfl, rfl, HC, HT8⟩ := hrel
                  clear HT6
                  have hres := HT8.out.res
                  have hbig := HT8.out.big
                  rw [HNX.out] at hbig
                  obtain ⟨d0, d1⟩ := hbig.duo
                  obtain ⟨e0, e1⟩ := hres.duo
                  have ff := hres.frozen
                  have hlR := hres.lt
                  by_cases hm0 : m = 0
                  · subst hm0
                    have hcx : c7 = x := by
                      have h1 := HC.out
                      rw [List.drop_zero] at h1
                      rw [h1]
                      have h2 := HNX.out
                      unfold bval
                      rw [dval_digs]
                      simp at h2 ⊢
                      omega
                    have HCX : Hid (c7 = x) := hcx
                    have hZe := Row.set2 hres (.int .i64 c7) (.int .i64 g)
                    have hBe := below_set (below_set HT8.out.below (B := w.heap.size + 1) 0 (.int .i64 c7) (by omega)) (B := w.heap.size + 1) 1 (.int .i64 g) (by omega)
                    clear HT8 hcx
                    go_wp2
                    exact bodyPost_ret (ret_two rfl (g := w.heap.size + 1) rfl rfl (load30 hZe rfl)) rfl ⟨by rw [HVS.out, ← HCX.out]; rfl, hBe⟩
                  · obtain ⟨i, hi⟩ : ∃ i, m = i + 1 := ⟨m - 1, by omega⟩
                    have hki : (m : Int) - 1 = (i : Int) := by omega
                    have HMI : Hid (m = i + 1) := hi
                    have hin : (i : Int) < (n5 : Int) := by omega
                    obtain ⟨b5, off5, hab, _, hci⟩ := HT8.out.dg.1.at i (by rw [HN5.out.1]; omega)
                    subst hab
                    obtain ⟨d7, hd7⟩ : ∃ d7, (digs x.natAbs)[i]?.getD 0 = d7 := ⟨_, rfl⟩
                    rw [hd7] at hci
                    have hdb := (digs_dg x.natAbs).get i
                    rw [hd7] at hdb
                    have hdr := dval_drop (digs x.natAbs) i (by rw [HN5.out.1]; omega)
                    rw [hd7, ← hi] at hdr
                    have hb1 := dval_drop_le (digs_dg x.natAbs) i
                    have hb2 := dval_drop_le (digs_dg x.natAbs) m
                    rw [dval_digs] at hb1 hb2
                    obtain ⟨c8, hc8⟩ : ∃ c8, c7 * 10 - d7 = c8 := ⟨_, rfl⟩
                    have hcv := HC.out
                    have HC8 : Hid (c8 = bval true ((digs x.natAbs).drop i)) := by
                      show _ = _
                      rw [← hc8, hcv]
                      unfold bval
                      simp
                      omega
                    have hc8v := HC8.out
                    have hxs := HNX.out
                    have hfx := HXB.out
                    have k1 : -9223372036854775808 ≤ c7 * 10 := by unfold bval at hcv hc8v; simp at hcv hc8v hxs; omega
                    have k2 : c7 * 10 ≤ 9223372036854775807 := by unfold bval at hcv hc8v; simp at hcv hc8v hxs; omega
                    have k3 : -9223372036854775808 ≤ c8 := by unfold bval at hcv hc8v; simp at hcv hc8v hxs; omega
                    have k4 : c8 ≤ 9223372036854775807 := by unfold bval at hcv hc8v; simp at hcv hc8v hxs; omega
                    clear hi hm0 hdr hb1 hb2 hdb hd7 hcv hc8v hxs hfx hres
                    go_wp2
                    go_roundw
                    case rel => exact ⟨i, c8, by omega, by go_num, by first | rfl | go_num, HC8, HT8⟩
                    case measure => have := HMI.out; simp [intOf]; omega
end Go.Proofs.YtgihginfegckcaaGreatDoor
/- Tell of any number; num: a Dec's number. -/
namespace Go.Proofs.YtgihginfegckcaaGreatDoor
open Go.RowKit

set_option maxRecDepth 100000 in
set_option maxHeartbeats 1000000 in
theorem tell_nought (z e : Int) (sv : Value) (w : World) (hz : z = 0) (hD : DgAt w sv (digs z.natAbs)) :
    Calls Tryz.prog 63 #[.agg #[.bool (decide (z < 0)), sv, .int .i64 e]] w fun r w' => r = .returned (.tuple #[.agg #[.int .i64 0, .int .i64 0], .int .i64 0]) ∧ Below w.heap.size w w' := by
  obtain ⟨ng, HNG⟩ : ∃ ng, Hid (decide (z < 0) = ng) := ⟨_, rfl⟩
  rw [HNG.out]
  obtain ⟨_, a, c, rfl, _, _⟩ := id hD
  obtain ⟨L, HL⟩ : ∃ L, Hid ((digs z.natAbs).length = L) := ⟨_, rfl⟩
  obtain rfl : L = 0 := by rw [← HL.out, hz]; exact congrArg List.length digs_zero
  rw [HL.out] at hD
  rw [HL.out]
  have HD : Hid (DgAt w (.slice a 0 c) (digs z.natAbs)) := hD
  clear hD
  go_enter Tryz.func63, Tryz.ntmps63
  go_wp2_with fail
  have r0 := (Row.new w 96 #[.bool ng, .slice a 0 c, .int .i64 e]).alloc (.cells #[.int .i64 0, .int .i64 0] 30)
  have r1 := Row.new1 w (.cells #[.bool ng, .slice a 0 c, .int .i64 e] 96) 30 #[.int .i64 0, .int .i64 0]
  have hB := ((Below.refl _ w).alloc (Nat.le_refl _) (.cells #[.bool ng, .slice a 0 c, .int .i64 e] 96)).alloc (by simp) (.cells #[.int .i64 0, .int .i64 0] 30)
  have hWs : ((w.alloc (.cells #[.bool ng, .slice a 0 c, .int .i64 e] 96)).alloc (.cells #[.int .i64 0, .int .i64 0] 30)).heap.size = w.heap.size + 2 := by simp
  generalize (w.alloc (.cells #[.bool ng, .slice a 0 c, .int .i64 e] 96)).alloc (.cells #[.int .i64 0, .int .i64 0] 30) = W at *
  have HWs : Hid (W.heap.size = w.heap.size + 2) := hWs
  clear hWs
  have hS : Below W.heap.size W W.drew := (Below.refl _ W).drew
  have tri : ∀ wx, Below W.heap.size W wx → wx.cell? ⟨w.heap.size, 0, none⟩ = some (.bool ng) ∧ wx.cell? ⟨w.heap.size, 1, none⟩ = some (.slice a 0 c) ∧ wx.cell? ⟨w.heap.size, 2, none⟩ = some (.int .i64 e) := fun wx hx =>
    ⟨(r0.below hx r0.lt).cell rfl, (r0.below hx r0.lt).cell rfl, (r0.below hx r0.lt).cell rfl⟩
  refine wp_region_M (fun wx : World => Below W.heap.size W wx) (fun j => decide (j < 7)) 7 rfl (by kernel_rfl) ?_
  refine wpM_held 0 (v := ?_) rfl (by kernel_rfl) (by kernel_rfl) rfl (fun _ _ _ h => h) rfl (by intro wx hx; go_simp <;> rfl) hS ?_
  refine wpM_held 1 (v := .agg #[.bool ng, .slice a 0 c]) rfl (by kernel_rfl) (by kernel_rfl) rfl (fun _ _ _ h => h) rfl (by intro wx hx; obtain ⟨x0, x1, x2⟩ := tri wx hx; go_simp <;> rfl) hS ?_
  refine wpM_held 2 (v := ?_) rfl (by kernel_rfl) (by kernel_rfl) rfl (fun _ _ _ h => h) rfl (by intro wx hx; go_simp <;> rfl) hS ?_
  refine wpM_held 3 (v := .int .i64 e) rfl (by kernel_rfl) (by kernel_rfl) rfl (fun _ _ _ h => h) rfl (by intro wx hx; obtain ⟨x0, x1, x2⟩ := tri wx hx; go_simp <;> rfl) hS ?_
  refine wpM_one 4 rfl (by kernel_rfl) rfl ?_
  go_wp2_with fail
  have hW1 : ∀ o, Below W.heap.size W (W.alloc o).drew := fun o => ((Below.refl _ W).alloc (Nat.le_refl _) o).drew
  refine ⟨fun _ => hW1 _, ?_⟩
  refine wpM_one 5 rfl (by kernel_rfl) rfl ?_
  go_wp2_with fail
  refine ⟨fun _ => hW1 _, ?_⟩
  refine wpM_one 6 rfl (by kernel_rfl) rfl ?_
  go_wp2_with fail
  refine ⟨fun _ => hW1 _, ?_⟩
  refine wpM_done (by kernel_rfl) ?_
  have hT : TlAt w W.heap.size z (.slice a 0 c) (W.alloc (.cells #[.bool ng, .slice a 0 c] 94)).drew := by
    have hx := hW1 (.cells #[.bool ng, .slice a 0 c] 94)
    refine ⟨r1.below hx r1.lt, ?_, (HD.out.below hB).below hx, hB.trans (hx.mono (by have := HWs.out; omega))⟩
    rw [HNG.out]
    exact Row.new W 94 _
  generalize (W.alloc (.cells #[.bool ng, .slice a 0 c] 94)).drew = W2 at *
  clear r0 r1 hB hS tri HD hW1
  have hK : w.heap.size + 1 < W.heap.size := by have := HWs.out; omega
  clear HWs
  generalize W.heap.size = K at *
  clear W
  have hbig := hT.big
  rw [HNG.out] at hbig
  obtain ⟨d0, d1⟩ := hbig.duo
  obtain ⟨f0, f1⟩ := hT.res.duo
  have ff := hT.res.frozen
  have hlt1 := hT.res.lt
  have hZe := Row.set2 hT.res (.int .i64 0) (.int .i64 0)
  have hBe := below_set (below_set hT.below (B := w.heap.size + 1) 0 (.int .i64 0) (by omega)) (B := w.heap.size + 1) 1 (.int .i64 0) (by omega)
  go_wp2
  exact bodyPost_ret (ret_two rfl (g := w.heap.size + 1) rfl rfl (load30 hZe rfl)) rfl ⟨rfl, hBe⟩
/-- A Num: a whole number times ten to the e. -/
def NumV (w : World) (z e : Int) (v : Value) : Prop := ∃ sv, v = .agg #[.bool (decide (z < 0)), sv, .int .i64 e] ∧ DgAt w sv (digs z.natAbs)
theorem told_any' (z e : Int) (v : Value) (w : World) (hV : NumV w z e v) (he1 : -2000 ≤ e) (he2 : e ≤ 2000) (hl : (digs z.natAbs).length ≤ 500) :
    Calls Tryz.prog 63 #[v] w fun r w' => r = .returned (decV (tell z e)) ∧ Below w.heap.size w w' := by
  obtain ⟨sv, rfl, hD⟩ := hV
  by_cases hz : z = 0
  · rw [show tell z e = some (0, 0) by rw [hz]; simp [tell, tellW_zero]]
    exact tell_nought z e sv w hz hD
  · exact tell_head z e sv w hz hD _ rfl he1 he2 hl
section
variable {P : Program} {ops : Array Oper} {Q : Exit → Act → World → Prop} {S : World → Prop} {E : Nat → Bool}
end
/-- A block below the digits is written. -/
theorem DgAt.off {W : World} {sv : Value} {ds : List Int} (h : DgAt W sv ds) {B : Nat} (hN : NewS (B + 1) sv) (i : Nat) (u : Value) : DgAt (W.setCell ⟨B, i, none⟩ u) sv ds := by
  refine ⟨?_, h.2⟩
  have hk := (Kept.refl (fun k => k ≠ B) W).setCell (p := ⟨B, i, none⟩) (by simp) u
  rcases h.1 with h0 | ⟨b, off, c, e, hb, hc⟩
  · exact .inl h0
  · by_cases h0 : ds = []
    · subst h0; exact .inl ⟨rfl, _, _, e⟩
    · have hl : 0 < ds.length := List.length_pos_iff.2 h0
      have hne : b ≠ B := by have := hN b off none ds.length c e hl; omega
      exact .inr ⟨b, off, c, e, Nat.lt_of_lt_of_le hb hk.size, fun j hj => (hk.cell (p := ⟨b, off + j, none⟩) hne).trans (hc j hj)⟩
end Go.Proofs.YtgihginfegckcaaGreatDoor
/- Places in a text, for the document's Parse (pure; and its digit). -/
namespace Go.Proofs.YtgihginfegckcaaGreatDoor
open Go.RowKit

/-- Behind i signs of l stands x. -/
structure PzAt (l : List UInt8) (i : Nat) (x : List UInt8) : Prop where
  le : i ≤ (bs l).size
  eq : l.drop i = x
theorem PzAt.nil {l : List UInt8} {i : Nat} (h : PzAt l i []) : i = (bs l).size := by
  have h1 := h.le
  have h2 := congrArg List.length h.eq
  rw [bs_size] at *
  simp at h2
  omega
theorem PzAt.cons {l : List UInt8} {i : Nat} {a : UInt8} {r : List UInt8} (h : PzAt l i (a :: r)) : ∃ hi : i < (bs l).size, (bs l)[i] = a ∧ PzAt l (i + 1) r := by
  have h2 := congrArg List.length h.eq
  have hi : i < (bs l).size := by
    rw [bs_size]
    simp at h2
    omega
  have h3 := drop_step l i hi
  rw [h.eq] at h3
  injection h3 with h4 h5
  exact ⟨hi, h4.symm, ⟨hi, h5.symm⟩⟩
theorem PzAt.nth {l : List UInt8} {i : Nat} {x : List UInt8} (h : PzAt l i x) (j : Nat) (hj : j < x.length) : ∃ hi : i + j < (bs l).size, (bs l)[i + j] = x[j] := by
  have h2 := congrArg List.length h.eq
  have hi : i + j < (bs l).size := by rw [bs_size]; simp at h2; omega
  refine ⟨hi, ?_⟩
  have : x[j]? = l[i + j]? := by rw [← h.eq, List.getElem?_drop]
  rw [List.getElem?_eq_getElem hj] at this
  rw [bs_size] at hi
  rw [List.getElem?_eq_getElem hi] at this
  exact (Option.some.inj this).symm
theorem PzAt.app {l : List UInt8} {i : Nat} {x y : List UInt8} (h : PzAt l i (x ++ y)) : PzAt l (i + x.length) y := by
  have h2 := congrArg List.length h.eq
  have h3 := h.le
  rw [bs_size] at h3
  simp at h2
  refine ⟨by rw [bs_size]; omega, ?_⟩
  rw [← List.drop_drop, h.eq]
  simp
theorem beh_head {l : List UInt8} {a : UInt8} {r : List UInt8} (h : behindL l digL = a :: r) : digL.contains a = false := by
  unfold behindL at h
  induction l with
  | nil => simp at h
  | cons b l ih =>
    rw [List.dropWhile_cons] at h
    split at h
    · exact ih h
    · rename_i hb
      injection h with h1 h2
      subst h1
      simpa using hb
/-- The number of a digit's sign. -/
def dgI (l : List UInt8) : List Int := l.map (fun b => (b.toNat : Int) - 48)
theorem dgI_take (D : List UInt8) (k : Nat) (h : k < D.length) : dgI (D.take (k + 1)) = dgI (D.take k) ++ [(D[k].toNat : Int) - 48] := by
  unfold dgI
  rw [List.take_succ_eq_append_getElem h, List.map_append]
  rfl
theorem dgI_app (a b : List UInt8) : dgI (a ++ b) = dgI a ++ dgI b := List.map_append
theorem dgI_dg {l : List UInt8} (h : Dig l) : DgL (dgI l) := by
  intro d hd
  obtain ⟨b, hb, rfl⟩ := List.mem_map.1 hd
  have := h b hb
  omega
theorem dval_dgI {l : List UInt8} (h : Dig l) : dval (dgI l).reverse = (numD l : Int) := by
  induction l with
  | nil => rfl
  | cons a r ih =>
    have ha := h a (by simp)
    have hr := ih (fun b hb => h b (by simp [hb]))
    rw [show dgI (a :: r) = ((a.toNat : Int) - 48) :: dgI r from rfl, List.reverse_cons, dval_append, hr, List.length_reverse, numD_cons]
    simp only [dval, dgI, List.length_map]
    rw [Int.mul_zero, Int.add_zero, Int.natCast_add, Int.natCast_mul, Int.natCast_pow, Int.mul_comm, Int.natCast_sub ha.1]
    simp
    omega
theorem ahead_dig (l : List UInt8) : Dig (aheadL l digL) := fun _ hb => dig_bounds (ahead_mem hb)
theorem bnd_dig {b : UInt8} : digL.contains b = decide (48 ≤ b.toNat ∧ b.toNat ≤ 57) := by
  by_cases h : digL.contains b = true
  · rw [h, decide_eq_true (dig_bounds h)]
  · rw [decide_eq_false (fun h2 => h ?_)]
    · simpa using h
    · have e : b = UInt8.ofNat b.toNat := by simp
      rw [e]
      obtain ⟨n, hn⟩ : ∃ n, b.toNat = n := ⟨_, rfl⟩
      rw [hn] at h2 ⊢
      have : n = 48 ∨ n = 49 ∨ n = 50 ∨ n = 51 ∨ n = 52 ∨ n = 53 ∨ n = 54 ∨ n = 55 ∨ n = 56 ∨ n = 57 := by omega
      rcases this with rfl | rfl | rfl | rfl | rfl | rfl | rfl | rfl | rfl | rfl <;> decide
set_option maxRecDepth 100000 in
theorem digit_any (b : UInt8) (w : World) : Calls Tryz.prog 61 #[.int .u8 (b.toNat : Int)] w fun r w' => r = .returned (.bool (digL.contains b)) ∧ w' = w := by
  rw [bnd_dig]
  obtain ⟨n, hn⟩ : ∃ n, b.toNat = n := ⟨_, rfl⟩
  rw [hn]
  by_cases h1 : 48 ≤ n
  · have t1 : (48 : Int) ≤ (n : Int) := by omega
    by_cases h2 : n ≤ 57
    · have t2 : (n : Int) ≤ 57 := by omega
      rw [decide_eq_true ⟨h1, h2⟩]
      clear hn
      go_enter Tryz.func61, Tryz.ntmps61
      go_wp2
      go_ret
      exact ⟨rfl, rfl⟩
    · have t2 : ¬ (n : Int) ≤ 57 := by omega
      rw [decide_eq_false (fun h => h2 h.2)]
      clear hn
      go_enter Tryz.func61, Tryz.ntmps61
      go_wp2
      go_ret
      exact ⟨rfl, rfl⟩
  · have t1 : ¬ (48 : Int) ≤ (n : Int) := by omega
    rw [decide_eq_false (fun h => h1 h.1)]
    clear hn
    go_enter Tryz.func61, Tryz.ntmps61
    go_wp2
    go_ret
    exact ⟨rfl, rfl⟩
end Go.Proofs.YtgihginfegckcaaGreatDoor
