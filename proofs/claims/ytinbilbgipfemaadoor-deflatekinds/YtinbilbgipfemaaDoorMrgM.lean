import Derived.Test.YtinbilbgipfemaaDoorCoin
import Derived.Laws.AppendOwn
import Derived.Deep.RegionLaw
/- merge: one row out of two, each by weight. -/
namespace Go.Proofs.YtinbilbgipfemaaDoor
open Go.RowKit

/-- append where what it makes is known, as one step of a region that draws. -/
theorem step_append_eq {P : Program} {ops : Array Oper} {o : Oper} {a : Act} {w : World} {K : Act → World → Prop} {Q : Exit → Act → World → Prop} {E : Prop}
    (hg : o.guard = none) (s x : Operand) (t : TypeId) (hop : o.op = Op.call { callee := Callee.builtin Builtin.append, args := #[s, x], argTypes := #[t, t] })
    (v u v' : Value) (w' : World) (hs : a.eval s = v) (hx : a.eval x = u) (hr : (Builtin.append_ #[t, t] o.type #[v, u]).run P w = .ok v' w') (hK : K (a.put o.dst v') w') :
    if Region.wanted o (yielded ops a.tmps) = true then Oper.wp P o a w K Q else E := by
  have hw : Region.wanted o (yielded ops a.tmps) = true := by simp [Region.wanted, hg]
  rw [if_pos hw]
  unfold Oper.wp
  simp [execOp, hop, resolve, invoke, builtin, hs, hx, hr, Result.andThen]
  exact hK

/-- .. and in a plain list of operations. -/
theorem wpList_append_eq {P : Program} {w : World} {ops : Array Oper} {rest : List Oper} {o : Oper} {a : Act} {Q : Exit → Act → World → Prop} (hgd : o.guard = none) (s x : Operand) (t : TypeId)
    (ho : o.op = .call { callee := .builtin .append, args := #[s, x], argTypes := #[t, t] }) (v u v' : Value) (w' : World) (hs : a.eval s = v) (hx : a.eval x = u)
    (hr : (Builtin.append_ #[t, t] o.type #[v, u]).run P w = .ok v' w') (h : wpList P ops Q rest (a.put o.dst v') w') : wpList P ops Q (o :: rest) a w := by
  refine wpList_plain hgd fun K hK => ?_
  unfold Oper.wp execOp
  simp only [ho, resolve, invoke, builtin, Sem.run_bind, Sem.run_pure, Result.andThen_ok, List.map_toArray, List.map_cons, List.map_nil, hs, hx, hr]
  exact hK _ _ h

set_option maxRecDepth 100000 in
/-- Coins onto a row that has room for them. -/
theorem app_coins (ty : TypeId) (W : World) (G N : Nat) (done rest : List Coin) (hR : Row W G 147 (coinA (done ++ rest))) (hN : done.length + rest.length ≤ N) (A : Addr) (c : Nat) (new : List Coin) (hnew : new.length ≤ rest.length)
    (hc : ∀ j u, (coinL new)[j]? = some u → W.cell? (A.add j) = some u) :
    (Builtin.append_ #[145, 145] ty #[.slice (some ⟨G, 0, none⟩) done.length N, .slice (some A) new.length c]).run Tryd.prog W = .ok (.slice (some ⟨G, 0, none⟩) (done.length + new.length) N) (W.setRow G (coinA (done ++ new ++ rest.drop new.length))) := by
  obtain ⟨i0, hi, hzz⟩ := Option.map_eq_some_iff.1 Tryd.info89
  simp only [Prod.mk.injEq] at hzz
  obtain ⟨hz0, hz1, hz2⟩ := hzz
  have h := run_append_room (P := Tryd.prog) W 145 ty 147 i0 Tryd.underlying145 hi G done.length N (coinA (done ++ rest)) hR A new.length c (coinL new) (by rw [coinL_length, hz1]; omega) hc
    (fun u hu => by simp only [coinL, List.mem_flatMap] at hu; obtain ⟨x, _, hx⟩ := hu; simp at hx; rcases hx with rfl | rfl <;> rfl) (by omega) (by rw [coinL_length, coinA_size, hz1, List.length_append]; omega)
  rw [h, hz1]
  congr 2
  simp only [coinA, coinL_append]
  have e1 : (coinL done).length = done.length * 2 := by rw [coinL_length]; omega
  have e2 : (coinL rest).drop (coinL new).length = coinL (rest.drop new.length) := by
    rw [coinL_length]
    clear h hc hN hR e1 hnew
    induction new generalizing rest with
    | nil => simp
    | cons c new ih =>
      cases rest with
      | nil => simp [coinL]
      | cons d rest =>
        rw [coinL_cons, show 2 * (c :: new).length = 2 * new.length + 1 + 1 by simp; omega]
        simpa using ih rest
  have t1 : List.take (done.length * 2) (coinL done ++ coinL rest) = coinL done := by rw [← e1]; simp
  have t2 : List.drop (done.length * 2 + (coinL new).length) (coinL done ++ coinL rest) = (coinL rest).drop (coinL new).length := by rw [← e1]; simp [List.drop_append]
  rw [t1, t2, e2]

theorem CoinsIn.tail {S : Nat → Prop} {W : World} {b off cap : Nat} {c : Coin} {l : List Coin} (h : CoinsIn S W (.slice (some ⟨b, off, none⟩) (c :: l).length cap) (c :: l)) (hcap : l.length + 1 ≤ cap) :
    CoinsIn S W (.slice (if cap = 1 then some ⟨b, off, none⟩ else some ⟨b, off + 2, none⟩) l.length (cap - 1)) l := by
  by_cases h1 : cap = 1
  · have : l = [] := List.eq_nil_of_length_eq_zero (by omega)
    subst this
    exact .inl ⟨rfl, _, _, rfl⟩
  · rw [if_neg h1]
    rcases h with ⟨e, _⟩ | ⟨b', off', cap', e, hb, hc⟩
    · simp at e
    · simp only [Value.slice.injEq, Option.some.injEq, Addr.mk.injEq] at e
      obtain ⟨⟨rfl, rfl, _⟩, _, _⟩ := e
      refine .inr ⟨b, off + 2, cap - 1, rfl, hb, fun j hj => ?_⟩
      have := hc (j + 1) (by simpa using hj)
      simp only [List.getElem_cons_succ] at this
      rw [show off + (j + 1) * 2 = off + 2 + j * 2 by omega] at this
      exact this

/-- One row out of two. -/
def mergeL : List Coin → List Coin → List Coin
  | [], b => b
  | a, [] => a
  | x :: a, y :: b => if x.1 ≤ y.1 then x :: mergeL a (y :: b) else y :: mergeL (x :: a) b
termination_by a b => a.length + b.length
theorem mergeL_nil (b : List Coin) : mergeL [] b = b := by cases b <;> simp [mergeL]
theorem mergeL_nil' (a : List Coin) : mergeL a [] = a := by cases a <;> simp [mergeL]

/-- A region's end: it runs through, the frame is A, the world W. -/
def regEnd (A : Act) (W : World) : Exit → Act → World → Prop
  | .normal, a, w => a = A ∧ w = W
  | _, _, _ => False

/-- Where the merging stands: what is left of either row, what is done. -/
def MRel (S : Nat → Prop) (w : World) (la lb : List Coin) (v0 v1 v5 : Value) (wr : World) : Prop :=
  ∃ (ra rb dn : List Coin) (a' b' : Addr) (ca' cb' : Nat), v0 = .slice (some a') ra.length ca' ∧ v1 = .slice (some b') rb.length cb' ∧ v5 = .slice (some ⟨w.heap.size, 0, none⟩) dn.length (la.length + lb.length) ∧
      dn.length + ra.length + rb.length = la.length + lb.length ∧ ra.length ≤ ca' ∧ rb.length ≤ cb' ∧ (∀ c ∈ ra, c ∈ la) ∧ (∀ c ∈ rb, c ∈ lb) ∧ CoinsIn S wr (.slice (some a') ra.length ca') ra ∧ CoinsIn S wr (.slice (some b') rb.length cb') rb ∧
      Row wr w.heap.size 147 (coinA (dn ++ List.replicate (ra.length + rb.length) (0, false))) ∧ Below w.heap.size w wr ∧ dn ++ mergeL ra rb = mergeL la lb
def lenOfV : Value → Nat
  | .slice _ n _ => n
  | _ => 0

set_option maxRecDepth 100000 in
set_option maxHeartbeats 2000000 in
theorem merge_any (S : Nat → Prop) (a b : Addr) (ca cb : Nat) (la lb : List Coin) (w : World) (hS : ∀ k, S k → k < w.heap.size) (hA : CoinsIn S w (.slice (some a) la.length ca) la) (hB : CoinsIn S w (.slice (some b) lb.length cb) lb)
    (hca : la.length ≤ ca) (hcb : lb.length ≤ cb) (hla : la.length ≤ 1000) (hlb : lb.length ≤ 1000) (hwa : ∀ c ∈ la, 0 ≤ c.1 ∧ c.1 ≤ 4611686018427387903) (hwb : ∀ c ∈ lb, 0 ≤ c.1 ∧ c.1 ≤ 4611686018427387903) :
    Calls Tryd.prog 91 #[.slice (some a) la.length ca, .slice (some b) lb.length cb] w fun e w' => e = .returned (.slice (some ⟨w.heap.size, 0, none⟩) (la.length + lb.length) (la.length + lb.length)) ∧ Row w' w.heap.size 147 (coinA (mergeL la lb)) ∧ Below w.heap.size w w' := by
  obtain ⟨i0, hi, hzz⟩ := Option.map_eq_some_iff.1 Tryd.info89
  simp only [Prod.mk.injEq] at hzz
  obtain ⟨hz0, hz1, hz2⟩ := hzz
  have hmk := fun w => run_make (P := Tryd.prog) w 145 147 i0 _ Tryd.underlying145 hi hz0 .i64 .i64 0 (la.length + lb.length) (by omega) (by omega) (by rw [hz2]; omega) (by omega)
  rw [hz1] at hmk
  simp only [Value.cells, show ((la.length : Int) + lb.length).toNat = la.length + lb.length by omega, coinA_made, Int.toNat_zero] at hmk
  go_enter Tryd.func91, Tryd.ntmps91
  go_wp2
  have R0 := Row.new w 147 (coinA (List.replicate (la.length + lb.length) (0, false)))
  have hB0 : Below w.heap.size w (w.alloc (.cells (coinA (List.replicate (la.length + lb.length) (0, false))) 147)) := (Below.refl _ w).alloc (Nat.le_refl _) _
  generalize w.alloc (.cells (coinA (List.replicate (la.length + lb.length) (0, false))) 147) = w1 at R0 hB0 ⊢
  clear hmk hz0 hz1 hz2 hi
  have hA1 := hA.kept (Kept.of_below hB0 hS)
  have hB1 := hB.kept (Kept.of_below hB0 hS)
  go_loopw [0, 1, 5] (MRel S w la lb)
    (fun v0 v1 _ _ => lenOfV v0 + lenOfV v1)
  case atStart => exact ⟨la, lb, [], a, b, ca, cb, rfl, rfl, rfl, by simp, hca, hcb, fun _ h => h, fun _ h => h, hA1, hB1, by simpa using R0, hB0, rfl⟩
  case round =>
    clear hA hB hA1 hB1 R0 hB0
    obtain ⟨ra, rb, dn, a', b', ca', cb', rfl, rfl, rfl, hsum, hca', hcb', hsa, hsb, hA, hB, hR, hBl, hM⟩ := hrel
    have fin : (ra = [] ∨ rb = []) → dn ++ ra ++ rb = mergeL la lb := by
      rintro (rfl | rfl)
      · rw [← hM, mergeL_nil]; simp
      · rw [← hM, mergeL_nil']; simp
    by_cases hend : ra = [] ∨ rb = []
    · have hf := fin hend
      clear fin
      have cellsOf : ∀ (W : World) (A : Addr) (c : Nat) (l : List Coin), CoinsIn S W (.slice (some A) l.length c) l → ∀ j u, (coinL l)[j]? = some u → W.cell? (A.add j) = some u := by
        intro W A c l hC j u hu
        rcases hC with ⟨rfl, _⟩ | ⟨b0, off, cap', e, _, hc⟩
        · simp [coinL] at hu
        · simp only [Value.slice.injEq, Option.some.injEq, true_and] at e
          obtain ⟨rfl, _⟩ := e
          have hj : j < 2 * l.length := by
            have := (List.getElem?_eq_some_iff.1 hu).1
            rwa [coinL_length] at this
          have hadd : (⟨b0, off, none⟩ : Addr).add j = ⟨b0, off + j, none⟩ := by unfold Addr.add; split <;> simp_all
          rw [hadd]
          have hq := coinL_at l (j / 2) (by omega)
          have hp := hc (j / 2) (by omega)
          rcases Nat.mod_two_eq_zero_or_one j with h0 | h0
          · have e1 : j / 2 * 2 = j := by omega
            rw [e1] at hq hp
            rw [hp.1, ← hq.1, hu]
          · have e1 : j / 2 * 2 + 1 = j := by omega
            rw [e1] at hq
            rw [show off + j / 2 * 2 + 1 = off + j by omega] at hp
            rw [hp.2, ← hq.2, hu]
      have HA1 : Hid (∀ ty, (Builtin.append_ #[145, 145] ty #[.slice (some ⟨w.heap.size, 0, none⟩) dn.length (la.length + lb.length), .slice (some a') ra.length ca']).run Tryd.prog wr =
          .ok (.slice (some ⟨w.heap.size, 0, none⟩) (dn.length + ra.length) (la.length + lb.length)) (wr.setRow w.heap.size (coinA (dn ++ ra ++ List.replicate rb.length (0, false))))) := by
        intro ty
        rw [app_coins ty wr w.heap.size _ dn _ hR (by simp; omega) a' ca' ra (by simp) (cellsOf wr a' ca' ra hA), List.drop_replicate, show ra.length + rb.length - ra.length = rb.length by omega]
      have hR2 := hR.setRow (coinA (dn ++ ra ++ List.replicate rb.length (0, false)))
      have hk2 : Kept S wr (wr.setRow w.heap.size (coinA (dn ++ ra ++ List.replicate rb.length (0, false)))) := (Kept.refl _ wr).setRow (fun h => by have := hS _ h; omega) _
      have hB2 := hB.kept hk2
      have hBl2 : Below w.heap.size w (wr.setRow w.heap.size (coinA (dn ++ ra ++ List.replicate rb.length (0, false)))) := below_setRow hBl (Nat.le_refl _) _
      obtain ⟨wq, HQ⟩ : ∃ wq, wq = wr.setRow w.heap.size (coinA (dn ++ ra ++ List.replicate rb.length (0, false))) := ⟨_, rfl⟩
      rw [← HQ] at HA1 hR2 hB2 hBl2
      clear HQ
      have HA2 : Hid (∀ ty, (Builtin.append_ #[145, 145] ty #[.slice (some ⟨w.heap.size, 0, none⟩) (dn.length + ra.length) (la.length + lb.length), .slice (some b') rb.length cb']).run Tryd.prog wq =
          .ok (.slice (some ⟨w.heap.size, 0, none⟩) (la.length + lb.length) (la.length + lb.length)) (wq.setRow w.heap.size (coinA (dn ++ ra ++ rb)))) := by
        intro ty
        have h := app_coins ty wq w.heap.size (la.length + lb.length) (dn ++ ra) _ hR2 (by simp; omega) b' cb' rb (by simp) (cellsOf wq b' cb' rb hB2)
        rw [List.length_append] at h
        rw [h, List.drop_replicate, show rb.length - rb.length = 0 by omega, hsum]
        simp
      have HF : Hid (Row (wq.setRow w.heap.size (coinA (dn ++ ra ++ rb))) w.heap.size 147 (coinA (mergeL la lb)) ∧ Below w.heap.size w (wq.setRow w.heap.size (coinA (dn ++ ra ++ rb)))) :=
        ⟨hf ▸ hR2.setRow _, below_setRow hBl2 (Nat.le_refl _) _⟩
      have hcase : ¬ (0 : Int) < ra.length ∨ ((0 : Int) < ra.length ∧ ¬ (0 : Int) < rb.length) := by
        rcases hend with rfl | rfl
        · exact .inl (by simp)
        · by_cases h : (0 : Int) < ra.length
          · exact .inr ⟨h, by simp⟩
          · exact .inl h
      clear cellsOf hR2 hk2 hB2 hBl2 hA hB hR hBl hM hf hend
      have t1 := fun (ops : Array Oper) (rest : List Oper) => HA1
      clear t1
      rcases hcase with h | ⟨h, h'⟩
      all_goals
        go_wp2_with (at_builtin; first
          | refine wpList_append_eq rfl (.tmp 45) (.tmp 46) 145 rfl _ _ _ _ rfl rfl (HA1.out _) ?_
          | refine wpList_append_eq rfl (.tmp 47) (.tmp 48) 145 rfl _ _ _ _ rfl rfl (HA2.out _) ?_)
        go_ret
        exact ⟨rfl, by have := HF.out; rwa [List.append_assoc] at this⟩
    clear fin
    cases ra with
    | nil => exact absurd (.inl rfl) hend
    | cons x ra =>
      cases rb with
      | nil => exact absurd (.inr rfl) hend
      | cons y rb =>
        clear hend
        obtain ⟨ba, oa, hea, hba, x0, x1⟩ := hA.at 0 (by simp)
        obtain ⟨bb, ob, heb, hbb, y0, y1⟩ := hB.at 0 (by simp)
        obtain rfl : a' = ⟨ba, oa, none⟩ := by simpa using hea
        obtain rfl : b' = ⟨bb, ob, none⟩ := by simpa using heb
        clear hea heb
        simp only [Nat.zero_mul, Nat.add_zero, List.getElem_cons_zero] at x0 x1 y0 y1
        have hax := hwa x (hsa x (by simp))
        have hay := hwb y (hsb y (by simp))
        by_cases hle : x.1 ≤ y.1
        · have hx1 : mergeL (x :: ra) (y :: rb) = x :: mergeL ra (y :: rb) := by rw [mergeL, if_pos hle]
          have HAPP : Hid (∀ (ty : TypeId) (W : World) (T : Nat), Row W w.heap.size 147 (coinA (dn ++ List.replicate ((x :: ra).length + (y :: rb).length) (0, false))) → W.cell? ⟨T, 0, none⟩ = some (.int .i64 x.1) → W.cell? ⟨T, 1, none⟩ = some (.bool x.2) →
              (Builtin.append_ #[145, 145] ty #[.slice (some ⟨w.heap.size, 0, none⟩) dn.length (la.length + lb.length), .slice (some ⟨T, 0, none⟩) 1 1]).run Tryd.prog W =
                .ok (.slice (some ⟨w.heap.size, 0, none⟩) (dn.length + 1) (la.length + lb.length)) (W.setRow w.heap.size (coinA (dn ++ [x] ++ List.replicate (ra.length + (y :: rb).length) (0, false))))) := by
            intro ty W T hr h0 h1
            have h := app_coins ty W w.heap.size (la.length + lb.length) dn _ hr (by simp at hsum ⊢; omega) ⟨T, 0, none⟩ 1 [x] (by simp; omega) (fun j u hu => by
              have hadd : (⟨T, 0, none⟩ : Addr).add j = ⟨T, j, none⟩ := by unfold Addr.add; split <;> simp_all
              rw [hadd]
              match j, hu with
              | 0, hu => simp [coinL] at hu; subst hu; exact h0
              | 1, hu => simp [coinL] at hu; subst hu; exact h1)
            rw [List.length_singleton] at h
            rw [h, List.drop_replicate]
            congr 5
            simp
            omega
          have HX : Hid (dn ++ [x] ++ mergeL ra (y :: rb) = mergeL la lb) := by
            show _ = _
            rw [← hM, hx1]
            simp
          have HTA : Hid (∀ W, Kept S wr W → CoinsIn S W (.slice (if ca' = 1 then some ⟨ba, oa, none⟩ else some ⟨ba, oa + 2, none⟩) ra.length (ca' - 1)) ra) := by
            intro W hk
            exact CoinsIn.tail (hA.kept hk) (by simpa using hca')
          obtain ⟨A', hA'⟩ : ∃ A', (if ca' = 1 then some (⟨ba, oa, none⟩ : Addr) else some ⟨ba, oa + 2, none⟩) = some A' := by split <;> exact ⟨_, rfl⟩
          rw [hA'] at HTA
          have HTB : Hid (∀ W, Kept S wr W → CoinsIn S W (.slice (some ⟨bb, ob, none⟩) (y :: rb).length cb') (y :: rb)) := fun W hk => hB.kept hk
          clear hA hB hx1 hM
          obtain ⟨xv, xs⟩ := x
          obtain ⟨yv, ys⟩ := y
          simp only at *
          go_wp2
          go_region
          go_wp2
          have hRq : Row wr.drew w.heap.size 147 (coinA (dn ++ List.replicate (((xv, xs) :: ra).length + ((yv, ys) :: rb).length) (0, false))) := hR
          have x0q : wr.drew.cell? ⟨ba, oa, none⟩ = some (.int .i64 xv) := x0
          have x1q : wr.drew.cell? ⟨ba, oa + 1, none⟩ = some (.bool xs) := x1
          have hBq : Below w.heap.size w wr.drew := hBl.drew
          have HKq : Hid (Kept S wr wr.drew) := (Kept.refl _ wr).drew
          clear x0 x1 y0 y1 hR hBl
          generalize wr.drew = wq at hRq x0q x1q hBq HKq ⊢
          have hlt := hBq.size
          have HRA : Hid (Row (wq.drew.alloc (.cells #[.int .i64 xv, .bool xs] 147)) w.heap.size 147 (coinA (dn ++ List.replicate (((xv, xs) :: ra).length + ((yv, ys) :: rb).length) (0, false)))) := Row.alloc (W := wq.drew) hRq _
          have HC0 : Hid ((wq.drew.alloc (.cells #[.int .i64 xv, .bool xs] 147)).cell? ⟨wq.heap.size, 0, none⟩ = some (.int .i64 xv)) := (Row.new wq.drew 147 #[.int .i64 xv, .bool xs]).cell rfl
          have HC1 : Hid ((wq.drew.alloc (.cells #[.int .i64 xv, .bool xs] 147)).cell? ⟨wq.heap.size, 1, none⟩ = some (.bool xs)) := (Row.new wq.drew 147 #[.int .i64 xv, .bool xs]).cell rfl
          have hge : (1 : Int) ≤ (ra.length : Int) + 1 := by omega
          have HM : Hid (MRel S w la lb (.slice (some A') ra.length (ca' - 1)) (.slice (some ⟨bb, ob, none⟩) (rb.length + 1) cb') (.slice (some ⟨w.heap.size, 0, none⟩) (dn.length + 1) (la.length + lb.length))
              ((wq.alloc (.cells #[.int .i64 xv, .bool xs] 147)).drew.setRow w.heap.size (coinA (dn ++ (xv, xs) :: List.replicate (ra.length + (rb.length + 1)) (0, false))))) := by
            have hk : Kept S wr ((wq.alloc (.cells #[.int .i64 xv, .bool xs] 147)).drew.setRow w.heap.size (coinA (dn ++ (xv, xs) :: List.replicate (ra.length + (rb.length + 1)) (0, false)))) :=
              ((HKq.out.alloc (fun k hk => by have := hS k hk; omega) _).drew).setRow (fun h => by have := hS _ h; omega) _
            refine ⟨ra, (yv, ys) :: rb, dn ++ [(xv, xs)], A', ⟨bb, ob, none⟩, ca' - 1, cb', rfl, rfl, by simp, by simp at hsum ⊢; omega, by simp at hca'; omega, hcb', fun c hc => hsa c (by simp [hc]), hsb, HTA.out _ hk, HTB.out _ hk, ?_, ?_, by rw [HX.out]⟩
            · have := Row.setRow (W := (wq.alloc (.cells #[.int .i64 xv, .bool xs] 147)).drew) (cs := coinA (dn ++ List.replicate (((xv, xs) :: ra).length + ((yv, ys) :: rb).length) (0, false))) (t := 147) (coinA (dn ++ (xv, xs) :: List.replicate (ra.length + (rb.length + 1)) (0, false))) (Row.alloc hRq (.cells #[.int .i64 xv, .bool xs] 147))
              simpa using this
            · exact below_setRow (hBq.alloc hlt _).drew (Nat.le_refl _) _
          refine wp_mono (Q := regEnd { tmps := #[.slice (some A') ra.length (ca' - 1), .slice (some ⟨bb, ob, none⟩) (rb.length + 1) cb', undef, undef, .slice none 0 0, .slice (some ⟨w.heap.size, 0, none⟩) (dn.length + 1) (la.length + lb.length), .slice (some a) la.length ca, .int .i64 la.length, .slice (some b) lb.length cb, .int .i64 lb.length, .int .i64 (la.length + lb.length), .slice (some ⟨w.heap.size, 0, none⟩) 0 (la.length + lb.length), .slice (some ⟨ba, oa, none⟩) (ra.length + 1) ca', .int .i64 (ra.length + 1), .bool true, .bool true, .slice (some ⟨bb, ob, none⟩) (rb.length + 1) cb', .int .i64 (rb.length + 1), .bool true, .bool true, .slice (some ⟨ba, oa, none⟩) (ra.length + 1) ca', .pointer (some ⟨ba, oa, none⟩), .pointer (some ⟨ba, oa, none⟩), .int .i64 xv, .slice (some ⟨bb, ob, none⟩) (rb.length + 1) cb', .pointer (some ⟨bb, ob, none⟩), .pointer (some ⟨bb, ob, none⟩), .int .i64 yv, .bool true, .slice (some ⟨w.heap.size, 0, none⟩) dn.length (la.length + lb.length), .slice (some ⟨ba, oa, none⟩) (ra.length + 1) ca', .pointer (some ⟨ba, oa, none⟩), .agg #[.int .i64 xv, .bool xs], .slice (some ⟨wq.heap.size, 0, none⟩) 1 1, .slice (some ⟨w.heap.size, 0, none⟩) (dn.length + 1) (la.length + lb.length), .slice (some ⟨ba, oa, none⟩) (ra.length + 1) ca', .slice (some A') ra.length (ca' - 1), u37, u38, u39, u40, u41, u42, u43, u44, undef, undef, undef, undef, undef], defers := [] }
            ((wq.alloc (.cells #[.int .i64 xv, .bool xs] 147)).drew.setRow w.heap.size (coinA (dn ++ (xv, xs) :: List.replicate (ra.length + (rb.length + 1)) (0, false))))) ?reg ?rest
          case reg =>
            go_region_law (refine step_append_eq rfl (.tmp 29) (.tmp 33) 145 rfl _ _ _ _ (by simp [Act.eval]) (by simp [Act.eval]) (HAPP.out _ (wq.drew.alloc (.cells #[.int .i64 xv, .bool xs] 147)) wq.heap.size HRA.out HC0.out HC1.out) ?_)
            all_goals exact ⟨rfl, rfl⟩
          case rest =>
            intro e a' w' hq
            cases e <;> simp only [regEnd] at hq
            obtain ⟨rfl, rfl⟩ := hq
            go_wp2
            go_roundw
            case rel => exact HM.out
            case measure => simp [lenOfV]
        · have hx1 : mergeL (x :: ra) (y :: rb) = y :: mergeL (x :: ra) rb := by rw [mergeL, if_neg hle]
          have HAPP : Hid (∀ (ty : TypeId) (W : World) (T : Nat), Row W w.heap.size 147 (coinA (dn ++ List.replicate ((x :: ra).length + (y :: rb).length) (0, false))) → W.cell? ⟨T, 0, none⟩ = some (.int .i64 y.1) → W.cell? ⟨T, 1, none⟩ = some (.bool y.2) →
              (Builtin.append_ #[145, 145] ty #[.slice (some ⟨w.heap.size, 0, none⟩) dn.length (la.length + lb.length), .slice (some ⟨T, 0, none⟩) 1 1]).run Tryd.prog W =
                .ok (.slice (some ⟨w.heap.size, 0, none⟩) (dn.length + 1) (la.length + lb.length)) (W.setRow w.heap.size (coinA (dn ++ [y] ++ List.replicate ((x :: ra).length + rb.length) (0, false))))) := by
            intro ty W T hr h0 h1
            have h := app_coins ty W w.heap.size (la.length + lb.length) dn _ hr (by simp at hsum ⊢; omega) ⟨T, 0, none⟩ 1 [y] (by simp; omega) (fun j u hu => by
              have hadd : (⟨T, 0, none⟩ : Addr).add j = ⟨T, j, none⟩ := by unfold Addr.add; split <;> simp_all
              rw [hadd]
              match j, hu with
              | 0, hu => simp [coinL] at hu; subst hu; exact h0
              | 1, hu => simp [coinL] at hu; subst hu; exact h1)
            rw [List.length_singleton] at h
            rw [h, List.drop_replicate]
            congr 5
          have HX : Hid (dn ++ [y] ++ mergeL (x :: ra) rb = mergeL la lb) := by
            show _ = _
            rw [← hM, hx1]
            simp
          have HTA : Hid (∀ W, Kept S wr W → CoinsIn S W (.slice (if cb' = 1 then some ⟨bb, ob, none⟩ else some ⟨bb, ob + 2, none⟩) rb.length (cb' - 1)) rb) := by
            intro W hk
            exact CoinsIn.tail (hB.kept hk) (by simpa using hcb')
          obtain ⟨A', hA'⟩ : ∃ A', (if cb' = 1 then some (⟨bb, ob, none⟩ : Addr) else some ⟨bb, ob + 2, none⟩) = some A' := by split <;> exact ⟨_, rfl⟩
          rw [hA'] at HTA
          have HTB : Hid (∀ W, Kept S wr W → CoinsIn S W (.slice (some ⟨ba, oa, none⟩) (x :: ra).length ca') (x :: ra)) := fun W hk => hA.kept hk
          clear hA hB hx1 hM
          obtain ⟨xv, xs⟩ := x
          obtain ⟨yv, ys⟩ := y
          simp only at *
          go_wp2
          go_region
          go_wp2
          have hRq : Row wr.drew w.heap.size 147 (coinA (dn ++ List.replicate (((xv, xs) :: ra).length + ((yv, ys) :: rb).length) (0, false))) := hR
          have x0q : wr.drew.cell? ⟨bb, ob, none⟩ = some (.int .i64 yv) := y0
          have x1q : wr.drew.cell? ⟨bb, ob + 1, none⟩ = some (.bool ys) := y1
          have hBq : Below w.heap.size w wr.drew := hBl.drew
          have HKq : Hid (Kept S wr wr.drew) := (Kept.refl _ wr).drew
          clear x0 x1 y0 y1 hR hBl
          generalize wr.drew = wq at hRq x0q x1q hBq HKq ⊢
          have hlt := hBq.size
          have HRA : Hid (Row (wq.drew.alloc (.cells #[.int .i64 yv, .bool ys] 147)) w.heap.size 147 (coinA (dn ++ List.replicate (((xv, xs) :: ra).length + ((yv, ys) :: rb).length) (0, false)))) := Row.alloc (W := wq.drew) hRq _
          have HC0 : Hid ((wq.drew.alloc (.cells #[.int .i64 yv, .bool ys] 147)).cell? ⟨wq.heap.size, 0, none⟩ = some (.int .i64 yv)) := (Row.new wq.drew 147 #[.int .i64 yv, .bool ys]).cell rfl
          have HC1 : Hid ((wq.drew.alloc (.cells #[.int .i64 yv, .bool ys] 147)).cell? ⟨wq.heap.size, 1, none⟩ = some (.bool ys)) := (Row.new wq.drew 147 #[.int .i64 yv, .bool ys]).cell rfl
          have hge : (1 : Int) ≤ (rb.length : Int) + 1 := by omega
          have HM : Hid (MRel S w la lb (.slice (some ⟨ba, oa, none⟩) (ra.length + 1) ca') (.slice (some A') rb.length (cb' - 1)) (.slice (some ⟨w.heap.size, 0, none⟩) (dn.length + 1) (la.length + lb.length))
              ((wq.alloc (.cells #[.int .i64 yv, .bool ys] 147)).drew.setRow w.heap.size (coinA (dn ++ (yv, ys) :: List.replicate (ra.length + 1 + rb.length) (0, false))))) := by
            have hk : Kept S wr ((wq.alloc (.cells #[.int .i64 yv, .bool ys] 147)).drew.setRow w.heap.size (coinA (dn ++ (yv, ys) :: List.replicate (ra.length + 1 + rb.length) (0, false)))) :=
              ((HKq.out.alloc (fun k hk => by have := hS k hk; omega) _).drew).setRow (fun h => by have := hS _ h; omega) _
            refine ⟨(xv, xs) :: ra, rb, dn ++ [(yv, ys)], ⟨ba, oa, none⟩, A', ca', cb' - 1, rfl, rfl, by simp, by simp at hsum ⊢; omega, hca', by simp at hcb'; omega, hsa, fun c hc => hsb c (by simp [hc]), HTB.out _ hk, HTA.out _ hk, ?_, ?_, by rw [HX.out]⟩
            · have := Row.setRow (W := (wq.alloc (.cells #[.int .i64 yv, .bool ys] 147)).drew) (cs := coinA (dn ++ List.replicate (((xv, xs) :: ra).length + ((yv, ys) :: rb).length) (0, false))) (t := 147) (coinA (dn ++ (yv, ys) :: List.replicate (ra.length + 1 + rb.length) (0, false))) (Row.alloc hRq (.cells #[.int .i64 yv, .bool ys] 147))
              simpa using this
            · exact below_setRow (hBq.alloc hlt _).drew (Nat.le_refl _) _
          refine wp_mono (Q := regEnd { tmps := #[.slice (some ⟨ba, oa, none⟩) (ra.length + 1) ca', .slice (some A') rb.length (cb' - 1), undef, undef, .slice none 0 0, .slice (some ⟨w.heap.size, 0, none⟩) (dn.length + 1) (la.length + lb.length), .slice (some a) la.length ca, .int .i64 la.length, .slice (some b) lb.length cb, .int .i64 lb.length, .int .i64 (la.length + lb.length), .slice (some ⟨w.heap.size, 0, none⟩) 0 (la.length + lb.length), .slice (some ⟨ba, oa, none⟩) (ra.length + 1) ca', .int .i64 (ra.length + 1), .bool true, .bool true, .slice (some ⟨bb, ob, none⟩) (rb.length + 1) cb', .int .i64 (rb.length + 1), .bool true, .bool true, .slice (some ⟨ba, oa, none⟩) (ra.length + 1) ca', .pointer (some ⟨ba, oa, none⟩), .pointer (some ⟨ba, oa, none⟩), .int .i64 xv, .slice (some ⟨bb, ob, none⟩) (rb.length + 1) cb', .pointer (some ⟨bb, ob, none⟩), .pointer (some ⟨bb, ob, none⟩), .int .i64 yv, .bool (decide (xv ≤ yv)), u29, u30, u31, u32, u33, u34, u35, u36, .slice (some ⟨w.heap.size, 0, none⟩) dn.length (la.length + lb.length), .slice (some ⟨bb, ob, none⟩) (rb.length + 1) cb', .pointer (some ⟨bb, ob, none⟩), .agg #[.int .i64 yv, .bool ys], .slice (some ⟨wq.heap.size, 0, none⟩) 1 1, .slice (some ⟨w.heap.size, 0, none⟩) (dn.length + 1) (la.length + lb.length), .slice (some ⟨bb, ob, none⟩) (rb.length + 1) cb', .slice (some A') rb.length (cb' - 1), undef, undef, undef, undef, undef], defers := [] }
            ((wq.alloc (.cells #[.int .i64 yv, .bool ys] 147)).drew.setRow w.heap.size (coinA (dn ++ (yv, ys) :: List.replicate (ra.length + 1 + rb.length) (0, false))))) ?reg ?rest
          case reg =>
            go_region_law (refine step_append_eq rfl (.tmp 37) (.tmp 41) 145 rfl _ _ _ _ (by simp [Act.eval]) (by simp [Act.eval]) (HAPP.out _ (wq.drew.alloc (.cells #[.int .i64 yv, .bool ys] 147)) wq.heap.size HRA.out HC0.out HC1.out) ?_)
            all_goals exact ⟨rfl, rfl⟩
          case rest =>
            intro e a' w' hq
            cases e <;> simp only [regEnd] at hq
            obtain ⟨rfl, rfl⟩ := hq
            go_wp2
            go_roundw
            case rel => exact HM.out
            case measure => simp [lenOfV]
end Go.Proofs.YtinbilbgipfemaaDoor
/- rows: the package-merge way, row by row. -/
namespace Go.Proofs.YtinbilbgipfemaaDoor
open Go.RowKit

/-- The symbols' own coins, the rarest first. -/
def singleF (fs os : List Int) (i : Nat) : Coin := (fs[(os[i]?.getD 0).toNat]?.getD 0, true)
def singlesL (fs os : List Int) : List Coin := upto (singleF fs os) os.length
def rowN (sl : List Coin) : Nat → List Coin
  | 0 => sl
  | k + 1 => mergeL sl (pairsL (rowN sl k))
theorem mergeL_length : ∀ a b : List Coin, (mergeL a b).length = a.length + b.length
  | [], b => by rw [mergeL_nil]; simp
  | x :: a, [] => by rw [mergeL_nil']; simp
  | x :: a, y :: b => by
    rw [mergeL]
    split
    · rw [List.length_cons, mergeL_length]; simp; omega
    · rw [List.length_cons, mergeL_length]; simp; omega
termination_by a b => a.length + b.length
theorem mergeL_mem : ∀ (a b : List Coin) (c : Coin), c ∈ mergeL a b → c ∈ a ∨ c ∈ b
  | [], b, c, h => by rw [mergeL_nil] at h; exact .inr h
  | x :: a, [], c, h => by rw [mergeL_nil'] at h; exact .inl h
  | x :: a, y :: b, c, h => by
    rw [mergeL] at h
    split at h
    · rcases List.mem_cons.1 h with rfl | h
      · exact .inl (by simp)
      · rcases mergeL_mem a (y :: b) c h with h | h
        · exact .inl (by simp [h])
        · exact .inr h
    · rcases List.mem_cons.1 h with rfl | h
      · exact .inr (by simp)
      · rcases mergeL_mem (x :: a) b c h with h | h
        · exact .inl h
        · exact .inr (by simp [h])
termination_by a b => a.length + b.length
theorem pairsL_length (l : List Coin) : (pairsL l).length = l.length / 2 := upto_length _ _
theorem rowN_length (sl : List Coin) (k : Nat) : (rowN sl k).length ≤ 2 * sl.length ∧ sl.length ≤ (rowN sl k).length := by
  induction k with
  | zero => simp [rowN]; omega
  | succ k ih => rw [rowN, mergeL_length, pairsL_length]; omega
theorem rowN_bd (sl : List Coin) (M : Nat) (h : ∀ c ∈ sl, 0 ≤ c.1 ∧ c.1 ≤ M) (k : Nat) : ∀ c ∈ rowN sl k, 0 ≤ c.1 ∧ c.1 ≤ ((M * 2 ^ k : Nat) : Int) := by
  induction k with
  | zero => simpa [rowN] using h
  | succ k ih =>
    intro c hc
    have hp : M * 2 ^ k ≤ M * 2 ^ (k + 1) := Nat.mul_le_mul_left _ (Nat.pow_le_pow_right (by omega) (by omega))
    have hp2 : M * 2 ^ (k + 1) = 2 * (M * 2 ^ k) := by rw [Nat.pow_succ]; ac_rfl
    have hp0 : M ≤ M * 2 ^ k := Nat.le_mul_of_pos_right _ (Nat.pow_pos (by omega))
    rcases mergeL_mem _ _ _ hc with hc | hc
    · have := h c hc
      omega
    · simp only [pairsL, upto, List.mem_map, List.mem_range] at hc
      obtain ⟨i, hi, rfl⟩ := hc
      have h1 := ih _ (List.getElem_mem (show 2 * i < (rowN sl k).length by omega))
      have h2 := ih _ (List.getElem_mem (show 2 * i + 1 < (rowN sl k).length by omega))
      simp only [pairF, show 2 * i < (rowN sl k).length by omega, show 2 * i + 1 < (rowN sl k).length by omega, List.getElem?_eq_getElem, Option.getD_some]
      omega
theorem coinL_set2 (l : List Coin) (j : Nat) (c : Coin) (h : j < l.length) : ((coinL l).set (j * 2) (.int .i64 c.1)).set (j * 2 + 1) (.bool c.2) = coinL (l.set j c) := by
  induction l generalizing j with
  | nil => simp at h
  | cons d l ih =>
    cases j with
    | zero => simp [coinL_cons]
    | succ j =>
      have := ih j (by simpa using h)
      rw [coinL_cons, show (j + 1) * 2 = j * 2 + 1 + 1 by omega]
      simp [coinL_cons, this]
theorem coinA_set2 (l : List Coin) (j : Nat) (c : Coin) (h : j < l.length) : ((coinA l).setIfInBounds (j * 2) (.int .i64 c.1)).setIfInBounds (j * 2 + 1) (.bool c.2) = coinA (l.set j c) := by
  simp [coinA, coinL_set2 l j c h]

theorem Tryd.info87 : (Tryd.prog.info? 145).map (fun i => (i.zero, i.size, i.bytes)) = some (some (.slice none 0 0), 1, 24) := by kernel_rfl

/-- The rows as they lie in memory: row i behind the slice value in place i. -/
def RowsIn (N : Nat) (W : World) (GA limit : Nat) (sl : List Coin) (k : Nat) : Prop :=
  ∃ (g : Nat → Nat) (cs : Array Value), Row W GA 145 cs ∧ cs.size = limit ∧ (∀ i, i < k → cs[i]? = some (.slice (some ⟨g i, 0, none⟩) (rowN sl i).length (rowN sl i).length)) ∧
    (∀ i, i < k → Row W (g i) 147 (coinA (rowN sl i)) ∧ N ≤ g i)
theorem RowsIn.below {N B : Nat} {W W' : World} {GA limit : Nat} {sl : List Coin} {k : Nat} (h : RowsIn N W GA limit sl k) (hb : Below B W W') (hB : W.heap.size ≤ B) : RowsIn N W' GA limit sl k := by
  obtain ⟨g, cs, hr, hs, hc, hg⟩ := h
  exact ⟨g, cs, hr.below hb (Nat.lt_of_lt_of_le hr.lt hB), hs, hc, fun i hi => ⟨(hg i hi).1.below hb (Nat.lt_of_lt_of_le (hg i hi).1.lt hB), (hg i hi).2⟩⟩

set_option maxRecDepth 100000 in
set_option maxHeartbeats 2000000 in
theorem rows_any (S : Nat → Prop) (a b : Option Addr) (ca cb limit : Nat) (fs os : List Int) (w : World) (hS : ∀ k, S k → k < w.heap.size) (hF : IntsIn S w (.slice a fs.length ca) fs) (hO : IntsIn S w (.slice b os.length cb) os)
    (h1 : 1 ≤ limit) (h15 : limit ≤ 15) (_hlf : fs.length ≤ 320) (hlo : os.length ≤ 320) (hos : ∀ z ∈ os, 0 ≤ z ∧ z < fs.length) (hfs : ∀ z ∈ fs, 0 ≤ z ∧ z ≤ 1073741824) :
    Calls Tryd.prog 86 #[.slice a fs.length ca, .slice b os.length cb, .int .i64 limit] w fun e w' => ∃ GA, e = .returned (.slice (some ⟨GA, 0, none⟩) limit limit) ∧ w.heap.size ≤ GA ∧ RowsIn w.heap.size w' GA limit (singlesL fs os) limit ∧ Below w.heap.size w w' := by
  obtain ⟨i0, hi, hzz⟩ := Option.map_eq_some_iff.1 Tryd.info89
  simp only [Prod.mk.injEq] at hzz
  obtain ⟨hz0, hz1, hz2⟩ := hzz
  have hmk := fun w => run_make (P := Tryd.prog) w 145 147 i0 _ Tryd.underlying145 hi hz0 .i64 .i64 os.length os.length (by omega) (by omega) (by rw [hz2]; omega) (by omega)
  rw [hz1] at hmk
  simp only [Value.cells, Int.toNat_natCast, coinA_made] at hmk
  have hmk2 := run_make_row' (P := Tryd.prog) 134 145 (.slice none 0 0) 24 Tryd.underlying134 Tryd.info87 rfl .i64 .i64 limit (by omega) (by omega)
  clear hz0 hz1 hz2 hi
  go_enter Tryd.func86, Tryd.ntmps86
  go_wp2
  have R0 := Row.new w 147 (coinA (List.replicate os.length (0, false)))
  have hB0 : Below w.heap.size w (w.alloc (.cells (coinA (List.replicate os.length (0, false))) 147)) := (Below.refl _ w).alloc (Nat.le_refl _) _
  generalize w.alloc (.cells (coinA (List.replicate os.length (0, false))) 147) = w1 at R0 hB0 ⊢
  clear hmk
  go_loopw [17] (fun i wr => ∃ k : Nat, k ≤ os.length ∧ i = .int .i64 k ∧ Row wr w.heap.size 147 (coinA (upto (singleF fs os) k ++ List.replicate (os.length - k) (0, false))) ∧ Below w.heap.size w wr)
    (fun i _ => os.length - (intOf i).toNat)
  case atStart => exact ⟨0, Nat.zero_le _, rfl, by simpa [upto] using R0, hB0⟩
  case round =>
    obtain ⟨k, hk, rfl, R1, hB⟩ := hrel
    by_cases hlt : k < os.length
    · obtain ⟨bo, oo, rfl, hbo, eo⟩ := hO.at k hlt
      have hz := hos _ (List.getElem_mem hlt)
      have ez : os[k]?.getD 0 = os[k] := by simp [hlt]
      rw [ez] at eo
      obtain ⟨z, hzz⟩ := Int.eq_ofNat_of_zero_le hz.1
      obtain ⟨bf, of, rfl, hbf, ef⟩ := hF.at z (by omega)
      have co := ((Kept.of_below hB hS).cell (p := ⟨bo, oo + k, none⟩) hbo).trans eo
      have cf := ((Kept.of_below hB hS).cell (p := ⟨bf, of + z, none⟩) hbf).trans ef
      rw [hzz] at co
      have hzl : z < fs.length := by omega
      have HV : Hid (singleF fs os k = (fs[z]?.getD 0, true)) := by
        show _ = _
        simp [singleF, ez, hzz]
      clear eo ef ez hz hO hF hzz
      generalize fs[z]?.getD 0 = f at cf HV
      have hlen : (upto (singleF fs os) k ++ List.replicate (os.length - k) ((0 : Int), false)).length = os.length := by simp [upto_length]; omega
      have cG0 := R1.cell (coinA_at0 _ k (by rw [hlen]; exact hlt))
      have cG1 := R1.cell (coinA_at1 _ k (by rw [hlen]; exact hlt))
      have fG0 := R1.frozen (k * 2)
      have fG1 := R1.frozen (k * 2 + 1)
      have HR : Hid (Row ((wr.setCell ⟨w.heap.size, k * 2, none⟩ (.int .i64 f)).setCell ⟨w.heap.size, k * 2 + 1, none⟩ (.bool true)) w.heap.size 147 (coinA (upto (singleF fs os) (k + 1) ++ List.replicate (os.length - (k + 1)) (0, false)))) := by
        show Row _ _ _ _
        have := (R1.set (k * 2) (.int .i64 f)).set (k * 2 + 1) (.bool true)
        rw [coinA_set2 _ k (f, true) (by rw [hlen]; exact hlt)] at this
        have e : List.replicate (os.length - k) ((0 : Int), false) = (0, false) :: List.replicate (os.length - (k + 1)) (0, false) := by
          rw [show os.length - k = os.length - (k + 1) + 1 by omega, List.replicate_succ]
        rw [e, List.set_append_right _ _ (by rw [upto_length]; exact Nat.le_refl _), upto_length, Nat.sub_self, List.set_cons_zero] at this
        rw [upto_succ, HV.out, List.append_assoc]
        exact this
      have HB : Hid (Below w.heap.size w ((wr.setCell ⟨w.heap.size, k * 2, none⟩ (.int .i64 f)).setCell ⟨w.heap.size, k * 2 + 1, none⟩ (.bool true))) := (hB.setCell (p := ⟨w.heap.size, k * 2, none⟩) (Nat.le_refl _) _).setCell (p := ⟨w.heap.size, k * 2 + 1, none⟩) (Nat.le_refl _) _
      clear R1 hB HV
      generalize (upto (singleF fs os) k ++ List.replicate (os.length - k) ((0 : Int), false))[k] = old at cG0 cG1
      go_wp2
      go_roundw
      case rel => exact ⟨k + 1, by omega, by simp, HR.out, HB.out⟩
      case measure => simp [intOf]; omega
    · obtain rfl : k = os.length := by omega
      have hsl : upto (singleF fs os) os.length ++ List.replicate (os.length - os.length) ((0 : Int), false) = singlesL fs os := by simp [singlesL]
      rw [hsl] at R1
      have hslen : (singlesL fs os).length = os.length := upto_length _ _
      have hsbd : ∀ c ∈ singlesL fs os, 0 ≤ c.1 ∧ c.1 ≤ ((1073741824 : Nat) : Int) := by
        intro c hc
        simp only [singlesL, upto, List.mem_map, List.mem_range] at hc
        obtain ⟨i, hi, rfl⟩ := hc
        have hz := hos _ (List.getElem_mem hi)
        have ez : os[i]?.getD 0 = os[i] := by simp [hi]
        have hlt' : os[i].toNat < fs.length := by omega
        have := hfs _ (List.getElem_mem hlt')
        simp only [singleF, ez, hlt', List.getElem?_eq_getElem, Option.getD_some]
        omega
      clear hsl hF hO hlt hk hos hfs
      obtain ⟨sl, HSL⟩ : ∃ sl, sl = singlesL fs os := ⟨_, rfl⟩
      rw [← HSL] at R1 hslen hsbd
      have HSL' : Hid (sl = singlesL fs os) := HSL
      clear HSL
      have RA := Row.new wr 145 (madeCells #[.slice none 0 0] limit)
      have hA0 : (wr.alloc (.cells (madeCells #[.slice none 0 0] limit) 145)).cell? ⟨wr.heap.size, 0, none⟩ = some (.slice none 0 0) := RA.cell (by simp [madeCells, Nat.lt_of_lt_of_le Nat.zero_lt_one h1])
      have fA0 := RA.frozen 0
      have hGlt := R1.lt
      obtain ⟨GA, HGA⟩ : ∃ GA, wr.heap.size = GA := ⟨_, rfl⟩
      have hwGA : w.heap.size < GA := by omega
      rw [HGA] at RA hA0 fA0
      have HK : Hid (RowsIn w.heap.size (wr.alloc (.cells ((madeCells #[.slice none 0 0] limit).setIfInBounds 0 (.slice (some ⟨w.heap.size, 0, none⟩) os.length os.length)) 145)) GA limit sl 1 ∧ Below w.heap.size w (wr.alloc (.cells ((madeCells #[.slice none 0 0] limit).setIfInBounds 0 (.slice (some ⟨w.heap.size, 0, none⟩) os.length os.length)) 145)) ∧ Row (wr.alloc (.cells ((madeCells #[.slice none 0 0] limit).setIfInBounds 0 (.slice (some ⟨w.heap.size, 0, none⟩) os.length os.length)) 145)) w.heap.size 147 (coinA sl)) := by
        have hr0 := R1.alloc (.cells ((madeCells #[.slice none 0 0] limit).setIfInBounds 0 (.slice (some ⟨w.heap.size, 0, none⟩) os.length os.length)) 145)
        refine ⟨⟨fun _ => w.heap.size, _, by rw [← HGA]; exact Row.new _ _ _, by simp [size_madeCells], fun i hi => ?_, fun i hi => ?_⟩, hB.alloc hB.size _, hr0⟩
        · obtain rfl : i = 0 := by omega
          simp [madeCells, Nat.lt_of_lt_of_le Nat.zero_lt_one h1, rowN, hslen]
        · obtain rfl : i = 0 := by omega
          exact ⟨hr0, Nat.le_refl _⟩
      clear R1 RA hB R0 hB0
      go_wp2
      generalize wr.alloc (.cells ((madeCells #[.slice none 0 0] limit).setIfInBounds 0 (.slice (some ⟨w.heap.size, 0, none⟩) os.length os.length)) 145) = w3 at HK ⊢
      clear hA0 fA0 hmk2 HGA
      go_loopw [11] (fun i wr => ∃ k : Nat, 1 ≤ k ∧ k ≤ limit ∧ i = .int .i64 k ∧ RowsIn w.heap.size wr GA limit sl k ∧ Below w.heap.size w wr ∧ Row wr w.heap.size 147 (coinA sl))
        (fun i _ => limit - (intOf i).toNat)
      case atStart => exact ⟨1, Nat.le_refl _, h1, rfl, HK.out.1, HK.out.2.1, HK.out.2.2⟩
      case round =>
        clear HK
        obtain ⟨k, hk1, hkl, rfl, hRows, hBl, hS0⟩ := hrel
        by_cases hlt : k < limit
        · obtain ⟨g, cs, hRA, hcs, hcc, hgg⟩ := hRows
          obtain ⟨kp, rfl⟩ : ∃ kp, k = kp + 1 := ⟨k - 1, by omega⟩
          have cP := hRA.cell (hcc kp (by omega))
          obtain ⟨hRk, hgk⟩ := hgg kp (by omega)
          have hl1 := rowN_length sl kp
          have hb1 := rowN_bd sl 1073741824 hsbd kp
          have hp2 : 1073741824 * 2 ^ kp ≤ 1073741824 * 2 ^ 15 := Nat.mul_le_mul_left _ (Nat.pow_le_pow_right (by omega) (by omega))
          have hb2 : ∀ c ∈ rowN sl kp, 0 ≤ c.1 ∧ c.1 ≤ 4611686018427387903 := fun c hc => by have := hb1 c hc; omega
          have hPairs := pairs_any (fun x => x < wr.heap.size) (some ⟨g kp, 0, none⟩) (rowN sl kp).length (rowN sl kp) wr (fun _ h => h) (hRk.coins hRk.lt _) (by omega) hb2
          have e1 : (rowN sl kp).length / 2 = (pairsL (rowN sl kp)).length := (pairsL_length _).symm
          have hbp : ∀ c ∈ pairsL (rowN sl kp), 0 ≤ c.1 ∧ c.1 ≤ 4611686018427387903 := by
            intro c hc
            simp only [pairsL, upto, List.mem_map, List.mem_range] at hc
            obtain ⟨i, hi, rfl⟩ := hc
            have h1 := hb1 _ (List.getElem_mem (show 2 * i < (rowN sl kp).length by omega))
            have h2 := hb1 _ (List.getElem_mem (show 2 * i + 1 < (rowN sl kp).length by omega))
            simp only [pairF, show 2 * i < (rowN sl kp).length by omega, show 2 * i + 1 < (rowN sl kp).length by omega, List.getElem?_eq_getElem, Option.getD_some]
            omega
          have hbs : ∀ c ∈ sl, 0 ≤ c.1 ∧ c.1 ≤ 4611686018427387903 := fun c hc => by have := hsbd c hc; omega
          have cT : ∃ v, cs[kp + 1]? = some v := ⟨_, Array.getElem?_eq_getElem (by omega)⟩
          obtain ⟨vT, cT⟩ := cT
          rw [e1] at hPairs
          have HPairs : Hid _ := hPairs
          have hrow : rowN sl (kp + 1) = mergeL sl (pairsL (rowN sl kp)) := rfl
          have hrl : (rowN sl (kp + 1)).length = sl.length + (pairsL (rowN sl kp)).length := by rw [hrow, mergeL_length]
          clear hPairs hb1 hp2 hb2
          have HRW : Hid (∀ (w5 : World) (G : Nat), Below wr.heap.size wr w5 → wr.heap.size ≤ G → Row w5 G 147 (coinA (mergeL sl (pairsL (rowN sl kp)))) →
              RowsIn w.heap.size (w5.setCell ⟨GA, kp + 1, none⟩ (.slice (some ⟨G, 0, none⟩) (sl.length + (pairsL (rowN sl kp)).length) (sl.length + (pairsL (rowN sl kp)).length))) GA limit sl (kp + 1 + 1) ∧
              Below w.heap.size w (w5.setCell ⟨GA, kp + 1, none⟩ (.slice (some ⟨G, 0, none⟩) (sl.length + (pairsL (rowN sl kp)).length) (sl.length + (pairsL (rowN sl kp)).length))) ∧
              Row (w5.setCell ⟨GA, kp + 1, none⟩ (.slice (some ⟨G, 0, none⟩) (sl.length + (pairsL (rowN sl kp)).length) (sl.length + (pairsL (rowN sl kp)).length))) w.heap.size 147 (coinA sl)) := by
            intro w5 G hb hG hRG
            have hgl := hRA.lt
            have hk : Kept (fun x => x ≠ GA) w5 (w5.setCell ⟨GA, kp + 1, none⟩ (.slice (some ⟨G, 0, none⟩) (sl.length + (pairsL (rowN sl kp)).length) (sl.length + (pairsL (rowN sl kp)).length))) := (Kept.refl _ _).setCell (p := ⟨GA, kp + 1, none⟩) (by simp) _
            have hne : ∀ i, i < kp + 1 → g i ≠ GA := fun i hi e => by
              have h1 : wr.heap[g i]? = _ := (hgg i hi).1
              rw [e, show wr.heap[GA]? = _ from hRA] at h1
              simp at h1
            refine ⟨⟨fun i => if i = kp + 1 then G else g i, _, (hRA.below hb hgl).set (kp + 1) _, by simp [hcs], fun i hi => ?_, fun i hi => ?_⟩, (hBl.trans (hb.mono hBl.size)).setCell (p := ⟨GA, kp + 1, none⟩) (by simp; omega) _, (hS0.below hb hS0.lt).kept hk (by omega)⟩
            · by_cases e : i = kp + 1
              · subst e
                simp [hcs, hrl, show kp + 1 < limit from hlt]
              · rw [Array.getElem?_setIfInBounds, if_neg (fun h => e h.symm)]
                simpa [e] using hcc i (by omega)
            · by_cases e : i = kp + 1
              · subst e
                simp only [↓reduceIte]
                exact ⟨hRG.kept hk (by omega), by have := hBl.size; omega⟩
              · simp only [e, ↓reduceIte]
                have h1 := hgg i (by omega)
                exact ⟨(h1.1.below hb h1.1.lt).kept hk (hne i (by omega)), h1.2⟩
          have HMG : Hid (∀ w4, Below wr.heap.size wr w4 → Row w4 wr.heap.size 147 (coinA (pairsL (rowN sl kp))) → Calls Tryd.prog 91 #[.slice (some ⟨w.heap.size, 0, none⟩) os.length os.length, .slice (some ⟨wr.heap.size, 0, none⟩) (pairsL (rowN sl kp)).length (pairsL (rowN sl kp)).length] w4 fun e w' =>
              e = .returned (.slice (some ⟨w4.heap.size, 0, none⟩) (sl.length + (pairsL (rowN sl kp)).length) (sl.length + (pairsL (rowN sl kp)).length)) ∧ Row w' w4.heap.size 147 (coinA (mergeL sl (pairsL (rowN sl kp)))) ∧ Below w4.heap.size w4 w') := by
            intro w4 hb4 hR4
            have hlt4 := hR4.lt
            have h := merge_any (fun x => x < w4.heap.size) ⟨w.heap.size, 0, none⟩ ⟨wr.heap.size, 0, none⟩ sl.length (pairsL (rowN sl kp)).length sl (pairsL (rowN sl kp)) w4 (fun _ h => h) ((hS0.below hb4 hS0.lt).coins (by have := hS0.lt; have := hb4.size; omega) _) (hR4.coins hR4.lt _) (Nat.le_refl _) (Nat.le_refl _) (by omega) (by rw [pairsL_length]; omega) hbs hbp
            rwa [hslen] at h ⊢
          have HCT : Hid (∀ w5, Below wr.heap.size wr w5 → w5.cell? ⟨GA, kp + 1, none⟩ = some vT ∧ w5.frozen? ⟨GA, kp + 1, none⟩ = false) := fun w5 hb => ⟨(hRA.below hb hRA.lt).cell cT, (hRA.below hb hRA.lt).frozen _⟩
          have hGAlt := hRA.lt
          have HGL : Hid (GA < wr.heap.size) := hGAlt
          clear hRA hcc hgg hRk hS0 hBl hbp hbs cT hGAlt hcs hgk
          go_wp2_with fail
          refine Calls.mono HPairs.out ?_
          rintro e w4 ⟨rfl, hR4, hb4⟩
          go_wp2_with fail
          refine (HMG.out w4 hb4 hR4).mono ?_
          rintro e w5 ⟨rfl, hR5, hb5⟩
          have hb5' : Below wr.heap.size wr w5 := hb4.trans (hb5.mono hb4.size)
          obtain ⟨ct, ft⟩ := HCT.out w5 hb5'
          have HFIN : Hid _ := HRW.out w5 w4.heap.size hb5' hb4.size hR5
          clear cP HRW HMG HCT HPairs hR4 hR5 hb5 hb4 hb5'
          go_wp2
          go_roundw
          case rel =>
            have hf := HFIN.out
            rw [hslen] at hf
            exact ⟨kp + 1 + 1, by omega, by omega, by simp, hf.1, hf.2.1, hf.2.2⟩
          case measure => simp [intOf]; omega
        · obtain rfl : k = limit := by omega
          go_wp2
          go_ret
          exact ⟨GA, rfl, Nat.le_of_lt hwGA, HSL'.out ▸ hRows, hBl⟩
end Go.Proofs.YtinbilbgipfemaaDoor
