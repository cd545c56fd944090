/- merge: one row out of two, each by weight. -/
import Derived.Test.YtiakploggmmklaaCoin
import Derived.Laws.AppendOwn
import Derived.Deep.RegionLaw
namespace Go.Proofs.Ytiakploggmmklaa
open Go.RowKit

/-- append where what it makes is known, as one step of a region that draws. -/
theorem step_append_eq {P : Program} {ops : Array Oper} {o : Oper} {a : Act} {w : World} {K : Act → World → Prop} {Q : Exit → Act → World → Prop} {E : Prop}
    (hg : o.guard = none) (s x : Operand) (t : TypeId) (hop : o.op = Op.call { callee := Callee.builtin Builtin.append, args := #[s, x], argTypes := #[t, t] })
    (v u v' : Value) (w' : World) (hs : a.eval s = v) (hx : a.eval x = u) (hr : (Builtin.append_ #[t, t] o.type #[v, u]).run P w = .ok v' w') (hK : K (a.put o.dst v') w') :
    if Region.wanted o (yielded ops a.tmps) = true then Oper.wp P o a w K Q else E := by
  have hw : Region.wanted o (yielded ops a.tmps) = true := by simp [Region.wanted, hg]
  rw [if_pos hw]
  unfold Oper.wp
  simp [execOp, hop, resolve, invoke, builtin, hs, hx, hr, Result.andThen]
  exact hK

/-- .. and in a plain list of operations. -/
theorem wpList_append_eq {P : Program} {w : World} {ops : Array Oper} {rest : List Oper} {o : Oper} {a : Act} {Q : Exit → Act → World → Prop} (hgd : o.guard = none) (s x : Operand) (t : TypeId)
    (ho : o.op = .call { callee := .builtin .append, args := #[s, x], argTypes := #[t, t] }) (v u v' : Value) (w' : World) (hs : a.eval s = v) (hx : a.eval x = u)
    (hr : (Builtin.append_ #[t, t] o.type #[v, u]).run P w = .ok v' w') (h : wpList P ops Q rest (a.put o.dst v') w') : wpList P ops Q (o :: rest) a w := by
  refine wpList_plain hgd fun K hK => ?_
  unfold Oper.wp execOp
  simp only [ho, resolve, invoke, builtin, Sem.run_bind, Sem.run_pure, Result.andThen_ok, List.map_toArray, List.map_cons, List.map_nil, hs, hx, hr]
  exact hK _ _ h

set_option maxRecDepth 100000 in
/-- Coins onto a row that has room for them. -/
theorem app_coins (ty : TypeId) (W : World) (G N : Nat) (done rest : List Coin) (hR : Row W G 54 (coinA (done ++ rest))) (hN : done.length + rest.length ≤ N) (A : Addr) (c : Nat) (new : List Coin) (hnew : new.length ≤ rest.length)
    (hc : ∀ j u, (coinL new)[j]? = some u → W.cell? (A.add j) = some u) :
    (Builtin.append_ #[52, 52] ty #[.slice (some ⟨G, 0, none⟩) done.length N, .slice (some A) new.length c]).run Try.prog W = .ok (.slice (some ⟨G, 0, none⟩) (done.length + new.length) N) (W.setRow G (coinA (done ++ new ++ rest.drop new.length))) := by
  obtain ⟨i0, hi, hzz⟩ := Option.map_eq_some_iff.1 Try.info89
  simp only [Prod.mk.injEq] at hzz
  obtain ⟨hz0, hz1, hz2⟩ := hzz
  have h := run_append_room (P := Try.prog) W 52 ty 54 i0 Try.underlying52 hi G done.length N (coinA (done ++ rest)) hR A new.length c (coinL new) (by rw [coinL_length, hz1]; omega) hc
    (fun u hu => by simp only [coinL, List.mem_flatMap] at hu; obtain ⟨x, _, hx⟩ := hu; simp at hx; rcases hx with rfl | rfl <;> rfl) (by omega) (by rw [coinL_length, coinA_size, hz1, List.length_append]; omega)
  rw [h, hz1]
  congr 2
  simp only [coinA, coinL_append]
  have e1 : (coinL done).length = done.length * 2 := by rw [coinL_length]; omega
  have e2 : (coinL rest).drop (coinL new).length = coinL (rest.drop new.length) := by
    rw [coinL_length]
    clear h hc hN hR e1 hnew
    induction new generalizing rest with
    | nil => simp
    | cons c new ih =>
      cases rest with
      | nil => simp [coinL]
      | cons d rest =>
        rw [coinL_cons, show 2 * (c :: new).length = 2 * new.length + 1 + 1 by simp; omega]
        simpa using ih rest
  have t1 : List.take (done.length * 2) (coinL done ++ coinL rest) = coinL done := by rw [← e1]; simp
  have t2 : List.drop (done.length * 2 + (coinL new).length) (coinL done ++ coinL rest) = (coinL rest).drop (coinL new).length := by rw [← e1]; simp [List.drop_append]
  rw [t1, t2, e2]

theorem CoinsIn.tail {S : Nat → Prop} {W : World} {b off cap : Nat} {c : Coin} {l : List Coin} (h : CoinsIn S W (.slice (some ⟨b, off, none⟩) (c :: l).length cap) (c :: l)) (hcap : l.length + 1 ≤ cap) :
    CoinsIn S W (.slice (if cap = 1 then some ⟨b, off, none⟩ else some ⟨b, off + 2, none⟩) l.length (cap - 1)) l := by
  by_cases h1 : cap = 1
  · have : l = [] := List.eq_nil_of_length_eq_zero (by omega)
    subst this
    exact .inl ⟨rfl, _, _, rfl⟩
  · rw [if_neg h1]
    rcases h with ⟨e, _⟩ | ⟨b', off', cap', e, hb, hc⟩
    · simp at e
    · simp only [Value.slice.injEq, Option.some.injEq, Addr.mk.injEq] at e
      obtain ⟨⟨rfl, rfl, _⟩, _, _⟩ := e
      refine .inr ⟨b, off + 2, cap - 1, rfl, hb, fun j hj => ?_⟩
      have := hc (j + 1) (by simpa using hj)
      simp only [List.getElem_cons_succ] at this
      rw [show off + (j + 1) * 2 = off + 2 + j * 2 by omega] at this
      exact this

/-- One row out of two. -/
def mergeL : List Coin → List Coin → List Coin
  | [], b => b
  | a, [] => a
  | x :: a, y :: b => if x.1 ≤ y.1 then x :: mergeL a (y :: b) else y :: mergeL (x :: a) b
termination_by a b => a.length + b.length
theorem mergeL_nil (b : List Coin) : mergeL [] b = b := by cases b <;> simp [mergeL]
theorem mergeL_nil' (a : List Coin) : mergeL a [] = a := by cases a <;> simp [mergeL]

/-- A region's end: it runs through, the frame is A, the world W. -/
def regEnd (A : Act) (W : World) : Exit → Act → World → Prop
  | .normal, a, w => a = A ∧ w = W
  | _, _, _ => False

/-- Where the merging stands: what is left of either row, what is done. -/
def MRel (S : Nat → Prop) (w : World) (la lb : List Coin) (v0 v1 v5 : Value) (wr : World) : Prop :=
  ∃ (ra rb dn : List Coin) (a' b' : Addr) (ca' cb' : Nat), v0 = .slice (some a') ra.length ca' ∧ v1 = .slice (some b') rb.length cb' ∧ v5 = .slice (some ⟨w.heap.size, 0, none⟩) dn.length (la.length + lb.length) ∧
      dn.length + ra.length + rb.length = la.length + lb.length ∧ ra.length ≤ ca' ∧ rb.length ≤ cb' ∧ (∀ c ∈ ra, c ∈ la) ∧ (∀ c ∈ rb, c ∈ lb) ∧ CoinsIn S wr (.slice (some a') ra.length ca') ra ∧ CoinsIn S wr (.slice (some b') rb.length cb') rb ∧
      Row wr w.heap.size 54 (coinA (dn ++ List.replicate (ra.length + rb.length) (0, false))) ∧ Below w.heap.size w wr ∧ dn ++ mergeL ra rb = mergeL la lb
def lenOfV : Value → Nat
  | .slice _ n _ => n
  | _ => 0

set_option maxRecDepth 100000 in
set_option maxHeartbeats 2000000 in
theorem merge_any (S : Nat → Prop) (a b : Addr) (ca cb : Nat) (la lb : List Coin) (w : World) (hS : ∀ k, S k → k < w.heap.size) (hA : CoinsIn S w (.slice (some a) la.length ca) la) (hB : CoinsIn S w (.slice (some b) lb.length cb) lb)
    (hca : la.length ≤ ca) (hcb : lb.length ≤ cb) (hla : la.length ≤ 1000) (hlb : lb.length ≤ 1000) (hwa : ∀ c ∈ la, 0 ≤ c.1 ∧ c.1 ≤ 4611686018427387903) (hwb : ∀ c ∈ lb, 0 ≤ c.1 ∧ c.1 ≤ 4611686018427387903) :
    Calls Try.prog 20 #[.slice (some a) la.length ca, .slice (some b) lb.length cb] w fun e w' => e = .returned (.slice (some ⟨w.heap.size, 0, none⟩) (la.length + lb.length) (la.length + lb.length)) ∧ Row w' w.heap.size 54 (coinA (mergeL la lb)) ∧ Below w.heap.size w w' := by
  obtain ⟨i0, hi, hzz⟩ := Option.map_eq_some_iff.1 Try.info89
  simp only [Prod.mk.injEq] at hzz
  obtain ⟨hz0, hz1, hz2⟩ := hzz
  have hmk := fun w => run_make (P := Try.prog) w 52 54 i0 _ Try.underlying52 hi hz0 .i64 .i64 0 (la.length + lb.length) (by omega) (by omega) (by rw [hz2]; omega) (by omega)
  rw [hz1] at hmk
  simp only [Value.cells, show ((la.length : Int) + lb.length).toNat = la.length + lb.length by omega, coinA_made, Int.toNat_zero] at hmk
  go_enter Try.func20, Try.ntmps20
  go_wp2
  have R0 := Row.new w 54 (coinA (List.replicate (la.length + lb.length) (0, false)))
  have hB0 : Below w.heap.size w (w.alloc (.cells (coinA (List.replicate (la.length + lb.length) (0, false))) 54)) := (Below.refl _ w).alloc (Nat.le_refl _) _
  generalize w.alloc (.cells (coinA (List.replicate (la.length + lb.length) (0, false))) 54) = w1 at R0 hB0 ⊢
  clear hmk hz0 hz1 hz2 hi
  have hA1 := hA.kept (Kept.of_below hB0 hS)
  have hB1 := hB.kept (Kept.of_below hB0 hS)
  go_loopw [0, 1, 5] (MRel S w la lb)
    (fun v0 v1 _ _ => lenOfV v0 + lenOfV v1)
  case atStart => exact ⟨la, lb, [], a, b, ca, cb, rfl, rfl, rfl, by simp, hca, hcb, fun _ h => h, fun _ h => h, hA1, hB1, by simpa using R0, hB0, rfl⟩
  case round =>
    clear hA hB hA1 hB1 R0 hB0
    obtain ⟨ra, rb, dn, a', b', ca', cb', rfl, rfl, rfl, hsum, hca', hcb', hsa, hsb, hA, hB, hR, hBl, hM⟩ := hrel
    have fin : (ra = [] ∨ rb = []) → dn ++ ra ++ rb = mergeL la lb := by
      rintro (rfl | rfl)
      · rw [← hM, mergeL_nil]; simp
      · rw [← hM, mergeL_nil']; simp
    by_cases hend : ra = [] ∨ rb = []
    · have hf := fin hend
      clear fin
      have cellsOf : ∀ (W : World) (A : Addr) (c : Nat) (l : List Coin), CoinsIn S W (.slice (some A) l.length c) l → ∀ j u, (coinL l)[j]? = some u → W.cell? (A.add j) = some u := by
        intro W A c l hC j u hu
        rcases hC with ⟨rfl, _⟩ | ⟨b0, off, cap', e, _, hc⟩
        · simp [coinL] at hu
        · simp only [Value.slice.injEq, Option.some.injEq, true_and] at e
          obtain ⟨rfl, _⟩ := e
          have hj : j < 2 * l.length := by
            have := (List.getElem?_eq_some_iff.1 hu).1
            rwa [coinL_length] at this
          have hadd : (⟨b0, off, none⟩ : Addr).add j = ⟨b0, off + j, none⟩ := by unfold Addr.add; split <;> simp_all
          rw [hadd]
          have hq := coinL_at l (j / 2) (by omega)
          have hp := hc (j / 2) (by omega)
          rcases Nat.mod_two_eq_zero_or_one j with h0 | h0
          · have e1 : j / 2 * 2 = j := by omega
            rw [e1] at hq hp
            rw [hp.1, ← hq.1, hu]
          · have e1 : j / 2 * 2 + 1 = j := by omega
            rw [e1] at hq
            rw [show off + j / 2 * 2 + 1 = off + j by omega] at hp
            rw [hp.2, ← hq.2, hu]
      have HA1 : Hid (∀ ty, (Builtin.append_ #[52, 52] ty #[.slice (some ⟨w.heap.size, 0, none⟩) dn.length (la.length + lb.length), .slice (some a') ra.length ca']).run Try.prog wr =
          .ok (.slice (some ⟨w.heap.size, 0, none⟩) (dn.length + ra.length) (la.length + lb.length)) (wr.setRow w.heap.size (coinA (dn ++ ra ++ List.replicate rb.length (0, false))))) := by
        intro ty
        rw [app_coins ty wr w.heap.size _ dn _ hR (by simp; omega) a' ca' ra (by simp) (cellsOf wr a' ca' ra hA), List.drop_replicate, show ra.length + rb.length - ra.length = rb.length by omega]
      have hR2 := hR.setRow (coinA (dn ++ ra ++ List.replicate rb.length (0, false)))
      have hk2 : Kept S wr (wr.setRow w.heap.size (coinA (dn ++ ra ++ List.replicate rb.length (0, false)))) := (Kept.refl _ wr).setRow (fun h => by have := hS _ h; omega) _
      have hB2 := hB.kept hk2
      have hBl2 : Below w.heap.size w (wr.setRow w.heap.size (coinA (dn ++ ra ++ List.replicate rb.length (0, false)))) := below_setRow hBl (Nat.le_refl _) _
      obtain ⟨wq, HQ⟩ : ∃ wq, wq = wr.setRow w.heap.size (coinA (dn ++ ra ++ List.replicate rb.length (0, false))) := ⟨_, rfl⟩
      rw [← HQ] at HA1 hR2 hB2 hBl2
      clear HQ
      have HA2 : Hid (∀ ty, (Builtin.append_ #[52, 52] ty #[.slice (some ⟨w.heap.size, 0, none⟩) (dn.length + ra.length) (la.length + lb.length), .slice (some b') rb.length cb']).run Try.prog wq =
          .ok (.slice (some ⟨w.heap.size, 0, none⟩) (la.length + lb.length) (la.length + lb.length)) (wq.setRow w.heap.size (coinA (dn ++ ra ++ rb)))) := by
        intro ty
        have h := app_coins ty wq w.heap.size (la.length + lb.length) (dn ++ ra) _ hR2 (by simp; omega) b' cb' rb (by simp) (cellsOf wq b' cb' rb hB2)
        rw [List.length_append] at h
        rw [h, List.drop_replicate, show rb.length - rb.length = 0 by omega, hsum]
        simp
      have HF : Hid (Row (wq.setRow w.heap.size (coinA (dn ++ ra ++ rb))) w.heap.size 54 (coinA (mergeL la lb)) ∧ Below w.heap.size w (wq.setRow w.heap.size (coinA (dn ++ ra ++ rb)))) :=
        ⟨hf ▸ hR2.setRow _, below_setRow hBl2 (Nat.le_refl _) _⟩
      have hcase : ¬ (0 : Int) < ra.length ∨ ((0 : Int) < ra.length ∧ ¬ (0 : Int) < rb.length) := by
        rcases hend with rfl | rfl
        · exact .inl (by simp)
        · by_cases h : (0 : Int) < ra.length
          · exact .inr ⟨h, by simp⟩
          · exact .inl h
      clear cellsOf hR2 hk2 hB2 hBl2 hA hB hR hBl hM hf hend
      have t1 := fun (ops : Array Oper) (rest : List Oper) => HA1
      clear t1
      rcases hcase with h | ⟨h, h'⟩
      all_goals
        go_wp2_with (at_builtin; first
          | refine wpList_append_eq rfl (.tmp 45) (.tmp 46) 52 rfl _ _ _ _ rfl rfl (HA1.out _) ?_
          | refine wpList_append_eq rfl (.tmp 47) (.tmp 48) 52 rfl _ _ _ _ rfl rfl (HA2.out _) ?_)
        go_ret
        exact ⟨rfl, by have := HF.out; rwa [List.append_assoc] at this⟩
    clear fin
    cases ra with
    | nil => exact absurd (.inl rfl) hend
    | cons x ra =>
      cases rb with
      | nil => exact absurd (.inr rfl) hend
      | cons y rb =>
        clear hend
        obtain ⟨ba, oa, hea, hba, x0, x1⟩ := hA.at 0 (by simp)
        obtain ⟨bb, ob, heb, hbb, y0, y1⟩ := hB.at 0 (by simp)
        obtain rfl : a' = ⟨ba, oa, none⟩ := by simpa using hea
        obtain rfl : b' = ⟨bb, ob, none⟩ := by simpa using heb
        clear hea heb
        simp only [Nat.zero_mul, Nat.add_zero, List.getElem_cons_zero] at x0 x1 y0 y1
        have hax := hwa x (hsa x (by simp))
        have hay := hwb y (hsb y (by simp))
        by_cases hle : x.1 ≤ y.1
        · have hx1 : mergeL (x :: ra) (y :: rb) = x :: mergeL ra (y :: rb) := by rw [mergeL, if_pos hle]
          have HAPP : Hid (∀ (ty : TypeId) (W : World) (T : Nat), Row W w.heap.size 54 (coinA (dn ++ List.replicate ((x :: ra).length + (y :: rb).length) (0, false))) → W.cell? ⟨T, 0, none⟩ = some (.int .i64 x.1) → W.cell? ⟨T, 1, none⟩ = some (.bool x.2) →
              (Builtin.append_ #[52, 52] ty #[.slice (some ⟨w.heap.size, 0, none⟩) dn.length (la.length + lb.length), .slice (some ⟨T, 0, none⟩) 1 1]).run Try.prog W =
                .ok (.slice (some ⟨w.heap.size, 0, none⟩) (dn.length + 1) (la.length + lb.length)) (W.setRow w.heap.size (coinA (dn ++ [x] ++ List.replicate (ra.length + (y :: rb).length) (0, false))))) := by
            intro ty W T hr h0 h1
            have h := app_coins ty W w.heap.size (la.length + lb.length) dn _ hr (by simp at hsum ⊢; omega) ⟨T, 0, none⟩ 1 [x] (by simp; omega) (fun j u hu => by
              have hadd : (⟨T, 0, none⟩ : Addr).add j = ⟨T, j, none⟩ := by unfold Addr.add; split <;> simp_all
              rw [hadd]
              match j, hu with
              | 0, hu => simp [coinL] at hu; subst hu; exact h0
              | 1, hu => simp [coinL] at hu; subst hu; exact h1)
            rw [List.length_singleton] at h
            rw [h, List.drop_replicate]
            congr 5
            simp
            omega
          have HX : Hid (dn ++ [x] ++ mergeL ra (y :: rb) = mergeL la lb) := by
            show _ = _
            rw [← hM, hx1]
            simp
          have HTA : Hid (∀ W, Kept S wr W → CoinsIn S W (.slice (if ca' = 1 then some ⟨ba, oa, none⟩ else some ⟨ba, oa + 2, none⟩) ra.length (ca' - 1)) ra) := by
            intro W hk
            exact CoinsIn.tail (hA.kept hk) (by simpa using hca')
          obtain ⟨A', hA'⟩ : ∃ A', (if ca' = 1 then some (⟨ba, oa, none⟩ : Addr) else some ⟨ba, oa + 2, none⟩) = some A' := by split <;> exact ⟨_, rfl⟩
          rw [hA'] at HTA
          have HTB : Hid (∀ W, Kept S wr W → CoinsIn S W (.slice (some ⟨bb, ob, none⟩) (y :: rb).length cb') (y :: rb)) := fun W hk => hB.kept hk
          clear hA hB hx1 hM
          obtain ⟨xv, xs⟩ := x
          obtain ⟨yv, ys⟩ := y
          simp only at *
          go_wp2
          go_region
          go_wp2
          have hRq : Row wr.drew w.heap.size 54 (coinA (dn ++ List.replicate (((xv, xs) :: ra).length + ((yv, ys) :: rb).length) (0, false))) := hR
          have x0q : wr.drew.cell? ⟨ba, oa, none⟩ = some (.int .i64 xv) := x0
          have x1q : wr.drew.cell? ⟨ba, oa + 1, none⟩ = some (.bool xs) := x1
          have hBq : Below w.heap.size w wr.drew := hBl.drew
          have HKq : Hid (Kept S wr wr.drew) := (Kept.refl _ wr).drew
          clear x0 x1 y0 y1 hR hBl
          generalize wr.drew = wq at hRq x0q x1q hBq HKq ⊢
          have hlt := hBq.size
          have HRA : Hid (Row (wq.drew.alloc (.cells #[.int .i64 xv, .bool xs] 54)) w.heap.size 54 (coinA (dn ++ List.replicate (((xv, xs) :: ra).length + ((yv, ys) :: rb).length) (0, false)))) := Row.alloc (W := wq.drew) hRq _
          have HC0 : Hid ((wq.drew.alloc (.cells #[.int .i64 xv, .bool xs] 54)).cell? ⟨wq.heap.size, 0, none⟩ = some (.int .i64 xv)) := (Row.new wq.drew 54 #[.int .i64 xv, .bool xs]).cell rfl
          have HC1 : Hid ((wq.drew.alloc (.cells #[.int .i64 xv, .bool xs] 54)).cell? ⟨wq.heap.size, 1, none⟩ = some (.bool xs)) := (Row.new wq.drew 54 #[.int .i64 xv, .bool xs]).cell rfl
          have hge : (1 : Int) ≤ (ra.length : Int) + 1 := by omega
          have HM : Hid (MRel S w la lb (.slice (some A') ra.length (ca' - 1)) (.slice (some ⟨bb, ob, none⟩) (rb.length + 1) cb') (.slice (some ⟨w.heap.size, 0, none⟩) (dn.length + 1) (la.length + lb.length))
              ((wq.alloc (.cells #[.int .i64 xv, .bool xs] 54)).drew.setRow w.heap.size (coinA (dn ++ (xv, xs) :: List.replicate (ra.length + (rb.length + 1)) (0, false))))) := by
            have hk : Kept S wr ((wq.alloc (.cells #[.int .i64 xv, .bool xs] 54)).drew.setRow w.heap.size (coinA (dn ++ (xv, xs) :: List.replicate (ra.length + (rb.length + 1)) (0, false)))) :=
              ((HKq.out.alloc (fun k hk => by have := hS k hk; omega) _).drew).setRow (fun h => by have := hS _ h; omega) _
            refine ⟨ra, (yv, ys) :: rb, dn ++ [(xv, xs)], A', ⟨bb, ob, none⟩, ca' - 1, cb', rfl, rfl, by simp, by simp at hsum ⊢; omega, by simp at hca'; omega, hcb', fun c hc => hsa c (by simp [hc]), hsb, HTA.out _ hk, HTB.out _ hk, ?_, ?_, by rw [HX.out]⟩
            · have := Row.setRow (W := (wq.alloc (.cells #[.int .i64 xv, .bool xs] 54)).drew) (cs := coinA (dn ++ List.replicate (((xv, xs) :: ra).length + ((yv, ys) :: rb).length) (0, false))) (t := 54) (coinA (dn ++ (xv, xs) :: List.replicate (ra.length + (rb.length + 1)) (0, false))) (Row.alloc hRq (.cells #[.int .i64 xv, .bool xs] 54))
              simpa using this
            · exact below_setRow (hBq.alloc hlt _).drew (Nat.le_refl _) _
          refine wp_mono (Q := regEnd { tmps := #[.slice (some A') ra.length (ca' - 1), .slice (some ⟨bb, ob, none⟩) (rb.length + 1) cb', undef, undef, .slice none 0 0, .slice (some ⟨w.heap.size, 0, none⟩) (dn.length + 1) (la.length + lb.length), .slice (some a) la.length ca, .int .i64 la.length, .slice (some b) lb.length cb, .int .i64 lb.length, .int .i64 (la.length + lb.length), .slice (some ⟨w.heap.size, 0, none⟩) 0 (la.length + lb.length), .slice (some ⟨ba, oa, none⟩) (ra.length + 1) ca', .int .i64 (ra.length + 1), .bool true, .bool true, .slice (some ⟨bb, ob, none⟩) (rb.length + 1) cb', .int .i64 (rb.length + 1), .bool true, .bool true, .slice (some ⟨ba, oa, none⟩) (ra.length + 1) ca', .pointer (some ⟨ba, oa, none⟩), .pointer (some ⟨ba, oa, none⟩), .int .i64 xv, .slice (some ⟨bb, ob, none⟩) (rb.length + 1) cb', .pointer (some ⟨bb, ob, none⟩), .pointer (some ⟨bb, ob, none⟩), .int .i64 yv, .bool true, .slice (some ⟨w.heap.size, 0, none⟩) dn.length (la.length + lb.length), .slice (some ⟨ba, oa, none⟩) (ra.length + 1) ca', .pointer (some ⟨ba, oa, none⟩), .agg #[.int .i64 xv, .bool xs], .slice (some ⟨wq.heap.size, 0, none⟩) 1 1, .slice (some ⟨w.heap.size, 0, none⟩) (dn.length + 1) (la.length + lb.length), .slice (some ⟨ba, oa, none⟩) (ra.length + 1) ca', .slice (some A') ra.length (ca' - 1), u37, u38, u39, u40, u41, u42, u43, u44, undef, undef, undef, undef, undef], defers := [] }
            ((wq.alloc (.cells #[.int .i64 xv, .bool xs] 54)).drew.setRow w.heap.size (coinA (dn ++ (xv, xs) :: List.replicate (ra.length + (rb.length + 1)) (0, false))))) ?reg ?rest
          case reg =>
            go_region_law (refine step_append_eq rfl (.tmp 29) (.tmp 33) 52 rfl _ _ _ _ (by simp [Act.eval]) (by simp [Act.eval]) (HAPP.out _ (wq.drew.alloc (.cells #[.int .i64 xv, .bool xs] 54)) wq.heap.size HRA.out HC0.out HC1.out) ?_)
            all_goals exact ⟨rfl, rfl⟩
          case rest =>
            intro e a' w' hq
            cases e <;> simp only [regEnd] at hq
            obtain ⟨rfl, rfl⟩ := hq
            go_wp2
            go_roundw
            case rel => exact HM.out
            case measure => simp [lenOfV]
        · have hx1 : mergeL (x :: ra) (y :: rb) = y :: mergeL (x :: ra) rb := by rw [mergeL, if_neg hle]
          have HAPP : Hid (∀ (ty : TypeId) (W : World) (T : Nat), Row W w.heap.size 54 (coinA (dn ++ List.replicate ((x :: ra).length + (y :: rb).length) (0, false))) → W.cell? ⟨T, 0, none⟩ = some (.int .i64 y.1) → W.cell? ⟨T, 1, none⟩ = some (.bool y.2) →
              (Builtin.append_ #[52, 52] ty #[.slice (some ⟨w.heap.size, 0, none⟩) dn.length (la.length + lb.length), .slice (some ⟨T, 0, none⟩) 1 1]).run Try.prog W =
                .ok (.slice (some ⟨w.heap.size, 0, none⟩) (dn.length + 1) (la.length + lb.length)) (W.setRow w.heap.size (coinA (dn ++ [y] ++ List.replicate ((x :: ra).length + rb.length) (0, false))))) := by
            intro ty W T hr h0 h1
            have h := app_coins ty W w.heap.size (la.length + lb.length) dn _ hr (by simp at hsum ⊢; omega) ⟨T, 0, none⟩ 1 [y] (by simp; omega) (fun j u hu => by
              have hadd : (⟨T, 0, none⟩ : Addr).add j = ⟨T, j, none⟩ := by unfold Addr.add; split <;> simp_all
              rw [hadd]
              match j, hu with
              | 0, hu => simp [coinL] at hu; subst hu; exact h0
              | 1, hu => simp [coinL] at hu; subst hu; exact h1)
            rw [List.length_singleton] at h
            rw [h, List.drop_replicate]
            congr 5
          have HX : Hid (dn ++ [y] ++ mergeL (x :: ra) rb = mergeL la lb) := by
            show _ = _
            rw [← hM, hx1]
            simp
          have HTA : Hid (∀ W, Kept S wr W → CoinsIn S W (.slice (if cb' = 1 then some ⟨bb, ob, none⟩ else some ⟨bb, ob + 2, none⟩) rb.length (cb' - 1)) rb) := by
            intro W hk
            exact CoinsIn.tail (hB.kept hk) (by simpa using hcb')
          obtain ⟨A', hA'⟩ : ∃ A', (if cb' = 1 then some (⟨bb, ob, none⟩ : Addr) else some ⟨bb, ob + 2, none⟩) = some A' := by split <;> exact ⟨_, rfl⟩
          rw [hA'] at HTA
          have HTB : Hid (∀ W, Kept S wr W → CoinsIn S W (.slice (some ⟨ba, oa, none⟩) (x :: ra).length ca') (x :: ra)) := fun W hk => hA.kept hk
          clear hA hB hx1 hM
          obtain ⟨xv, xs⟩ := x
          obtain ⟨yv, ys⟩ := y
          simp only at *
          go_wp2
          go_region
          go_wp2
          have hRq : Row wr.drew w.heap.size 54 (coinA (dn ++ List.replicate (((xv, xs) :: ra).length + ((yv, ys) :: rb).length) (0, false))) := hR
          have x0q : wr.drew.cell? ⟨bb, ob, none⟩ = some (.int .i64 yv) := y0
          have x1q : wr.drew.cell? ⟨bb, ob + 1, none⟩ = some (.bool ys) := y1
          have hBq : Below w.heap.size w wr.drew := hBl.drew
          have HKq : Hid (Kept S wr wr.drew) := (Kept.refl _ wr).drew
          clear x0 x1 y0 y1 hR hBl
          generalize wr.drew = wq at hRq x0q x1q hBq HKq ⊢
          have hlt := hBq.size
          have HRA : Hid (Row (wq.drew.alloc (.cells #[.int .i64 yv, .bool ys] 54)) w.heap.size 54 (coinA (dn ++ List.replicate (((xv, xs) :: ra).length + ((yv, ys) :: rb).length) (0, false)))) := Row.alloc (W := wq.drew) hRq _
          have HC0 : Hid ((wq.drew.alloc (.cells #[.int .i64 yv, .bool ys] 54)).cell? ⟨wq.heap.size, 0, none⟩ = some (.int .i64 yv)) := (Row.new wq.drew 54 #[.int .i64 yv, .bool ys]).cell rfl
          have HC1 : Hid ((wq.drew.alloc (.cells #[.int .i64 yv, .bool ys] 54)).cell? ⟨wq.heap.size, 1, none⟩ = some (.bool ys)) := (Row.new wq.drew 54 #[.int .i64 yv, .bool ys]).cell rfl
          have hge : (1 : Int) ≤ (rb.length : Int) + 1 := by omega
          have HM : Hid (MRel S w la lb (.slice (some ⟨ba, oa, none⟩) (ra.length + 1) ca') (.slice (some A') rb.length (cb' - 1)) (.slice (some ⟨w.heap.size, 0, none⟩) (dn.length + 1) (la.length + lb.length))
              ((wq.alloc (.cells #[.int .i64 yv, .bool ys] 54)).drew.setRow w.heap.size (coinA (dn ++ (yv, ys) :: List.replicate (ra.length + 1 + rb.length) (0, false))))) := by
            have hk : Kept S wr ((wq.alloc (.cells #[.int .i64 yv, .bool ys] 54)).drew.setRow w.heap.size (coinA (dn ++ (yv, ys) :: List.replicate (ra.length + 1 + rb.length) (0, false)))) :=
              ((HKq.out.alloc (fun k hk => by have := hS k hk; omega) _).drew).setRow (fun h => by have := hS _ h; omega) _
            refine ⟨(xv, xs) :: ra, rb, dn ++ [(yv, ys)], ⟨ba, oa, none⟩, A', ca', cb' - 1, rfl, rfl, by simp, by simp at hsum ⊢; omega, hca', by simp at hcb'; omega, hsa, fun c hc => hsb c (by simp [hc]), HTB.out _ hk, HTA.out _ hk, ?_, ?_, by rw [HX.out]⟩
            · have := Row.setRow (W := (wq.alloc (.cells #[.int .i64 yv, .bool ys] 54)).drew) (cs := coinA (dn ++ List.replicate (((xv, xs) :: ra).length + ((yv, ys) :: rb).length) (0, false))) (t := 54) (coinA (dn ++ (yv, ys) :: List.replicate (ra.length + 1 + rb.length) (0, false))) (Row.alloc hRq (.cells #[.int .i64 yv, .bool ys] 54))
              simpa using this
            · exact below_setRow (hBq.alloc hlt _).drew (Nat.le_refl _) _
          refine wp_mono (Q := regEnd { tmps := #[.slice (some ⟨ba, oa, none⟩) (ra.length + 1) ca', .slice (some A') rb.length (cb' - 1), undef, undef, .slice none 0 0, .slice (some ⟨w.heap.size, 0, none⟩) (dn.length + 1) (la.length + lb.length), .slice (some a) la.length ca, .int .i64 la.length, .slice (some b) lb.length cb, .int .i64 lb.length, .int .i64 (la.length + lb.length), .slice (some ⟨w.heap.size, 0, none⟩) 0 (la.length + lb.length), .slice (some ⟨ba, oa, none⟩) (ra.length + 1) ca', .int .i64 (ra.length + 1), .bool true, .bool true, .slice (some ⟨bb, ob, none⟩) (rb.length + 1) cb', .int .i64 (rb.length + 1), .bool true, .bool true, .slice (some ⟨ba, oa, none⟩) (ra.length + 1) ca', .pointer (some ⟨ba, oa, none⟩), .pointer (some ⟨ba, oa, none⟩), .int .i64 xv, .slice (some ⟨bb, ob, none⟩) (rb.length + 1) cb', .pointer (some ⟨bb, ob, none⟩), .pointer (some ⟨bb, ob, none⟩), .int .i64 yv, .bool (decide (xv ≤ yv)), u29, u30, u31, u32, u33, u34, u35, u36, .slice (some ⟨w.heap.size, 0, none⟩) dn.length (la.length + lb.length), .slice (some ⟨bb, ob, none⟩) (rb.length + 1) cb', .pointer (some ⟨bb, ob, none⟩), .agg #[.int .i64 yv, .bool ys], .slice (some ⟨wq.heap.size, 0, none⟩) 1 1, .slice (some ⟨w.heap.size, 0, none⟩) (dn.length + 1) (la.length + lb.length), .slice (some ⟨bb, ob, none⟩) (rb.length + 1) cb', .slice (some A') rb.length (cb' - 1), undef, undef, undef, undef, undef], defers := [] }
            ((wq.alloc (.cells #[.int .i64 yv, .bool ys] 54)).drew.setRow w.heap.size (coinA (dn ++ (yv, ys) :: List.replicate (ra.length + 1 + rb.length) (0, false))))) ?reg ?rest
          case reg =>
            go_region_law (refine step_append_eq rfl (.tmp 37) (.tmp 41) 52 rfl _ _ _ _ (by simp [Act.eval]) (by simp [Act.eval]) (HAPP.out _ (wq.drew.alloc (.cells #[.int .i64 yv, .bool ys] 54)) wq.heap.size HRA.out HC0.out HC1.out) ?_)
            all_goals exact ⟨rfl, rfl⟩
          case rest =>
            intro e a' w' hq
            cases e <;> simp only [regEnd] at hq
            obtain ⟨rfl, rfl⟩ := hq
            go_wp2
            go_roundw
            case rel => exact HM.out
            case measure => simp [lenOfV]
end Go.Proofs.Ytiakploggmmklaa
