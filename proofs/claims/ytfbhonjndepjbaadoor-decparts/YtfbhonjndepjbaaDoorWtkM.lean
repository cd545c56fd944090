import Derived.Test.YtfbhonjndepjbaaDoorWtd
import Derived.Test.YtfbhonjndepjbaaDoorPdvM
import Derived.LoopN
import Derived.Laws.MakeOwn
/- taken: Decs as numbers in their short form. -/
namespace Go.Proofs.YtfbhonjndepjbaaDoor
open Go.RowKit

theorem wpList_append_eq {P : Program} {w : World} {ops : Array Oper} {rest : List Oper} {o : Oper} {a : Act} {Q : Exit → Act → World → Prop} (hgd : o.guard = none) (s x : Operand) (t : TypeId)
    (ho : o.op = .call { callee := .builtin .append, args := #[s, x], argTypes := #[t, t] }) (v u v' : Value) (w' : World) (hs : a.eval s = v) (hx : a.eval x = u)
    (hr : (Builtin.append_ #[t, t] o.type #[v, u]).run P w = .ok v' w') (h : wpList P ops Q rest (a.put o.dst v') w') : wpList P ops Q (o :: rest) a w := by
  refine wpList_plain hgd fun K hK => ?_
  unfold Oper.wp execOp
  simp only [ho, resolve, invoke, builtin, Sem.run_bind, Sem.run_pure, Result.andThen_ok, List.map_toArray, List.map_cons, List.map_nil, hs, hx, hr]
  exact hK _ _ h
theorem Tryd.info57 : (Tryd.prog.info? 59).map (fun i => (i.zero, i.size, i.bytes)) = some (some (.agg #[.bool false, .int .u64 0, .int .u64 0, .int .i64 0]), 4, 32) := by kernel_rfl
theorem make57 (n : Nat) (hn : n ≤ 1000) (w : World) : (Instr.makeSlice 53 (.int .i64 0) (.int .i64 (n : Int))).run Tryd.prog w = .ok (.slice (some ⟨w.heap.size, 0, none⟩) 0 n) (w.alloc (.cells (madeCells #[.bool false, .int .u64 0, .int .u64 0, .int .i64 0] (n * 4)) 59)) := by
  obtain ⟨i0, hi, hzz⟩ := Option.map_eq_some_iff.1 Tryd.info57
  simp only [Prod.mk.injEq] at hzz
  obtain ⟨hz0, hz1, hz2⟩ := hzz
  have := run_makeSlice (P := Tryd.prog) w 53 59 i0 _ Tryd.underlying53 hi hz0 .i64 .i64 0 (n : Int) (by omega) (by omega) (by rw [hz1]; simp; omega) (by rw [hz2]; omega) (by omega)
  rw [hz1] at this
  simpa [Value.cells] using this
theorem app57 (W : World) (G N k : Nat) (cur : Array Value) (hR : Row W G 59 cur) (A c : Nat) (x0 x1 x2 x3 : Value) (hA : Row W A 59 #[x0, x1, x2, x3]) (h1 : ∀ u ∈ [x0, x1, x2, x3], u.oneCell' = true) (hk : k + 1 ≤ N) (hs : k * 4 + 4 ≤ cur.size) :
    (Builtin.append_ #[53, 53] 53 #[.slice (some ⟨G, 0, none⟩) k N, .slice (some ⟨A, 0, none⟩) 1 c]).run Tryd.prog W = .ok (.slice (some ⟨G, 0, none⟩) (k + 1) N) (W.setRow G (cur.toList.take (k * 4) ++ [x0, x1, x2, x3] ++ cur.toList.drop (k * 4 + 4)).toArray) := by
  obtain ⟨i0, hi, hzz⟩ := Option.map_eq_some_iff.1 Tryd.info57
  simp only [Prod.mk.injEq] at hzz
  obtain ⟨hz0, hz1, hz2⟩ := hzz
  have h := run_append_room (P := Tryd.prog) W 53 53 59 i0 Tryd.underlying53 hi G k N cur hR ⟨A, 0, none⟩ 1 c [x0, x1, x2, x3] (by rw [hz1]; rfl)
    (by
      obtain ⟨a0, a1, a2, a3⟩ := hA.four
      intro j u hj
      match j, hj with
      | 0, hj => simp at hj; subst hj; simpa [Addr.add] using a0
      | 1, hj => simp at hj; subst hj; simpa [Addr.add] using a1
      | 2, hj => simp at hj; subst hj; simpa [Addr.add] using a2
      | 3, hj => simp at hj; subst hj; simpa [Addr.add] using a3
      | j + 4, hj => simp at hj)
    h1 hk (by rw [hz1]; simpa using hs)
  rw [hz1] at h
  exact h
theorem number_W (c e : Int) (h1 : -9223372036854775808 ≤ c) (h2 : c ≤ 9223372036854775807) (w : World) : Calls Tryd.prog 62 #[.int .i64 c, .int .i64 e] w fun r w' => r = .returned (numW c e).val ∧ Below w.heap.size w w' := by
  refine (number_any c e h1 h2 w).mono ?_
  rintro r w' ⟨rfl, hB⟩
  refine ⟨?_, hB⟩
  unfold numW Wd.val
  simp only
  rw [show c.natAbs / 18446744073709551616 = 0 by omega, show c.natAbs % 18446744073709551616 = c.natAbs by omega]
def within (e : Int) : Prop := -18 ≤ e ∧ e ≤ 18
def I64 (c : Int) : Prop := -9223372036854775808 ≤ c ∧ c ≤ 9223372036854775807

set_option maxRecDepth 100000 in
set_option maxHeartbeats 1000000 in
theorem taken1 (c e : Int) (K : Nat) (w : World) (hc : I64 c) (he : within e) (hK : Row w K 23 #[.int .i64 c, .int .i64 e]) :
    Calls Tryd.prog 49 #[.slice (some ⟨K, 0, none⟩) 1 1] w fun r w' => Below w.heap.size w w' ∧ ∃ G, w.heap.size ≤ G ∧ r = .returned (.tuple #[.slice (some ⟨G, 0, none⟩) 1 1, .int .i64 0]) ∧ Row w' G 59 (decW c e).cells := by
  obtain ⟨k0, k1⟩ := hK.duo
  have mk := make57 1 (by omega)
  have hN := number_W c e hc.1 hc.2
  have hS := short_any (numW c e) (by unfold numW M128; have := hc.1; have := hc.2; simp only; omega) (by have := he.2; unfold numW; simp only; omega) (by have := he.1; unfold numW; simp only; omega)
  rw [show shortW (numW c e) = decW c e from rfl] at hS
  generalize decW c e = y at *
  obtain ⟨y0, y1, y2, y3, hy, hy1⟩ : ∃ y0 y1 y2 y3, y.cells = #[y0, y1, y2, y3] ∧ ∀ u ∈ [y0, y1, y2, y3], u.oneCell' = true := ⟨_, _, _, _, rfl, by simp [Value.oneCell']⟩
  simp only [Wd.val_eq] at hN hS
  rw [hy] at hS ⊢
  have HI : Hid (decide (-18 ≤ e ∧ e ≤ 18) = true) := decide_eq_true he
  have hKlt := hK.lt
  go_enter Tryd.func49, Tryd.ntmps49
  go_wp2_with fail
  rw [show (1 : Int) = ((1 : Nat) : Int) from rfl, mk]
  rw [show madeCells #[.bool false, .int .u64 0, .int .u64 0, .int .i64 0] (1 * 4) = #[.bool false, .int .u64 0, .int .u64 0, .int .i64 0] by kernel_rfl]
  go_wp2_with fail
  refine wp_loop_rounds 2 ?_
  rw [rounds_succ]
  go_wp2_with (go_at_call 65; refine (within_any _ _).mono ?_; rintro _ w10 ⟨rfl, hw10⟩; subst hw10; rw [HI.out])
  refine (hN _).mono ?_
  rintro _ wa ⟨rfl, ha⟩
  obtain ⟨hG, _, hB⟩ := two_rows w wa _ _ _ _ ha
  clear ha
  go_wp2_with fail
  refine (hS _).mono ?_
  rintro _ wb ⟨rfl, hb⟩
  have hG := hG.below hb hG.lt
  have hB := hB.trans (hb.mono hB.size)
  clear hb
  have hA := Row.new wb 59 #[y0, y1, y2, y3]
  have hG2 := hG.alloc (.cells #[y0, y1, y2, y3] 59)
  have HAP := app57 _ w.heap.size 1 0 _ hG2 wb.heap.size 1 y0 y1 y2 y3 hA hy1 (by omega) (by simp)
  have HAP : Hid ((Builtin.append_ #[53, 53] 53 #[.slice (some ⟨w.heap.size, 0, none⟩) 0 1, .slice (some ⟨wb.heap.size, 0, none⟩) 1 1]).run Tryd.prog (wb.alloc (.cells #[y0, y1, y2, y3] 59)) = .ok (.slice (some ⟨w.heap.size, 0, none⟩) 1 1) ((wb.alloc (.cells #[y0, y1, y2, y3] 59)).setRow w.heap.size #[y0, y1, y2, y3])) := HAP
  have hGlt := hG.lt
  have hR := hG2.setRow #[y0, y1, y2, y3]
  have hBR := below_setRow (hB.alloc (by omega) (.cells #[y0, y1, y2, y3] 59)) (Nat.le_refl w.heap.size) #[y0, y1, y2, y3]
  obtain ⟨W3, hW3⟩ : ∃ W3, (wb.alloc (.cells #[y0, y1, y2, y3] 59)).setRow w.heap.size #[y0, y1, y2, y3] = W3 := ⟨_, rfl⟩
  rw [hW3] at HAP hR hBR
  clear hW3 hN hS mk
  go_wp2_with (at_builtin; refine wpList_append_eq rfl (.tmp 20) (.tmp 27) 53 rfl _ _ _ _ rfl rfl HAP.out ?_)
  rw [rounds_succ]
  go_wp2
  exact bodyPost_ret (results_tmp2 rfl _ _ _) rfl ⟨hBR, w.heap.size, Nat.le_refl _, rfl, hR⟩
end Go.Proofs.YtfbhonjndepjbaaDoor
/- taken: two Decs as numbers in their short form. -/
namespace Go.Proofs.YtfbhonjndepjbaaDoor
open Go.RowKit

set_option maxRecDepth 100000 in
set_option maxHeartbeats 1000000 in
theorem taken2 (c e c2 e2 : Int) (K : Nat) (w : World) (hc : I64 c) (he : within e) (hc2 : I64 c2) (he2 : within e2) (hK : Row w K 23 #[.int .i64 c, .int .i64 e, .int .i64 c2, .int .i64 e2]) :
    Calls Tryd.prog 49 #[.slice (some ⟨K, 0, none⟩) 2 2] w fun r w' => Below w.heap.size w w' ∧ ∃ G, w.heap.size ≤ G ∧ r = .returned (.tuple #[.slice (some ⟨G, 0, none⟩) 2 2, .int .i64 0]) ∧ Row w' G 59 ((decW c e).cells ++ (decW c2 e2).cells) := by
  obtain ⟨k0, k1, k2, k3⟩ := hK.four
  have mk := make57 2 (by omega)
  have hKlt := hK.lt
  have hN := number_W c e hc.1 hc.2
  have hS := short_any (numW c e) (by unfold numW M128; have := hc.1; have := hc.2; simp only; omega) (by have := he.2; unfold numW; simp only; omega) (by have := he.1; unfold numW; simp only; omega)
  rw [show shortW (numW c e) = decW c e from rfl] at hS
  generalize decW c e = y at *
  obtain ⟨y0, y1, y2, y3, hy, hy1⟩ : ∃ y0 y1 y2 y3, y.cells = #[y0, y1, y2, y3] ∧ ∀ u ∈ [y0, y1, y2, y3], u.oneCell' = true := ⟨_, _, _, _, rfl, by simp [Value.oneCell']⟩
  simp only [Wd.val_eq] at hN hS
  rw [hy] at hS
  have HI : Hid (decide (-18 ≤ e ∧ e ≤ 18) = true) := decide_eq_true he
  have hN2 := number_W c2 e2 hc2.1 hc2.2
  have hS2 := short_any (numW c2 e2) (by unfold numW M128; have := hc2.1; have := hc2.2; simp only; omega) (by have := he2.2; unfold numW; simp only; omega) (by have := he2.1; unfold numW; simp only; omega)
  rw [show shortW (numW c2 e2) = decW c2 e2 from rfl] at hS2
  generalize decW c2 e2 = z at *
  obtain ⟨z0, z1, z2, z3, hz, hz1⟩ : ∃ y0 y1 y2 y3, z.cells = #[y0, y1, y2, y3] ∧ ∀ u ∈ [y0, y1, y2, y3], u.oneCell' = true := ⟨_, _, _, _, rfl, by simp [Value.oneCell']⟩
  simp only [Wd.val_eq] at hN2 hS2
  rw [hz] at hS2
  have HI2 : Hid (decide (-18 ≤ e2 ∧ e2 ≤ 18) = true) := decide_eq_true he2
  go_enter Tryd.func49, Tryd.ntmps49
  go_wp2_with fail
  rw [show (2 : Int) = ((2 : Nat) : Int) from rfl, mk]
  rw [show madeCells #[.bool false, .int .u64 0, .int .u64 0, .int .i64 0] (2 * 4) = #[.bool false, .int .u64 0, .int .u64 0, .int .i64 0, .bool false, .int .u64 0, .int .u64 0, .int .i64 0] by kernel_rfl]
  go_wp2_with fail
  refine wp_loop_rounds 3 ?_
  rw [rounds_succ]
  go_wp2_with (go_at_call 65; refine (within_any _ _).mono ?_; rintro _ w10 ⟨rfl, hw10⟩; subst hw10; rw [HI.out])
  refine (hN _).mono ?_
  rintro _ wa ⟨rfl, ha⟩
  obtain ⟨hG, _, hB⟩ := two_rows w wa _ _ _ _ ha
  clear ha
  go_wp2_with fail
  refine (hS _).mono ?_
  rintro _ wb ⟨rfl, hb⟩
  have hG := hG.below hb hG.lt
  have hB := hB.trans (hb.mono hB.size)
  clear hb
  have hA := Row.new wb 59 #[y0, y1, y2, y3]
  have hG2 := hG.alloc (.cells #[y0, y1, y2, y3] 59)
  have HAP := app57 _ w.heap.size 2 0 _ hG2 wb.heap.size 1 y0 y1 y2 y3 hA hy1 (by omega) (by simp)
  have HAP : Hid ((Builtin.append_ #[53, 53] 53 #[.slice (some ⟨w.heap.size, 0, none⟩) 0 2, .slice (some ⟨wb.heap.size, 0, none⟩) 1 1]).run Tryd.prog (wb.alloc (.cells #[y0, y1, y2, y3] 59)) = .ok (.slice (some ⟨w.heap.size, 0, none⟩) 1 2) ((wb.alloc (.cells #[y0, y1, y2, y3] 59)).setRow w.heap.size #[y0, y1, y2, y3, .bool false, .int .u64 0, .int .u64 0, .int .i64 0])) := HAP
  have hGlt := hG.lt
  have hR := hG2.setRow #[y0, y1, y2, y3, .bool false, .int .u64 0, .int .u64 0, .int .i64 0]
  have hBR := below_setRow (hB.alloc (by omega) (.cells #[y0, y1, y2, y3] 59)) (Nat.le_refl w.heap.size) #[y0, y1, y2, y3, .bool false, .int .u64 0, .int .u64 0, .int .i64 0]
  obtain ⟨W3, hW3⟩ : ∃ W3, (wb.alloc (.cells #[y0, y1, y2, y3] 59)).setRow w.heap.size #[y0, y1, y2, y3, .bool false, .int .u64 0, .int .u64 0, .int .i64 0] = W3 := ⟨_, rfl⟩
  rw [hW3] at HAP hR hBR
  clear hW3 hN hS mk hG hG2 hB hA k0 k1 k2 k3
  obtain ⟨k0, k1, k2, k3⟩ := (hK.below hBR hKlt).four
  have hsz : w.heap.size < W3.heap.size := hR.lt
  go_wp2_with (at_builtin; refine wpList_append_eq rfl (.tmp 20) (.tmp 27) 53 rfl _ _ _ _ rfl rfl HAP.out ?_)
  clear HAP
  rw [rounds_succ]
  go_wp2_with (go_at_call 65; refine (within_any _ _).mono ?_; rintro _ w10 ⟨rfl, hw10⟩; subst hw10; rw [HI2.out])
  refine (hN2 _).mono ?_
  rintro _ wc ⟨rfl, hc⟩
  have hR := (hR.alloc (.cells #[.int .i64 c2, .int .i64 e2] 23)).below hc (by simp; omega)
  have hBR := (hBR.alloc (by omega) (.cells #[.int .i64 c2, .int .i64 e2] 23)).trans (hc.mono (by simp; omega))
  clear hc
  go_wp2_with fail
  refine (hS2 _).mono ?_
  rintro _ wd ⟨rfl, hd⟩
  have hR := hR.below hd hR.lt
  have hBR := hBR.trans (hd.mono hBR.size)
  clear hd
  have hA := Row.new wd 59 #[z0, z1, z2, z3]
  have hG2 := hR.alloc (.cells #[z0, z1, z2, z3] 59)
  have HAP := app57 _ w.heap.size 2 1 _ hG2 wd.heap.size 1 z0 z1 z2 z3 hA hz1 (by omega) (by simp)
  have HAP : Hid ((Builtin.append_ #[53, 53] 53 #[.slice (some ⟨w.heap.size, 0, none⟩) 1 2, .slice (some ⟨wd.heap.size, 0, none⟩) 1 1]).run Tryd.prog (wd.alloc (.cells #[z0, z1, z2, z3] 59)) = .ok (.slice (some ⟨w.heap.size, 0, none⟩) 2 2) ((wd.alloc (.cells #[z0, z1, z2, z3] 59)).setRow w.heap.size #[y0, y1, y2, y3, z0, z1, z2, z3])) := HAP
  have hRlt := hR.lt
  have hR9 := hG2.setRow #[y0, y1, y2, y3, z0, z1, z2, z3]
  have hB9 := below_setRow (hBR.alloc (by omega) (.cells #[z0, z1, z2, z3] 59)) (Nat.le_refl w.heap.size) #[y0, y1, y2, y3, z0, z1, z2, z3]
  obtain ⟨W4, hW4⟩ : ∃ W4, (wd.alloc (.cells #[z0, z1, z2, z3] 59)).setRow w.heap.size #[y0, y1, y2, y3, z0, z1, z2, z3] = W4 := ⟨_, rfl⟩
  rw [hW4] at HAP hR9 hB9
  clear hW4 hN2 hS2 hG2 hA
  go_wp2_with (at_builtin; refine wpList_append_eq rfl (.tmp 20) (.tmp 27) 53 rfl _ _ _ _ rfl rfl HAP.out ?_)
  clear HAP
  rw [rounds_succ]
  go_wp2
  exact bodyPost_ret (results_tmp2 rfl _ _ _) rfl ⟨hB9, w.heap.size, Nat.le_refl _, rfl, by rw [hy, hz]; exact hR9⟩
set_option maxRecDepth 100000 in
set_option maxHeartbeats 1000000 in
theorem taken2_bad1 (c e c2 e2 : Int) (K : Nat) (w : World) (he : ¬ within e) (hK : Row w K 23 #[.int .i64 c, .int .i64 e, .int .i64 c2, .int .i64 e2]) :
    Calls Tryd.prog 49 #[.slice (some ⟨K, 0, none⟩) 2 2] w fun r w' => Below w.heap.size w w' ∧ r = .returned (.tuple #[.slice none 0 0, .int .i64 1]) := by
  obtain ⟨k0, k1, k2, k3⟩ := hK.four
  have mk := make57 2 (by omega)
  have hKlt := hK.lt
  have HI : Hid (decide (-18 ≤ e ∧ e ≤ 18) = false) := decide_eq_false he
  clear he
  go_enter Tryd.func49, Tryd.ntmps49
  go_wp2_with fail
  rw [show (2 : Int) = ((2 : Nat) : Int) from rfl, mk]
  rw [show madeCells #[.bool false, .int .u64 0, .int .u64 0, .int .i64 0] (2 * 4) = #[.bool false, .int .u64 0, .int .u64 0, .int .i64 0, .bool false, .int .u64 0, .int .u64 0, .int .i64 0] by kernel_rfl]
  go_wp2_with fail
  refine wp_loop_rounds 3 ?_
  rw [rounds_succ]
  go_wp2_with (go_at_call 65; refine (within_any _ _).mono ?_; rintro _ w10 ⟨rfl, hw10⟩; subst hw10; rw [HI.out])
  exact bodyPost_ret (results_tmp2 rfl _ _ _) rfl ⟨((Below.refl _ w).alloc (Nat.le_refl _) _).alloc (by simp) _, rfl⟩
set_option maxRecDepth 100000 in
set_option maxHeartbeats 1000000 in
theorem taken2_bad2 (c e c2 e2 : Int) (K : Nat) (w : World) (hc : I64 c) (he : within e) (he2 : ¬ within e2) (hK : Row w K 23 #[.int .i64 c, .int .i64 e, .int .i64 c2, .int .i64 e2]) :
    Calls Tryd.prog 49 #[.slice (some ⟨K, 0, none⟩) 2 2] w fun r w' => Below w.heap.size w w' ∧ r = .returned (.tuple #[.slice none 0 0, .int .i64 1]) := by
  obtain ⟨k0, k1, k2, k3⟩ := hK.four
  have mk := make57 2 (by omega)
  have hKlt := hK.lt
  have hN := number_W c e hc.1 hc.2
  have hS := short_any (numW c e) (by unfold numW M128; have := hc.1; have := hc.2; simp only; omega) (by have := he.2; unfold numW; simp only; omega) (by have := he.1; unfold numW; simp only; omega)
  rw [show shortW (numW c e) = decW c e from rfl] at hS
  generalize decW c e = y at *
  obtain ⟨y0, y1, y2, y3, hy, hy1⟩ : ∃ y0 y1 y2 y3, y.cells = #[y0, y1, y2, y3] ∧ ∀ u ∈ [y0, y1, y2, y3], u.oneCell' = true := ⟨_, _, _, _, rfl, by simp [Value.oneCell']⟩
  simp only [Wd.val_eq] at hN hS
  rw [hy] at hS
  have HI : Hid (decide (-18 ≤ e ∧ e ≤ 18) = true) := decide_eq_true he
  have HI2 : Hid (decide (-18 ≤ e2 ∧ e2 ≤ 18) = false) := decide_eq_false he2
  clear he2 hy
  go_enter Tryd.func49, Tryd.ntmps49
  go_wp2_with fail
  rw [show (2 : Int) = ((2 : Nat) : Int) from rfl, mk]
  rw [show madeCells #[.bool false, .int .u64 0, .int .u64 0, .int .i64 0] (2 * 4) = #[.bool false, .int .u64 0, .int .u64 0, .int .i64 0, .bool false, .int .u64 0, .int .u64 0, .int .i64 0] by kernel_rfl]
  go_wp2_with fail
  refine wp_loop_rounds 3 ?_
  rw [rounds_succ]
  go_wp2_with (go_at_call 65; refine (within_any _ _).mono ?_; rintro _ w10 ⟨rfl, hw10⟩; subst hw10; rw [HI.out])
  refine (hN _).mono ?_
  rintro _ wa ⟨rfl, ha⟩
  obtain ⟨hG, _, hB⟩ := two_rows w wa _ _ _ _ ha
  clear ha
  go_wp2_with fail
  refine (hS _).mono ?_
  rintro _ wb ⟨rfl, hb⟩
  have hG := hG.below hb hG.lt
  have hB := hB.trans (hb.mono hB.size)
  clear hb
  have hA := Row.new wb 59 #[y0, y1, y2, y3]
  have hG2 := hG.alloc (.cells #[y0, y1, y2, y3] 59)
  have HAP := app57 _ w.heap.size 2 0 _ hG2 wb.heap.size 1 y0 y1 y2 y3 hA hy1 (by omega) (by simp)
  have HAP : Hid ((Builtin.append_ #[53, 53] 53 #[.slice (some ⟨w.heap.size, 0, none⟩) 0 2, .slice (some ⟨wb.heap.size, 0, none⟩) 1 1]).run Tryd.prog (wb.alloc (.cells #[y0, y1, y2, y3] 59)) = .ok (.slice (some ⟨w.heap.size, 0, none⟩) 1 2) ((wb.alloc (.cells #[y0, y1, y2, y3] 59)).setRow w.heap.size #[y0, y1, y2, y3, .bool false, .int .u64 0, .int .u64 0, .int .i64 0])) := HAP
  have hGlt := hG.lt
  have hR := hG2.setRow #[y0, y1, y2, y3, .bool false, .int .u64 0, .int .u64 0, .int .i64 0]
  have hBR := below_setRow (hB.alloc (by omega) (.cells #[y0, y1, y2, y3] 59)) (Nat.le_refl w.heap.size) #[y0, y1, y2, y3, .bool false, .int .u64 0, .int .u64 0, .int .i64 0]
  obtain ⟨W3, hW3⟩ : ∃ W3, (wb.alloc (.cells #[y0, y1, y2, y3] 59)).setRow w.heap.size #[y0, y1, y2, y3, .bool false, .int .u64 0, .int .u64 0, .int .i64 0] = W3 := ⟨_, rfl⟩
  rw [hW3] at HAP hR hBR
  clear hW3 hN hS mk hG hG2 hB hA k0 k1 k2 k3
  obtain ⟨k0, k1, k2, k3⟩ := (hK.below hBR hKlt).four
  have hsz : w.heap.size < W3.heap.size := hR.lt
  go_wp2_with (at_builtin; refine wpList_append_eq rfl (.tmp 20) (.tmp 27) 53 rfl _ _ _ _ rfl rfl HAP.out ?_)
  clear HAP
  rw [rounds_succ]
  go_wp2_with (go_at_call 65; refine (within_any _ _).mono ?_; rintro _ w10 ⟨rfl, hw10⟩; subst hw10; rw [HI2.out])
  exact bodyPost_ret (results_tmp2 rfl _ _ _) rfl ⟨hBR.alloc (by omega) _, rfl⟩
end Go.Proofs.YtfbhonjndepjbaaDoor
/- Make; which of two sizes is greater; product; less. -/
namespace Go.Proofs.YtfbhonjndepjbaaDoor
open Go.RowKit

set_option maxRecDepth 100000 in
set_option maxHeartbeats 400000 in
theorem make_any (c e : Int) (hc : I64 c) (he : I64 e) (w : World) : Calls Tryd.prog 24 #[.int .i64 c, .int .i64 e] w fun r w' => r = .returned (decV (tell c e)) ∧ Below w.heap.size w w' := by
  have hN := number_W c e hc.1 hc.2
  have hT := told_true (numW c e) (by unfold numW M128; have := hc.1; have := hc.2; simp only; omega) (by have := he.2; unfold numW; simp only; omega) (by have := he.1; unfold numW; simp only; omega)
  rw [show tellW (numW c e).neg (numW c e).n (numW c e).e = tell c e from rfl] at hT
  obtain ⟨a, b, v, hv⟩ : ∃ a b v, decV (tell c e) = .tuple #[.agg #[.int .i64 a, .int .i64 b], .int .i64 v] := by
    cases h : tell c e with
    | none => exact ⟨_, _, _, rfl⟩
    | some p => exact ⟨_, _, _, rfl⟩
  rw [hv] at hT ⊢
  generalize (numW c e).val = nv at *
  clear hv
  go_enter Tryd.func24, Tryd.ntmps24
  go_wp2_with fail
  refine (hN _).mono ?_
  rintro _ wa ⟨rfl, ha⟩
  have hr := (Row.new w 23 #[.int .i64 0, .int .i64 0]).below ha (by simp)
  have hB := ((Below.refl _ w).alloc (Nat.le_refl _) (.cells #[.int .i64 0, .int .i64 0] 23)).trans (ha.mono (by simp))
  clear ha
  go_wp2_with fail
  refine (hT _).mono ?_
  rintro _ wb ⟨rfl, hb⟩
  have hr := hr.below hb hr.lt
  have hB := hB.trans (hb.mono hB.size)
  obtain ⟨d0, d1⟩ := hr.duo
  have z := hr.frozen
  clear hb hN hT
  go_wp2
  refine bodyPost_ret (ret_two rfl (g := w.heap.size) rfl rfl (load23 (Row.set2 hr _ _) rfl)) rfl ⟨rfl, ?_⟩
  repeat (refine below_set ?_ _ _ (by omega))
  exact hB
set_option maxRecDepth 100000 in
set_option maxHeartbeats 400000 in
theorem cmpU (x y : Nat) (w : World) : Calls Tryd.prog 100 #[.int .u64 x, .int .u64 y] w fun r w' => r = .returned (.int .i64 (cN x y)) ∧ w' = w := by
  rcases Nat.lt_trichotomy x y with h | h | h
  · have e1 : (x : Int) < y := by omega
    rw [show cN x y = -1 by unfold cN; rw [if_pos h]]
    go_enter Tryd.func100, Tryd.ntmps100
    go_wp2
    go_ret
    exact ⟨rfl, rfl⟩
  · subst h
    rw [show cN x x = 0 by unfold cN; rw [if_neg (by omega), if_neg (by omega)]]
    go_enter Tryd.func100, Tryd.ntmps100
    go_wp2
    go_ret
    exact ⟨rfl, rfl⟩
  · have e1 : ¬ ((x : Int) < y) := by omega
    have e2 : (y : Int) < x := by omega
    rw [show cN x y = 1 by unfold cN; rw [if_neg (by omega), if_pos h]]
    go_enter Tryd.func100, Tryd.ntmps100
    go_wp2
    go_ret
    exact ⟨rfl, rfl⟩
set_option maxRecDepth 100000 in
set_option maxHeartbeats 400000 in
theorem or2 (x y : Int) (K : Nat) (w : World) (hK : Row w K 3 #[.int .i64 x, .int .i64 y]) : Calls Tryd.prog 99 #[.slice (some ⟨K, 0, none⟩) 2 2] w fun r w' => r = .returned (.int .i64 (if x ≠ 0 then x else y)) ∧ w' = w := by
  obtain ⟨k0, k1⟩ := hK.duo
  by_cases h : x = 0
  · subst h
    by_cases h2 : y = 0
    · subst h2
      rw [if_neg (by simp)]
      go_enter Tryd.func99, Tryd.ntmps99
      go_wp2
      refine wp_loop_rounds 3 ?_
      rw [rounds_succ]
      go_wp2
      rw [rounds_succ]
      go_wp2
      rw [rounds_succ]
      go_wp2
      go_ret
      exact ⟨rfl, rfl⟩
    · have e2 : (y != 0) = true := by simpa using h2
      rw [if_neg (by simp)]
      clear h2
      go_enter Tryd.func99, Tryd.ntmps99
      go_wp2
      refine wp_loop_rounds 3 ?_
      rw [rounds_succ]
      go_wp2
      rw [rounds_succ]
      go_wp2
      go_ret
      exact ⟨rfl, rfl⟩
  · have e2 : (x != 0) = true := by simpa using h
    rw [if_pos h]
    clear h
    go_enter Tryd.func99, Tryd.ntmps99
    go_wp2
    refine wp_loop_rounds 3 ?_
    rw [rounds_succ]
    go_wp2
    go_ret
    exact ⟨rfl, rfl⟩
end Go.Proofs.YtfbhonjndepjbaaDoor
