import Derived.Test.YtiheajlgaehfmaaDoorOrd
import Derived.Test.YtiheajlgaehfmaaDoorRrtM
import Derived.Lib.AppendZeros
import Derived.Laws.IdiomCopy
import Derived.LoopN
/- The program's fixed tables: slices.Repeat, slices.Concat, FixedLit, FixedDist. -/
namespace Go.Proofs.YtiheajlgaehfmaaDoor
open Go.RowKit

set_option maxRecDepth 100000 in
set_option maxHeartbeats 1000000 in
theorem mul64_one (n : Nat) (hn : n ≤ 1000) (w : World) : Calls Tryd.prog 79 #[.int .u64 1, .int .u64 (n : Int)] w fun e w' => e = .returned (.tuple #[.int .u64 0, .int .u64 (n : Int)]) ∧ w' = w := by
  have e1 : bits .and .u64 (n : Int) 4294967295 = (n : Int) := by
    have := u64_and_nat n 4294967295 (by omega) (by omega)
    rw [show (4294967295 : Nat) = 2 ^ 32 - 1 from rfl, Nat.and_two_pow_sub_one_eq_mod, Nat.mod_eq_of_lt (by omega)] at this
    simpa using this
  have e2 : bits .and .u64 (1 : Int) 4294967295 = 1 := by decide
  have e3 : bits .and .u64 (0 : Int) 4294967295 = 0 := by decide
  have e4 : (n : Int) / 4294967296 = 0 := by omega
  go_enter Tryd.func79, Tryd.ntmps79
  go_wp2
  go_ret2
  exact ⟨rfl, rfl⟩
set_option maxRecDepth 100000 in
set_option maxHeartbeats 1000000 in
theorem mul_one' (n : Nat) (hn : n ≤ 1000) (w : World) : Calls Tryd.prog 66 #[.int .u64 1, .int .u64 (n : Int)] w fun e w' => e = .returned (.tuple #[.int .u64 0, .int .u64 (n : Int)]) ∧ w' = w := by
  have HM : Hid _ := mul64_one n hn w
  go_enter Tryd.func66, Tryd.ntmps66
  go_wp2_with fail
  refine Calls.mono HM.out ?_
  rintro e w' ⟨rfl, rfl⟩
  go_wp2
  go_ret2
  exact ⟨rfl, rfl⟩

/-- Cells of a row, set one behind the other. -/
theorem Row.setCells {B : Nat} {t : TypeId} : ∀ (l cs : List Value) (o : Nat) (W : World), Row W B t cs.toArray → o + l.length ≤ cs.length → Row (W.setCells B o l) B t (cs.take o ++ l ++ cs.drop (o + l.length)).toArray := by
  intro l
  induction l with
  | nil =>
    intro cs o W h _
    simpa [World.setCells] using h
  | cons v r ih =>
    intro cs o W h hl
    simp only [List.length_cons] at hl
    have h1 := h.set o v
    have h2 : Row (W.setCell ⟨B, o, none⟩ v) B t (cs.set o v).toArray := by simpa using h1
    have h3 := ih (cs.set o v) (o + 1) _ h2 (by simp; omega)
    rw [World.setCells]
    have e : (cs.set o v).take (o + 1) ++ r ++ (cs.set o v).drop (o + 1 + r.length) = cs.take o ++ (v :: r) ++ cs.drop (o + (v :: r).length) := by
      rw [List.drop_set_of_lt (by omega), List.take_add_one, List.take_set_of_le (Nat.le_refl _), List.getElem?_set_self (by omega)]
      simp [Nat.add_assoc, Nat.add_comm 1]
    rw [e] at h3
    exact h3
theorem Kept.setCells {S : Nat → Prop} {B : Nat} : ∀ (l : List Value) (o : Nat) {a w : World}, Kept S a w → ¬ S B → Kept S a (w.setCells B o l) := by
  intro l
  induction l with
  | nil => intro o a w h _; exact h
  | cons v r ih => intro o a w h hB; exact ih (o + 1) (h.setCell (p := ⟨B, o, none⟩) hB v) hB
theorem wpList_copy_run {P : Program} (w : World) {ops : Array Oper} {rest : List Oper} {o : Oper} {a : Act} {Q : Exit → Act → World → Prop} (hgd : o.guard = none) (s x : Operand) (t tn : TypeId)
    (ho : o.op = .call { callee := .builtin .copy, args := #[s, x], argTypes := #[t, tn] }) (vs vx : Value) (hs : a.eval s = vs) (hx : a.eval x = vx)
    (v' : Value) (w' : World) (hr : (Builtin.copy_ #[t, tn] o.type #[vs, vx]).run P w = .ok v' w') (h : wpList P ops Q rest (a.put o.dst v') w') : wpList P ops Q (o :: rest) a w := by
  refine wpList_plain hgd fun K hK => ?_
  unfold Oper.wp execOp
  simp only [ho, resolve, invoke, builtin, Sem.run_bind, Sem.run_pure, Result.andThen_ok, List.map_toArray, List.map_cons, List.map_nil, hs, hx, hr]
  exact hK _ _ h
/-- The first k of n cells are v. -/
def repC (k n : Nat) (v : Int) : List Value := List.replicate k (.int .i64 v) ++ List.replicate (n - k) (.int .i64 0)
theorem repC_length (k n : Nat) (v : Int) (h : k ≤ n) : (repC k n v).length = n := by simp [repC]; omega
theorem repC_at (k n j : Nat) (v : Int) (h : j < k) : (repC k n v)[j]? = some (.int .i64 v) := by
  rw [repC, List.getElem?_append_left (by simpa using h), List.getElem?_replicate, if_pos h]
theorem repC_some (k n j : Nat) (v : Int) (h : j < n) (hk : k ≤ n) : ((repC k n v)[j]?).isSome = true := by
  rw [List.getElem?_eq_getElem (by rw [repC_length _ _ _ hk]; exact h)]
  rfl
theorem repC_more (k m n : Nat) (v : Int) : (repC k n v).take k ++ List.replicate m (.int .i64 v) ++ (repC k n v).drop (k + (List.replicate m (Value.int .i64 v)).length) = repC (k + m) n v := by
  have e1 : (repC k n v).take k = List.replicate k (.int .i64 v) := by rw [repC, List.take_left' (by simp)]
  have e2 : (repC k n v).drop (k + m) = List.replicate (n - (k + m)) (.int .i64 0) := by
    rw [repC, List.drop_append, List.drop_eq_nil_of_le (by simp), List.drop_replicate]
    simp
    omega
  rw [List.length_replicate, e1, e2, repC, List.replicate_append_replicate]

theorem Tryd.info3' : (Tryd.prog.info? 3).map (fun i => (i.zero, i.size, i.bytes)) = some (some (.int .i64 0), 1, 8) := by kernel_rfl
theorem made_repC (n : Nat) (v : Int) : madeCells #[.int .i64 0] n = (repC 0 n v).toArray := by
  apply Array.toList_inj.1
  rw [toList_madeCells_one]
  simp [repC]
theorem size1 : (Tryd.prog.info? 3).map (·.size) = some 1 := by kernel_rfl
/-- What the copies of Repeat do. -/
theorem rep_copy {W : World} {B k m n : Nat} {v : Int} (hR : Row W B 3 (repC k n v).toArray) (hk : k + m ≤ n) (hmk : m ≤ k) (o a : Nat) (sLen dLen sCap dCap : Nat) (hm : m = Nat.min sLen dLen) (ho : o = k) (ha : a = 0) (ty : TypeId) :
    (Builtin.copy_ #[32, 32] ty #[.slice (some ⟨B, o, none⟩) dLen dCap, .slice (some ⟨B, a, none⟩) sLen sCap]).run Tryd.prog W = .ok (.int .i64 (m : Int)) (W.setCells B k (List.replicate m (.int .i64 v))) := by
  subst ho ha
  have := run_copy_cells (P := Tryd.prog) W 32 32 ty 3 B o dLen dCap ⟨B, 0, none⟩ sLen sCap (List.replicate m (.int .i64 v)) Tryd.underlying32 size1 (by simp [hm]) (fun j u hu => ?_) (fun j hj => ?_) (fun j hj => hR.frozen _) (fun u hu => by rw [List.eq_of_mem_replicate hu]; rfl)
  · rw [this, List.length_replicate]
    rfl
  · have hj : j < m := by
      have := (List.getElem?_eq_some_iff.1 hu).1
      simpa using this
    rw [Go.WideShapes.add_plain, Nat.zero_add, hR.cell (i := j) (v := .int .i64 v) (by simpa using repC_at o n j v (by omega))]
    rw [List.getElem?_replicate, if_pos hj] at hu
    exact hu
  · have hj : j < m := by simpa using hj
    have hs := repC_some o n (o + j) v (by omega) (by omega)
    obtain ⟨u, hu⟩ := Option.isSome_iff_exists.1 hs
    rw [hR.cell (i := o + j) (v := u) (by simpa using hu)]
    rfl

set_option maxRecDepth 100000 in
set_option maxHeartbeats 4000000 in
theorem repeat_any (v : Int) (n A : Nat) (h1 : 1 ≤ n) (hn : n ≤ 1000) (w : World) (hc : w.cell? ⟨A, 0, none⟩ = some (.int .i64 v)) :
    Calls Tryd.prog 44 #[.slice (some ⟨A, 0, none⟩) 1 1, .int .i64 (n : Int)] w fun e w' => ∃ B, e = .returned (.slice (some ⟨B, 0, none⟩) n n) ∧ w.heap.size ≤ B ∧ Row w' B 3 (repC n n v).toArray ∧ Below w.heap.size w w' := by
  have HM : Hid _ := mul_one' n hn w
  have hmk := run_make_row' (P := Tryd.prog) 32 3 (.int .i64 0) 8 Tryd.underlying32 Tryd.info3' rfl .i64 .i64 n (by omega) (by omega)
  have hcv : IntKind.i64.wrap (n : Int) = n := by simp [IntKind.wrap, IntKind.bits, IntKind.signed]; omega
  have hcu : IntKind.u64.wrap (n : Int) = n := by simp [IntKind.wrap, IntKind.bits, IntKind.signed]; omega
  have hR0 : Row (w.alloc (.cells (madeCells #[.int .i64 0] n) 3)) w.heap.size 3 (repC 0 n v).toArray := by
    rw [made_repC n v]
    exact Row.new w 3 _
  have hA : A < w.heap.size := World.block_lt_of_cell? _ _ hc
  have hB0 : Below w.heap.size w (w.alloc (.cells (madeCells #[.int .i64 0] n) 3)) := (Below.refl _ w).alloc (Nat.le_refl _) _
  have hcp : (Builtin.copy_ #[32, 32] 3 #[.slice (some ⟨w.heap.size, 0, none⟩) n n, .slice (some ⟨A, 0, none⟩) 1 1]).run Tryd.prog (w.alloc (.cells (madeCells #[.int .i64 0] n) 3)) = .ok (.int .i64 1) ((w.alloc (.cells (madeCells #[.int .i64 0] n) 3)).setCells w.heap.size 0 [.int .i64 v]) := by
    refine run_copy_cells (P := Tryd.prog) _ 32 32 3 3 w.heap.size 0 n n ⟨A, 0, none⟩ 1 1 [.int .i64 v] Tryd.underlying32 size1 (by simp [Nat.min_def]; omega) (fun j u hu => ?_) (fun j hj => ?_) (fun j hj => hR0.frozen _) (fun u hu => by rw [List.mem_singleton.1 hu]; rfl)
    · cases j with
      | zero =>
        rw [Go.WideShapes.add_plain]
        exact (hB0.cell (p := ⟨A, 0, none⟩) hA).trans (hc.trans hu)
      | succ j => simp at hu
    · have hj : j = 0 := by simpa using hj
      subst hj
      have hs := repC_some 0 n 0 v (by omega) (by omega)
      obtain ⟨u, hu⟩ := Option.isSome_iff_exists.1 hs
      rw [hR0.cell (i := 0) (v := u) (by simpa using hu)]
      rfl
  have hR1 : Row ((w.alloc (.cells (madeCells #[.int .i64 0] n) 3)).setCells w.heap.size 0 [.int .i64 v]) w.heap.size 3 (repC 1 n v).toArray := by
    have := Row.setCells [.int .i64 v] (repC 0 n v) 0 _ hR0 (by rw [repC_length _ _ _ (by omega)]; simpa using h1)
    have e := repC_more 0 1 n v
    simp only [Nat.zero_add] at e
    have e' : List.replicate 1 (Value.int .i64 v) = [.int .i64 v] := rfl
    rw [e'] at e
    rw [show 0 + [Value.int IntKind.i64 v].length = [Value.int IntKind.i64 v].length from Nat.zero_add _] at this
    rw [e] at this
    exact this
  have hB1 : Below w.heap.size w ((w.alloc (.cells (madeCells #[.int .i64 0] n) 3)).setCells w.heap.size 0 [.int .i64 v]) := (Kept.setCells _ 0 (Kept.of_below (S := (· < w.heap.size)) hB0 (fun _ h => h)) (by simp)).below (fun _ h => h)
  go_enter Tryd.func44, Tryd.ntmps44
  go_wp2_with fail
  refine Calls.mono HM.out ?_
  rintro e w' ⟨rfl, hw⟩
  subst hw
  clear HM
  go_wp2_with fail
  generalize (w'.alloc (.cells (madeCells #[.int .i64 0] n) 3)).setCells w'.heap.size 0 [.int .i64 v] = w1 at hR1 hB1 ⊢
  clear hcp hR0 hB0 hmk hc
  go_loopw [8] (fun v8 wr => ∃ k : Nat, 1 ≤ k ∧ k ≤ n ∧ v8 = .int .i64 (k : Int) ∧ Row wr w'.heap.size 3 (repC k n v).toArray ∧ Below w'.heap.size w' wr) (fun v8 _ => n - (intOf v8).toNat)
  case atStart => exact ⟨1, by omega, by omega, rfl, hR1, hB1⟩
  case round =>
    clear hR1 hB1 w1
    obtain ⟨k, hk1, hkn, rfl, hR, hB⟩ := hrel
    by_cases hlt : k < n
    · obtain ⟨m, hm⟩ : ∃ m, m = Nat.min k (n - k) := ⟨_, rfl⟩
      have hmb : k + m ≤ n ∧ m ≤ k ∧ 1 ≤ m := by simp only [Nat.min_def] at hm; split at hm <;> omega
      have hcp := rep_copy (W := wr.drew) (B := w'.heap.size) (k := k) (m := m) (n := n) (v := v) hR hmb.1 hmb.2.1 k 0 k (n - k) n (n - k) hm rfl rfl 3
      have HR : Hid (Row (wr.drew.setCells w'.heap.size k (List.replicate m (.int .i64 v))) w'.heap.size 3 (repC (k + m) n v).toArray ∧ Below w'.heap.size w' (wr.drew.setCells w'.heap.size k (List.replicate m (.int .i64 v)))) := by
        have := Row.setCells (List.replicate m (.int .i64 v)) (repC k n v) k wr.drew hR (by rw [repC_length _ _ _ hkn]; simp; omega)
        rw [repC_more k m n v] at this
        exact ⟨this, (Kept.setCells _ k (Kept.of_below (S := (· < w'.heap.size)) hB (fun _ h => h)).drew (by simp)).below (fun _ h => h)⟩
      clear hR hB hm
      go_wp2_with fail
      refine wp_region_K (fun _ => True) (fun _ => false) (by kernel_rfl) ?_
      refine wpK_free (k := 0) (v := ?_) rfl (by kernel_rfl) (by kernel_rfl) (fun _ _ _ h => h) rfl (by intro wx; go_simp <;> rfl) ?_
      refine wpK_free (k := 1) (v := ?_) rfl (by kernel_rfl) (by kernel_rfl) (fun _ _ _ h => h) rfl (by intro wx; go_simp <;> rfl) ?_
      refine wpK_free (k := 2) (v := ?_) rfl (by kernel_rfl) (by kernel_rfl) (fun _ _ _ h => h) rfl (by intro wx; go_simp <;> rfl) ?_
      refine wpK_free (k := 3) (v := ?_) rfl (by kernel_rfl) (by kernel_rfl) (fun _ _ _ h => h) rfl (by intro wx; go_simp <;> rfl) ?_
      refine wpK_free (k := 4) (v := ?_) rfl (by kernel_rfl) (by kernel_rfl) (fun _ _ _ h => h) rfl (by intro wx; go_simp <;> rfl) ?_
      refine wpK_free (k := 5) (v := ?_) rfl (by kernel_rfl) (by kernel_rfl) (fun _ _ _ h => h) rfl (by intro wx; go_simp <;> rfl) ?_
      refine wpK_free (k := 6) (v := ?_) rfl (by kernel_rfl) (by kernel_rfl) (fun _ _ _ h => h) rfl (by intro wx; go_simp <;> rfl) ?_
      refine wpK_rest 7 (by kernel_rfl) 3 7 (by decide) (by decide) _ _ ?_
      simp only [List.drop_succ_cons, List.drop_zero]
      go_wp2
      exact ⟨⟨k + m, by omega, by omega, by go_num, HR.out.1, HR.out.2⟩, by simp [intOf]; omega⟩
    · obtain rfl : k = n := by omega
      have HR : Hid _ := And.intro hR hB
      clear hR hB
      go_wp2
      go_ret
      exact ⟨_, rfl, Nat.le_refl _, HR.out.1, HR.out.2⟩
set_option maxRecDepth 100000 in
set_option maxHeartbeats 1000000 in
theorem repeat'_any (v : Int) (n : Nat) (h1 : 1 ≤ n) (hn : n ≤ 1000) (w : World) :
    Calls Tryd.prog 29 #[.int .i64 v, .int .i64 (n : Int)] w fun e w' => ∃ B, e = .returned (.slice (some ⟨B, 0, none⟩) n n) ∧ w.heap.size ≤ B ∧ Row w' B 3 (repC n n v).toArray ∧ Below w.heap.size w w' := by
  have hc : (w.alloc (.cells #[.int .i64 v] 3)).cell? ⟨w.heap.size, 0, none⟩ = some (.int .i64 v) := (Row.new w 3 #[.int .i64 v]).cell rfl
  have HR : Hid _ := repeat_any v n w.heap.size h1 hn (w.alloc (.cells #[.int .i64 v] 3)) hc
  go_enter Tryd.func29, Tryd.ntmps29
  go_wp2_with fail
  refine Calls.mono HR.out ?_
  rintro e w' ⟨B, rfl, hB, hR, hb⟩
  have HF : Hid (w.heap.size ≤ B ∧ Row w' B 3 (repC n n v).toArray ∧ Below w.heap.size w w') := by
    rw [World.size_alloc] at hB hb
    exact ⟨by omega, hR, ((Below.refl _ w).alloc (Nat.le_refl _) _).trans (hb.mono (by omega))⟩
  clear HR hB hR hb hc
  go_wp2
  go_ret
  exact ⟨B, rfl, HF.out⟩
theorem repC_full (n : Nat) (v : Int) : repC n n v = (List.replicate n v).map (Value.int .i64) := by simp [repC]
theorem owns_rep {w : World} {B n base : Nat} {v : Int} (hn : n ≤ 1000) (h : Row w B 3 (repC n n v).toArray) (hb : base ≤ B) : w.ownsRow base 3 1 (.slice (some ⟨B, 0, none⟩) n n) n ((List.replicate n v).map (Value.int .i64)) := by
  refine ⟨by simp, .inr ⟨B, n, _, rfl, hb, h, Nat.le_refl _, by unfold maxLen; omega, by simp [repC], ?_⟩⟩
  rw [repC_full]
  simp
set_option maxHeartbeats 1000000 in
theorem pfixedDist_any (w : World) : Calls Tryd.prog 18 #[] w fun e w' => ∃ g c, e = .returned (.slice g 32 c) ∧ w'.ownsRow w.heap.size 3 1 (.slice g 32 c) 32 (fixDist.map (Value.int .i64)) ∧ Below w.heap.size w w' := by
  have HR : Hid (Calls Tryd.prog 29 #[.int .i64 5, .int .i64 32] w _) := repeat'_any 5 32 (by omega) (by omega) w
  have HE : Hid (fixDist = List.replicate 32 5) := rfl
  go_enter Tryd.func18, Tryd.ntmps18
  go_wp2_with fail
  refine Calls.mono HR.out ?_
  rintro e w' ⟨B, rfl, hB, hR, hb⟩
  have HF : Hid _ := And.intro (owns_rep (by omega) hR hB) hb
  clear HR hB hR hb
  go_wp2
  go_ret
  exact ⟨_, _, rfl, by rw [HE.out]; exact HF.out.1, HF.out.2⟩

set_option maxRecDepth 100000 in
set_option maxHeartbeats 1000000 in
theorem grow_nil (n : Nat) (h1 : 1 ≤ n) (hn : n ≤ 1000) (w : World) :
    Calls Tryd.prog 43 #[.slice none 0 0, .int .i64 (n : Int)] w fun e w' => ∃ g c, e = .returned (.slice g 0 c) ∧ w'.ownsRow w.heap.size 3 1 (.slice g 0 c) 0 [] ∧ Below w.heap.size w w' := by
  obtain ⟨i0, hi0, hz0, hz1, hz2⟩ := info_parts Tryd.info3'
  have hap := Lib.run_append_nil_zeros (P := Tryd.prog) w 32 3 32 3 i0 (.int .i64 0) .i64 .i64 Tryd.underlying32 Tryd.underlying3 hi0 hz0 n (by omega) (by omega) (by omega) (by rw [hz2]; omega)
  have t1 : (0 : Int) < n := by omega
  go_enter Tryd.func43, Tryd.ntmps43
  go_wp2_with (at_builtin; refine Lib.wpList_append_run _ rfl (.tmp 20) (.tmp 21) 32 3 rfl _ _ rfl rfl _ _ hap ?_)
  have hg1 := grownCap_ge w n 0 3
  have hg2 := grownCap_le_maxLen w n 0 3 (by unfold maxLen; omega)
  have hO : (w.alloc (.cells (Builtin.zeroCells #[.int .i64 0] n ++ Builtin.zeroCells #[.int .i64 0] (grownCap w n 0 3 - n)) 3)).drew.ownsRow w.heap.size 3 1 (.slice (some ⟨w.heap.size, 0, none⟩) 0 (grownCap w n 0 3)) 0 [] :=
    ⟨rfl, .inr ⟨w.heap.size, _, _, rfl, Nat.le_refl _, World.alloc_heap_new w _, Nat.zero_le _, hg2, by simp [size_zeroCells]; omega, rfl⟩⟩
  go_ret
  exact ⟨_, _, rfl, hO, ((Below.refl _ w).alloc (Nat.le_refl _) _).drew⟩

set_option maxRecDepth 100000 in
set_option maxHeartbeats 4000000 in
theorem concat_four (V B1 B2 B3 B4 n1 n2 n3 n4 : Nat) (v1 v2 v3 v4 : Int) (w : World) (h1 : 1 ≤ n1) (hn1 : n1 ≤ 200) (hn2 : n2 ≤ 200) (hn3 : n3 ≤ 200) (hn4 : n4 ≤ 200)
    (hV : Row w V 32 #[.slice (some ⟨B1, 0, none⟩) n1 n1, .slice (some ⟨B2, 0, none⟩) n2 n2, .slice (some ⟨B3, 0, none⟩) n3 n3, .slice (some ⟨B4, 0, none⟩) n4 n4])
    (r1 : Row w B1 3 (repC n1 n1 v1).toArray) (r2 : Row w B2 3 (repC n2 n2 v2).toArray) (r3 : Row w B3 3 (repC n3 n3 v3).toArray) (r4 : Row w B4 3 (repC n4 n4 v4).toArray) :
    Calls Tryd.prog 28 #[.slice (some ⟨V, 0, none⟩) 4 4] w fun e w' => ∃ g c, e = .returned (.slice g (n1 + n2 + n3 + n4) c) ∧ w'.ownsRow w.heap.size 3 1 (.slice g (n1 + n2 + n3 + n4) c) (n1 + n2 + n3 + n4) ((List.replicate n1 v1 ++ List.replicate n2 v2 ++ List.replicate n3 v3 ++ List.replicate n4 v4).map (Value.int .i64)) ∧ Below w.heap.size w w' := by
  have c0 := hV.cell (i := 0) (v := .slice (some ⟨B1, 0, none⟩) n1 n1) rfl
  have c1 := hV.cell (i := 1) (v := .slice (some ⟨B2, 0, none⟩) n2 n2) rfl
  have c2 := hV.cell (i := 2) (v := .slice (some ⟨B3, 0, none⟩) n3 n3) rfl
  have c3 := hV.cell (i := 3) (v := .slice (some ⟨B4, 0, none⟩) n4 n4) rfl
  have HK : Hid (∀ w', Below w.heap.size w w' → w'.cell? ⟨V, 0, none⟩ = some (.slice (some ⟨B1, 0, none⟩) n1 n1) ∧ w'.cell? ⟨V, 1, none⟩ = some (.slice (some ⟨B2, 0, none⟩) n2 n2) ∧ w'.cell? ⟨V, 2, none⟩ = some (.slice (some ⟨B3, 0, none⟩) n3 n3) ∧ w'.cell? ⟨V, 3, none⟩ = some (.slice (some ⟨B4, 0, none⟩) n4 n4) ∧
      (∀ (j : Nat) (u : Value), (List.replicate n1 (Value.int .i64 v1))[j]? = some u → w'.cell? ((⟨B1, 0, none⟩ : Addr).add j) = some u) ∧ (∀ (j : Nat) (u : Value), (List.replicate n2 (Value.int .i64 v2))[j]? = some u → w'.cell? ((⟨B2, 0, none⟩ : Addr).add j) = some u) ∧
      (∀ (j : Nat) (u : Value), (List.replicate n3 (Value.int .i64 v3))[j]? = some u → w'.cell? ((⟨B3, 0, none⟩ : Addr).add j) = some u) ∧ (∀ (j : Nat) (u : Value), (List.replicate n4 (Value.int .i64 v4))[j]? = some u → w'.cell? ((⟨B4, 0, none⟩ : Addr).add j) = some u)) := by
    intro w' hb
    have key : ∀ (B n : Nat) (v : Int), Row w B 3 (repC n n v).toArray → ∀ (j : Nat) (u : Value), (List.replicate n (Value.int .i64 v))[j]? = some u → w'.cell? ((⟨B, 0, none⟩ : Addr).add j) = some u := by
      intro B n v hr j u hu
      rw [Go.WideShapes.add_plain, Nat.zero_add]
      refine (hr.below hb hr.lt).cell ?_
      rw [List.getElem?_toArray, repC_full, List.map_replicate]
      exact hu
    exact ⟨(hV.below hb hV.lt).cell rfl, (hV.below hb hV.lt).cell rfl, (hV.below hb hV.lt).cell rfl, (hV.below hb hV.lt).cell rfl, key _ _ _ r1, key _ _ _ r2, key _ _ _ r3, key _ _ _ r4⟩
  obtain ⟨i0, hi0, hz0, hz1, hz2⟩ := info_parts Tryd.info3'
  obtain ⟨N, hN⟩ : ∃ N, n1 + n2 + n3 + n4 = N := ⟨_, rfl⟩
  have hNz : (n1 : Int) + n2 + n3 + n4 = N := by omega
  have hNb : 1 ≤ N ∧ N ≤ 1000 := by omega
  have HG : Hid _ := grow_nil N hNb.1 hNb.2 w
  have HN : Hid (n1 + n2 + n3 + n4 = N) := hN
  clear hV r1 r2 r3 r4 hN
  go_enter Tryd.func28, Tryd.ntmps28
  go_wp2_with fail
  refine wp_loop_rounds 5 ?_
  rw [rounds_succ]
  go_wp2_with fail
  rw [rounds_succ]
  go_wp2_with fail
  rw [rounds_succ]
  go_wp2_with fail
  rw [rounds_succ]
  go_wp2_with fail
  rw [rounds_succ]
  go_wp2_with fail
  refine Calls.mono HG.out ?_
  clear HG
  rintro e w1 ⟨g1, p1, rfl, ho1, hb1⟩
  obtain ⟨c0, c1, c2, c3, k1, k2, k3, k4⟩ := HK.out w1 hb1
  have HO : Hid (w1.ownsRow w.heap.size 3 1 (.slice g1 0 p1) 0 []) := ho1
  have HC : Hid (∀ (j : Nat) (u : Value), (List.replicate n1 (Value.int .i64 v1))[j]? = some u → w1.cell? ((⟨B1, 0, none⟩ : Addr).add j) = some u) := k1
  have HB : Hid (w1.ownsRow w.heap.size 3 1 (.slice g1 0 p1) 0 [] ∧ Below w.heap.size w w1) := And.intro ho1 hb1
  clear ho1 hb1 k1 k2 k3 k4
  go_wp2_with fail
  refine wp_loop_rounds 5 ?_
  rw [rounds_succ]
  go_wp2_with (at_builtin; refine wpList_append_own2 _ rfl (.tmp 31) (.tmp 32) 32 rfl w.heap.size 3 i0 (.int .i64 0) 1 8 Tryd.underlying32 hi0 hz0 hz1 hz2 rfl (by decide) (.slice g1 0 p1) 0 [] rfl HO.out ⟨B1, 0, none⟩ n1 n1 (List.replicate n1 (Value.int .i64 v1)) rfl (by simp) HC.out (fun u hu => by rw [List.eq_of_mem_replicate hu]; rfl) (by unfold maxLen; omega) (by omega) (by have := HB.out.2.size; omega) ?_)
  intro v1' w2 ho hg hbk
  have hb : Below w.heap.size w w2 := HB.out.2.grown hg HB.out.2.size (fun r e => (HB.out.1.lt r e).1)
  obtain ⟨g2, p2, rfl⟩ := owns_form ho
  obtain ⟨c0, c1, c2, c3, k1, k2, k3, k4⟩ := HK.out w2 hb
  clear HO HC HB
  have ho' : w2.ownsRow w.heap.size 3 1 (.slice g2 (n1) p2) (n1) (List.replicate n1 (Value.int .i64 v1)) := by simpa using ho
  have HO : Hid (w2.ownsRow w.heap.size 3 1 (.slice g2 (n1) p2) (n1) (List.replicate n1 (Value.int .i64 v1))) := ho'
  clear ho'
  have HC : Hid (∀ (j : Nat) (u : Value), (List.replicate n2 (Value.int .i64 v2))[j]? = some u → w2.cell? ((⟨B2, 0, none⟩ : Addr).add j) = some u) := k2
  have HB : Hid (w2.ownsRow w.heap.size 3 1 (.slice g2 (n1) p2) (n1) (List.replicate n1 (Value.int .i64 v1)) ∧ Below w.heap.size w w2) := And.intro HO.out hb
  clear ho hg hbk hb k1 k2 k3 k4
  go_wp2_with fail
  rw [rounds_succ]
  go_wp2_with (at_builtin; refine wpList_append_own2 _ rfl (.tmp 31) (.tmp 32) 32 rfl w.heap.size 3 i0 (.int .i64 0) 1 8 Tryd.underlying32 hi0 hz0 hz1 hz2 rfl (by decide) (.slice g2 (n1) p2) (n1) (List.replicate n1 (Value.int .i64 v1)) rfl HO.out ⟨B2, 0, none⟩ n2 n2 (List.replicate n2 (Value.int .i64 v2)) rfl (by simp) HC.out (fun u hu => by rw [List.eq_of_mem_replicate hu]; rfl) (by unfold maxLen; omega) (by omega) (by have := HB.out.2.size; omega) ?_)
  intro v2' w3 ho hg hbk
  have hb : Below w.heap.size w w3 := HB.out.2.grown hg HB.out.2.size (fun r e => (HB.out.1.lt r e).1)
  obtain ⟨g3, p3, rfl⟩ := owns_form ho
  obtain ⟨c0, c1, c2, c3, k1, k2, k3, k4⟩ := HK.out w3 hb
  clear HO HC HB
  have ho' : w3.ownsRow w.heap.size 3 1 (.slice g3 (n1 + n2) p3) (n1 + n2) (List.replicate n1 (Value.int .i64 v1) ++ List.replicate n2 (Value.int .i64 v2)) := by simpa using ho
  have HO : Hid (w3.ownsRow w.heap.size 3 1 (.slice g3 (n1 + n2) p3) (n1 + n2) (List.replicate n1 (Value.int .i64 v1) ++ List.replicate n2 (Value.int .i64 v2))) := ho'
  clear ho'
  have HC : Hid (∀ (j : Nat) (u : Value), (List.replicate n3 (Value.int .i64 v3))[j]? = some u → w3.cell? ((⟨B3, 0, none⟩ : Addr).add j) = some u) := k3
  have HB : Hid (w3.ownsRow w.heap.size 3 1 (.slice g3 (n1 + n2) p3) (n1 + n2) (List.replicate n1 (Value.int .i64 v1) ++ List.replicate n2 (Value.int .i64 v2)) ∧ Below w.heap.size w w3) := And.intro HO.out hb
  clear ho hg hbk hb k1 k2 k3 k4
  go_wp2_with fail
  rw [rounds_succ]
  go_wp2_with (at_builtin; refine wpList_append_own2 _ rfl (.tmp 31) (.tmp 32) 32 rfl w.heap.size 3 i0 (.int .i64 0) 1 8 Tryd.underlying32 hi0 hz0 hz1 hz2 rfl (by decide) (.slice g3 (n1 + n2) p3) (n1 + n2) (List.replicate n1 (Value.int .i64 v1) ++ List.replicate n2 (Value.int .i64 v2)) rfl HO.out ⟨B3, 0, none⟩ n3 n3 (List.replicate n3 (Value.int .i64 v3)) rfl (by simp) HC.out (fun u hu => by rw [List.eq_of_mem_replicate hu]; rfl) (by unfold maxLen; omega) (by omega) (by have := HB.out.2.size; omega) ?_)
  intro v3' w4 ho hg hbk
  have hb : Below w.heap.size w w4 := HB.out.2.grown hg HB.out.2.size (fun r e => (HB.out.1.lt r e).1)
  obtain ⟨g4, p4, rfl⟩ := owns_form ho
  obtain ⟨c0, c1, c2, c3, k1, k2, k3, k4⟩ := HK.out w4 hb
  clear HO HC HB
  have ho' : w4.ownsRow w.heap.size 3 1 (.slice g4 (n1 + n2 + n3) p4) (n1 + n2 + n3) (List.replicate n1 (Value.int .i64 v1) ++ List.replicate n2 (Value.int .i64 v2) ++ List.replicate n3 (Value.int .i64 v3)) := by simpa using ho
  have HO : Hid (w4.ownsRow w.heap.size 3 1 (.slice g4 (n1 + n2 + n3) p4) (n1 + n2 + n3) (List.replicate n1 (Value.int .i64 v1) ++ List.replicate n2 (Value.int .i64 v2) ++ List.replicate n3 (Value.int .i64 v3))) := ho'
  clear ho'
  have HC : Hid (∀ (j : Nat) (u : Value), (List.replicate n4 (Value.int .i64 v4))[j]? = some u → w4.cell? ((⟨B4, 0, none⟩ : Addr).add j) = some u) := k4
  have HB : Hid (w4.ownsRow w.heap.size 3 1 (.slice g4 (n1 + n2 + n3) p4) (n1 + n2 + n3) (List.replicate n1 (Value.int .i64 v1) ++ List.replicate n2 (Value.int .i64 v2) ++ List.replicate n3 (Value.int .i64 v3)) ∧ Below w.heap.size w w4) := And.intro HO.out hb
  clear ho hg hbk hb k1 k2 k3 k4
  go_wp2_with fail
  rw [rounds_succ]
  go_wp2_with (at_builtin; refine wpList_append_own2 _ rfl (.tmp 31) (.tmp 32) 32 rfl w.heap.size 3 i0 (.int .i64 0) 1 8 Tryd.underlying32 hi0 hz0 hz1 hz2 rfl (by decide) (.slice g4 (n1 + n2 + n3) p4) (n1 + n2 + n3) (List.replicate n1 (Value.int .i64 v1) ++ List.replicate n2 (Value.int .i64 v2) ++ List.replicate n3 (Value.int .i64 v3)) rfl HO.out ⟨B4, 0, none⟩ n4 n4 (List.replicate n4 (Value.int .i64 v4)) rfl (by simp) HC.out (fun u hu => by rw [List.eq_of_mem_replicate hu]; rfl) (by unfold maxLen; omega) (by omega) (by have := HB.out.2.size; omega) ?_)
  intro v4' w5 ho hg hbk
  have hb : Below w.heap.size w w5 := HB.out.2.grown hg HB.out.2.size (fun r e => (HB.out.1.lt r e).1)
  obtain ⟨g5, p5, rfl⟩ := owns_form ho
  obtain ⟨c0, c1, c2, c3, k1, k2, k3, k4⟩ := HK.out w5 hb
  clear HO HC HB
  have HB : Hid (w5.ownsRow w.heap.size 3 1 (.slice g5 (n1 + n2 + n3 + n4) p5) (n1 + n2 + n3 + n4) (List.replicate n1 (Value.int .i64 v1) ++ List.replicate n2 (Value.int .i64 v2) ++ List.replicate n3 (Value.int .i64 v3) ++ List.replicate n4 (Value.int .i64 v4)) ∧ Below w.heap.size w w5) := And.intro (by simpa using ho) hb
  clear ho hg hbk hb k1 k2 k3 k4
  go_wp2_with fail
  rw [rounds_succ]
  go_wp2
  go_ret
  exact ⟨_, _, rfl, by simpa using HB.out.1, HB.out.2⟩
set_option maxRecDepth 100000 in
theorem fixLit_parts : fixLit = List.replicate 144 8 ++ List.replicate 112 9 ++ List.replicate 24 7 ++ List.replicate 8 8 := by decide
set_option maxRecDepth 100000 in
set_option maxHeartbeats 4000000 in
theorem pfixedLit_any (w : World) : Calls Tryd.prog 16 #[] w fun e w' => ∃ g c, e = .returned (.slice g 288 c) ∧ w'.ownsRow w.heap.size 3 1 (.slice g 288 c) 288 (fixLit.map (Value.int .i64)) ∧ Below w.heap.size w w' := by
  have H1 : Hid (Calls Tryd.prog 29 #[.int .i64 8, .int .i64 144] w _) := repeat'_any 8 144 (by omega) (by omega) w
  go_enter Tryd.func16, Tryd.ntmps16
  go_wp2_with fail
  refine Calls.mono H1.out ?_
  clear H1
  rintro e w1 ⟨B1, rfl, hB1, hR1, hb1⟩
  have H2 : Hid (Calls Tryd.prog 29 #[.int .i64 9, .int .i64 112] w1 _) := repeat'_any 9 112 (by omega) (by omega) w1
  go_wp2_with fail
  refine Calls.mono H2.out ?_
  clear H2
  rintro e w2 ⟨B2, rfl, hB2, hR2, hb2⟩
  have H3 : Hid (Calls Tryd.prog 29 #[.int .i64 7, .int .i64 24] w2 _) := repeat'_any 7 24 (by omega) (by omega) w2
  go_wp2_with fail
  refine Calls.mono H3.out ?_
  clear H3
  rintro e w3 ⟨B3, rfl, hB3, hR3, hb3⟩
  have H4 : Hid (Calls Tryd.prog 29 #[.int .i64 8, .int .i64 8] w3 _) := repeat'_any 8 8 (by omega) (by omega) w3
  go_wp2_with fail
  refine Calls.mono H4.out ?_
  clear H4
  rintro e w4 ⟨B4, rfl, hB4, hR4, hb4⟩
  have s1 := hb1.size
  have s2 := hb2.size
  have s3 := hb3.size
  have s4 := hb4.size
  have q3 : Row w4 B3 3 (repC 24 24 7).toArray := hR3.below hb4 hR3.lt
  have q2 : Row w4 B2 3 (repC 112 112 9).toArray := (hR2.below hb3 hR2.lt).below hb4 (by have := hR2.lt; omega)
  have q1 : Row w4 B1 3 (repC 144 144 8).toArray := ((hR1.below hb2 hR1.lt).below hb3 (by have := hR1.lt; omega)).below hb4 (by have := hR1.lt; omega)
  have hb : Below w.heap.size w w4 := ((hb1.trans (hb2.mono s1)).trans (hb3.mono (by omega))).trans (hb4.mono (by omega))
  have H5 : Hid (Calls Tryd.prog 28 #[.slice (some ⟨w4.heap.size, 0, none⟩) 4 4] (w4.alloc (.cells #[.slice (some ⟨B1, 0, none⟩) 144 144, .slice (some ⟨B2, 0, none⟩) 112 112, .slice (some ⟨B3, 0, none⟩) 24 24, .slice (some ⟨B4, 0, none⟩) 8 8] 32)) _) :=
    concat_four w4.heap.size B1 B2 B3 B4 144 112 24 8 8 9 7 8 _ (by omega) (by omega) (by omega) (by omega) (by omega) (Row.new w4 32 _) (q1.alloc _) (q2.alloc _) (q3.alloc _) (hR4.alloc _)
  have HBl : Hid (Below w.heap.size w w4) := hb
  clear q1 q2 q3 hR1 hR2 hR3 hR4 hb1 hb2 hb3 hb4 hb
  go_wp2_with fail
  refine Calls.mono H5.out ?_
  clear H5
  rintro e w5 ⟨g5, c5, rfl, ho5, hb5⟩
  have HF : Hid (w5.ownsRow w.heap.size 3 1 (.slice g5 288 c5) 288 (fixLit.map (Value.int .i64)) ∧ Below w.heap.size w w5) := by
    rw [World.size_alloc] at ho5 hb5
    rw [fixLit_parts]
    refine ⟨?_, (HBl.out.alloc HBl.out.size _).trans (hb5.mono (by have := HBl.out.size; omega))⟩
    refine ⟨ho5.1, ho5.2.imp id ?_⟩
    rintro ⟨g, cap, cur, h1, h2, h3⟩
    exact ⟨g, cap, cur, h1, by have := HBl.out.size; omega, h3⟩
  clear HBl ho5 hb5
  go_wp2
  go_ret
  exact ⟨_, _, rfl, HF.out⟩
end Go.Proofs.YtiheajlgaehfmaaDoor
