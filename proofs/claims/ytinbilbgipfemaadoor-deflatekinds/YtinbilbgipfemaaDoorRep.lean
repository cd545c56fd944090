import Derived.Test.YtinbilbgipfemaaDoorOrdM
import Derived.Test.YtinbilbgipfemaaDoorMemM
import Derived.Test.YtinbilbgipfemaaDoorTabM
import Derived.Lib.AppendZeros
import Derived.Laws.IdiomCopy
import Derived.LoopN
import Derived.Deep.OwnRows
/- The program's fixed tables: slices.Repeat, slices.Concat, FixedLit, FixedDist. -/
namespace Go.Proofs.YtinbilbgipfemaaDoor
open Go.RowKit

set_option maxRecDepth 100000 in
set_option maxRecDepth 100000 in
set_option maxHeartbeats 1000000 in
theorem mul64_one (n : Nat) (hn : n ≤ 100000) (w : World) : Calls Tryd.prog 63 #[.int .u64 1, .int .u64 (n : Int)] w fun e w' => e = .returned (.tuple #[.int .u64 0, .int .u64 (n : Int)]) ∧ w' = w := by
  have e1 : bits .and .u64 (n : Int) 4294967295 = (n : Int) := by
    have := u64_and_nat n 4294967295 (by omega) (by omega)
    rw [show (4294967295 : Nat) = 2 ^ 32 - 1 from rfl, Nat.and_two_pow_sub_one_eq_mod, Nat.mod_eq_of_lt (by omega)] at this
    simpa using this
  have e2 : bits .and .u64 (1 : Int) 4294967295 = 1 := by decide
  have e3 : bits .and .u64 (0 : Int) 4294967295 = 0 := by decide
  have e4 : (n : Int) / 4294967296 = 0 := by omega
  go_enter Tryd.func63, Tryd.ntmps63
  go_wp2
  go_ret2
  exact ⟨rfl, rfl⟩
set_option maxRecDepth 100000 in
set_option maxRecDepth 100000 in
set_option maxHeartbeats 1000000 in
theorem mul_one' (n : Nat) (hn : n ≤ 100000) (w : World) : Calls Tryd.prog 45 #[.int .u64 1, .int .u64 (n : Int)] w fun e w' => e = .returned (.tuple #[.int .u64 0, .int .u64 (n : Int)]) ∧ w' = w := by
  have HM : Hid _ := mul64_one n hn w
  go_enter Tryd.func45, Tryd.ntmps45
  go_wp2_with fail
  refine Calls.mono HM.out ?_
  rintro e w' ⟨rfl, rfl⟩
  go_wp2
  go_ret2
  exact ⟨rfl, rfl⟩

/-- Cells of a row, set one behind the other. -/
theorem Row.setCells {B : Nat} {t : TypeId} : ∀ (l cs : List Value) (o : Nat) (W : World), Row W B t cs.toArray → o + l.length ≤ cs.length → Row (W.setCells B o l) B t (cs.take o ++ l ++ cs.drop (o + l.length)).toArray := by
  intro l
  induction l with
  | nil =>
    intro cs o W h _
    simpa [World.setCells] using h
  | cons v r ih =>
    intro cs o W h hl
    simp only [List.length_cons] at hl
    have h1 := h.set o v
    have h2 : Row (W.setCell ⟨B, o, none⟩ v) B t (cs.set o v).toArray := by simpa using h1
    have h3 := ih (cs.set o v) (o + 1) _ h2 (by simp; omega)
    rw [World.setCells]
    have e : (cs.set o v).take (o + 1) ++ r ++ (cs.set o v).drop (o + 1 + r.length) = cs.take o ++ (v :: r) ++ cs.drop (o + (v :: r).length) := by
      rw [List.drop_set_of_lt (by omega), List.take_add_one, List.take_set_of_le (Nat.le_refl _), List.getElem?_set_self (by omega)]
      simp [Nat.add_assoc, Nat.add_comm 1]
    rw [e] at h3
    exact h3
theorem Kept.setCells {S : Nat → Prop} {B : Nat} : ∀ (l : List Value) (o : Nat) {a w : World}, Kept S a w → ¬ S B → Kept S a (w.setCells B o l) := by
  intro l
  induction l with
  | nil => intro o a w h _; exact h
  | cons v r ih => intro o a w h hB; exact ih (o + 1) (h.setCell (p := ⟨B, o, none⟩) hB v) hB
/-- The first k of n cells are v. -/
def repC (k n : Nat) (v : Int) : List Value := List.replicate k (.int .i64 v) ++ List.replicate (n - k) (.int .i64 0)
theorem repC_length (k n : Nat) (v : Int) (h : k ≤ n) : (repC k n v).length = n := by simp [repC]; omega
theorem repC_at (k n j : Nat) (v : Int) (h : j < k) : (repC k n v)[j]? = some (.int .i64 v) := by
  rw [repC, List.getElem?_append_left (by simpa using h), List.getElem?_replicate, if_pos h]
theorem repC_some (k n j : Nat) (v : Int) (h : j < n) (hk : k ≤ n) : ((repC k n v)[j]?).isSome = true := by
  rw [List.getElem?_eq_getElem (by rw [repC_length _ _ _ hk]; exact h)]
  rfl
theorem repC_more (k m n : Nat) (v : Int) : (repC k n v).take k ++ List.replicate m (.int .i64 v) ++ (repC k n v).drop (k + (List.replicate m (Value.int .i64 v)).length) = repC (k + m) n v := by
  have e1 : (repC k n v).take k = List.replicate k (.int .i64 v) := by rw [repC, List.take_left' (by simp)]
  have e2 : (repC k n v).drop (k + m) = List.replicate (n - (k + m)) (.int .i64 0) := by
    rw [repC, List.drop_append, List.drop_eq_nil_of_le (by simp), List.drop_replicate]
    simp
    omega
  rw [List.length_replicate, e1, e2, repC, List.replicate_append_replicate]

theorem Tryd.info3' : (Tryd.prog.info? 3).map (fun i => (i.zero, i.size, i.bytes)) = some (some (.int .i64 0), 1, 8) := by kernel_rfl
theorem made_repC (n : Nat) (v : Int) : madeCells #[.int .i64 0] n = (repC 0 n v).toArray := by
  apply Array.toList_inj.1
  rw [toList_madeCells_one]
  simp [repC]
theorem size1 : (Tryd.prog.info? 3).map (·.size) = some 1 := by kernel_rfl
/-- What the copies of Repeat do. -/
theorem rep_copy {W : World} {B k m n : Nat} {v : Int} (hR : Row W B 3 (repC k n v).toArray) (hk : k + m ≤ n) (hmk : m ≤ k) (o a : Nat) (sLen dLen sCap dCap : Nat) (hm : m = Nat.min sLen dLen) (ho : o = k) (ha : a = 0) (ty : TypeId) :
    (Builtin.copy_ #[40, 40] ty #[.slice (some ⟨B, o, none⟩) dLen dCap, .slice (some ⟨B, a, none⟩) sLen sCap]).run Tryd.prog W = .ok (.int .i64 (m : Int)) (W.setCells B k (List.replicate m (.int .i64 v))) := by
  subst ho ha
  have := run_copy_cells (P := Tryd.prog) W 40 40 ty 3 B o dLen dCap ⟨B, 0, none⟩ sLen sCap (List.replicate m (.int .i64 v)) Tryd.underlying40 size1 (by simp [hm]) (fun j u hu => ?_) (fun j hj => ?_) (fun j hj => hR.frozen _) (fun u hu => by rw [List.eq_of_mem_replicate hu]; rfl)
  · rw [this, List.length_replicate]
    rfl
  · have hj : j < m := by
      have := (List.getElem?_eq_some_iff.1 hu).1
      simpa using this
    rw [Go.WideShapes.add_plain, Nat.zero_add, hR.cell (i := j) (v := .int .i64 v) (by simpa using repC_at o n j v (by omega))]
    rw [List.getElem?_replicate, if_pos hj] at hu
    exact hu
  · have hj : j < m := by simpa using hj
    have hs := repC_some o n (o + j) v (by omega) (by omega)
    obtain ⟨u, hu⟩ := Option.isSome_iff_exists.1 hs
    rw [hR.cell (i := o + j) (v := u) (by simpa using hu)]
    rfl

set_option maxRecDepth 100000 in
set_option maxRecDepth 100000 in
set_option maxHeartbeats 4000000 in
theorem repeat_any (v : Int) (n A : Nat) (h1 : 1 ≤ n) (hn : n ≤ 100000) (w : World) (hc : w.cell? ⟨A, 0, none⟩ = some (.int .i64 v)) :
    Calls Tryd.prog 29 #[.slice (some ⟨A, 0, none⟩) 1 1, .int .i64 (n : Int)] w fun e w' => ∃ B, e = .returned (.slice (some ⟨B, 0, none⟩) n n) ∧ w.heap.size ≤ B ∧ Row w' B 3 (repC n n v).toArray ∧ Below w.heap.size w w' := by
  have HM : Hid _ := mul_one' n hn w
  have hmk := run_make_row' (P := Tryd.prog) 40 3 (.int .i64 0) 8 Tryd.underlying40 Tryd.info3' rfl .i64 .i64 n (by omega) (by omega)
  have hcv : IntKind.i64.wrap (n : Int) = n := by simp [IntKind.wrap, IntKind.bits, IntKind.signed]; omega
  have hcu : IntKind.u64.wrap (n : Int) = n := by simp [IntKind.wrap, IntKind.bits, IntKind.signed]; omega
  have hR0 : Row (w.alloc (.cells (madeCells #[.int .i64 0] n) 3)) w.heap.size 3 (repC 0 n v).toArray := by
    rw [made_repC n v]
    exact Row.new w 3 _
  have hA : A < w.heap.size := World.block_lt_of_cell? _ _ hc
  have hB0 : Below w.heap.size w (w.alloc (.cells (madeCells #[.int .i64 0] n) 3)) := (Below.refl _ w).alloc (Nat.le_refl _) _
  have hcp : (Builtin.copy_ #[40, 40] 3 #[.slice (some ⟨w.heap.size, 0, none⟩) n n, .slice (some ⟨A, 0, none⟩) 1 1]).run Tryd.prog (w.alloc (.cells (madeCells #[.int .i64 0] n) 3)) = .ok (.int .i64 1) ((w.alloc (.cells (madeCells #[.int .i64 0] n) 3)).setCells w.heap.size 0 [.int .i64 v]) := by
    refine run_copy_cells (P := Tryd.prog) _ 40 40 3 3 w.heap.size 0 n n ⟨A, 0, none⟩ 1 1 [.int .i64 v] Tryd.underlying40 size1 (by simp [Nat.min_def]; omega) (fun j u hu => ?_) (fun j hj => ?_) (fun j hj => hR0.frozen _) (fun u hu => by rw [List.mem_singleton.1 hu]; rfl)
    · cases j with
      | zero =>
        rw [Go.WideShapes.add_plain]
        exact (hB0.cell (p := ⟨A, 0, none⟩) hA).trans (hc.trans hu)
      | succ j => simp at hu
    · have hj : j = 0 := by simpa using hj
      subst hj
      have hs := repC_some 0 n 0 v (by omega) (by omega)
      obtain ⟨u, hu⟩ := Option.isSome_iff_exists.1 hs
      rw [hR0.cell (i := 0) (v := u) (by simpa using hu)]
      rfl
  have hR1 : Row ((w.alloc (.cells (madeCells #[.int .i64 0] n) 3)).setCells w.heap.size 0 [.int .i64 v]) w.heap.size 3 (repC 1 n v).toArray := by
    have := Row.setCells [.int .i64 v] (repC 0 n v) 0 _ hR0 (by rw [repC_length _ _ _ (by omega)]; simpa using h1)
    have e := repC_more 0 1 n v
    simp only [Nat.zero_add] at e
    have e' : List.replicate 1 (Value.int .i64 v) = [.int .i64 v] := rfl
    rw [e'] at e
    rw [show 0 + [Value.int IntKind.i64 v].length = [Value.int IntKind.i64 v].length from Nat.zero_add _] at this
    rw [e] at this
    exact this
  have hB1 : Below w.heap.size w ((w.alloc (.cells (madeCells #[.int .i64 0] n) 3)).setCells w.heap.size 0 [.int .i64 v]) := (Kept.setCells _ 0 (Kept.of_below (S := (· < w.heap.size)) hB0 (fun _ h => h)) (by simp)).below (fun _ h => h)
  go_enter Tryd.func29, Tryd.ntmps29
  go_wp2_with fail
  refine Calls.mono HM.out ?_
  rintro e w' ⟨rfl, hw⟩
  subst hw
  clear HM
  go_wp2_with fail
  generalize (w'.alloc (.cells (madeCells #[.int .i64 0] n) 3)).setCells w'.heap.size 0 [.int .i64 v] = w1 at hR1 hB1 ⊢
  clear hcp hR0 hB0 hmk hc
  go_loopw [8] (fun v8 wr => ∃ k : Nat, 1 ≤ k ∧ k ≤ n ∧ v8 = .int .i64 (k : Int) ∧ Row wr w'.heap.size 3 (repC k n v).toArray ∧ Below w'.heap.size w' wr) (fun v8 _ => n - (intOf v8).toNat)
  case atStart => exact ⟨1, by omega, by omega, rfl, hR1, hB1⟩
  case round =>
    clear hR1 hB1 w1
    obtain ⟨k, hk1, hkn, rfl, hR, hB⟩ := hrel
    by_cases hlt : k < n
    · obtain ⟨m, hm⟩ : ∃ m, m = Nat.min k (n - k) := ⟨_, rfl⟩
      have hmb : k + m ≤ n ∧ m ≤ k ∧ 1 ≤ m := by simp only [Nat.min_def] at hm; split at hm <;> omega
      have hcp := rep_copy (W := wr.drew) (B := w'.heap.size) (k := k) (m := m) (n := n) (v := v) hR hmb.1 hmb.2.1 k 0 k (n - k) n (n - k) hm rfl rfl 3
      have HR : Hid (Row (wr.drew.setCells w'.heap.size k (List.replicate m (.int .i64 v))) w'.heap.size 3 (repC (k + m) n v).toArray ∧ Below w'.heap.size w' (wr.drew.setCells w'.heap.size k (List.replicate m (.int .i64 v)))) := by
        have := Row.setCells (List.replicate m (.int .i64 v)) (repC k n v) k wr.drew hR (by rw [repC_length _ _ _ hkn]; simp; omega)
        rw [repC_more k m n v] at this
        exact ⟨this, (Kept.setCells _ k (Kept.of_below (S := (· < w'.heap.size)) hB (fun _ h => h)).drew (by simp)).below (fun _ h => h)⟩
      clear hR hB hm
      go_wp2_with fail
      refine wp_region_K (fun _ => True) (fun _ => false) (by kernel_rfl) ?_
      refine wpK_free (k := 0) (v := ?_) rfl (by kernel_rfl) (by kernel_rfl) (fun _ _ _ h => h) rfl (by intro wx; go_simp <;> rfl) ?_
      refine wpK_free (k := 1) (v := ?_) rfl (by kernel_rfl) (by kernel_rfl) (fun _ _ _ h => h) rfl (by intro wx; go_simp <;> rfl) ?_
      refine wpK_free (k := 2) (v := ?_) rfl (by kernel_rfl) (by kernel_rfl) (fun _ _ _ h => h) rfl (by intro wx; go_simp <;> rfl) ?_
      refine wpK_free (k := 3) (v := ?_) rfl (by kernel_rfl) (by kernel_rfl) (fun _ _ _ h => h) rfl (by intro wx; go_simp <;> rfl) ?_
      refine wpK_free (k := 4) (v := ?_) rfl (by kernel_rfl) (by kernel_rfl) (fun _ _ _ h => h) rfl (by intro wx; go_simp <;> rfl) ?_
      refine wpK_free (k := 5) (v := ?_) rfl (by kernel_rfl) (by kernel_rfl) (fun _ _ _ h => h) rfl (by intro wx; go_simp <;> rfl) ?_
      refine wpK_free (k := 6) (v := ?_) rfl (by kernel_rfl) (by kernel_rfl) (fun _ _ _ h => h) rfl (by intro wx; go_simp <;> rfl) ?_
      refine wpK_rest 7 (by kernel_rfl) 3 7 (by decide) (by decide) _ _ ?_
      simp only [List.drop_succ_cons, List.drop_zero]
      go_wp2
      exact ⟨⟨k + m, by omega, by omega, by go_num, HR.out.1, HR.out.2⟩, by simp [intOf]; omega⟩
    · obtain rfl : k = n := by omega
      have HR : Hid _ := And.intro hR hB
      clear hR hB
      go_wp2
      go_ret
      exact ⟨_, rfl, Nat.le_refl _, HR.out.1, HR.out.2⟩

theorem repC_full (n : Nat) (v : Int) : repC n n v = (List.replicate n v).map (Value.int .i64) := by simp [repC]
theorem owns_rep {w : World} {B n base : Nat} {v : Int} (hn : n ≤ 100000) (h : Row w B 3 (repC n n v).toArray) (hb : base ≤ B) : w.ownsRow base 3 1 (.slice (some ⟨B, 0, none⟩) n n) n ((List.replicate n v).map (Value.int .i64)) := by
  refine ⟨by simp, .inr ⟨B, n, _, rfl, hb, h, Nat.le_refl _, by unfold maxLen; omega, by simp [repC], ?_⟩⟩
  rw [repC_full]
  simp
end Go.Proofs.YtinbilbgipfemaaDoor
