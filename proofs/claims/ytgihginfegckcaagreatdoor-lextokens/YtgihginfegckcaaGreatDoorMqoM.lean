import Derived.Test.YtgihginfegckcaaGreatDoorMlx
import Derived.Test.YtgihginfegckcaaGreatDoorMwdM
/- lex's document: Quote. -/
namespace Go.Proofs.YtgihginfegckcaaGreatDoor
open Go.RowKit

theorem dblq_snoc (l : List UInt8) (c : UInt8) : dblq (l ++ [c]) = dblq l ++ (if c = 34 then [34, 34] else [c]) := by
  induction l with
  | nil =>
    by_cases h : c = 34
    · subst h; rfl
    · simp [dblq, h]
  | cons a l ih =>
    by_cases h : a = 34
    · subst h
      simp [dblq, ih]
    · simp [dblq, ih, h]
set_option maxRecDepth 100000 in
set_option maxHeartbeats 4000000 in
theorem quoteD_any (l : List UInt8) (hl : l.length ≤ 1048576) (w : World) : Calls Tryz.prog 13 #[.string (bs l)] w fun e w' => e = .returned (.string (bs (quoteQ l))) ∧ Below w.heap.size w w' := by
  unfold quoteQ
  have HS : Hid ((bs l).size = l.length) := bs_size l
  have hsz : (bs l).size ≤ 1048576 := by rw [bs_size]; exact hl
  clear hl
  obtain ⟨i0, hi, hzz⟩ := Option.map_eq_some_iff.1 Tryz.info5q
  simp only [Prod.mk.injEq] at hzz
  obtain ⟨hz0, hz1, hz2⟩ := hzz
  go_enter Tryz.func13, Tryz.ntmps13
  go_wp2_with fail
  go_loopw [3, 4] (fun v3 v4 wr => ∃ (k : Nat) (zs : List UInt8), k ≤ (bs l).size ∧ v4 = .int .i64 (k : Int) ∧ Hid (zs = 34 :: dblq (l.take k)) ∧ zs.length ≤ 2 * k + 1 ∧ wr.ownsRow w.heap.size 5 1 v3 zs.length (cellsU zs) ∧ Below w.heap.size w wr) (fun _ v4 _ => (bs l).size - (intOf v4).toNat)
  case atStart =>
    refine ⟨0, [34], by omega, rfl, rfl, by simp, ?_, (Below.refl _ w).alloc (Nat.le_refl _) _⟩
    exact World.ownsRow_lit w #[.int .u8 34] 1 (Nat.le_refl _) (by decide) rfl
  case round =>
    obtain ⟨k, zs, hk, rfl, HZ, hzl, hO, hB⟩ := hrel
    obtain ⟨gu, cu, rfl⟩ := owns_form hO
    have hws := hB.size
    by_cases hlt : k < (bs l).size
    · have HLT : Hid (k < l.length) := by have := HS.out; show _ < _; omega
      have HT : Hid (34 :: dblq (l.take (k + 1)) = zs ++ (if (bs l)[k]'hlt = 34 then [34, 34] else [(bs l)[k]'hlt])) := by
        show _ = _
        rw [take_snocL l k HLT.out, dblq_snoc, HZ.out]
        rfl
      have HF : Hid (∀ (n : Nat) (c : UInt8) (ys : List UInt8) (o : Obj) (W : World) (v v' : Value) (w3 : World), n = ys.length → W.ownsRow w.heap.size 5 1 v n (cellsU ys) → Below w.heap.size w W → w3.ownsRow w.heap.size 5 1 v' (n + 1) (cellsU ys ++ [.int .u8 (c.toNat : Int)]) → (W.alloc o).grownBy w3 v.ownBlock →
          w3.ownsRow w.heap.size 5 1 v' (ys ++ [c]).length (cellsU (ys ++ [c])) ∧ Below w.heap.size w w3) := by
        rintro n c ys o W v v' w3 rfl h0 hb h1 h2
        refine ⟨by rw [cellsU_snoc, List.length_append]; exact h1, (hb.alloc hb.size o).grown h2 (by rw [World.size_alloc]; have := hb.size; omega) (fun r e => (h0.lt r e).1)⟩
      have HK1 : Hid (k + 1 ≤ (bs l).size) := hlt
      clear HZ HLT
      have hlt := hlt
      by_cases c1 : (bs l)[k] = 34
      · have d1 : (((bs l)[k].toNat : Int) == 34) = true := by rw [c1]; rfl
        rw [if_pos c1] at HT
        have HC1 : Hid ((bs l)[k] = 34) := c1
        clear c1
        go_wp2_with (at_builtin; refine wpList_append_own2 _ rfl (.tmp 12) (.tmp 16) 49 rfl w.heap.size 5 i0 (.int .u8 0) 1 1 Tryz.underlying49 hi hz0 hz1 hz2 rfl (by decide) _ _ _ rfl (hO.alloc _) ⟨wr.heap.size, 0, none⟩ 1 1 [.int .u8 ((bs l)[k].toNat : Int)] rfl rfl (cell_one_new _ _ _) (by simp [Value.oneCell']) (by unfold maxLen; omega) (by omega) (by simp; omega) ?_)
        intro v' w3 hown' hgrow _
        have HG := HF.out _ (bs l)[k] zs _ wr _ v' w3 rfl hO hB hown' hgrow
        obtain ⟨hO3, hB3⟩ := HG
        clear hO hB hown' hgrow
        obtain ⟨g3, c3, rfl⟩ := owns_form hO3
        have hlz : (zs ++ [(bs l)[k]]).length = zs.length + 1 := by simp
        have HLZ : Hid _ := hlz
        rw [hlz] at hO3 ⊢
        clear hlz
        have hws3 := hB3.size
        go_wp2_with (at_builtin; refine wpList_append_own2 _ rfl (.tmp 22) (.tmp 23) 49 rfl w.heap.size 5 i0 (.int .u8 0) 1 1 Tryz.underlying49 hi hz0 hz1 hz2 rfl (by decide) _ _ _ rfl (hO3.alloc _) ⟨w3.heap.size, 0, none⟩ 1 1 [.int .u8 34] rfl rfl (cell_one_new _ _ _) (by simp [Value.oneCell']) (by unfold maxLen; omega) (by omega) (by simp; omega) ?_)
        intro v4 w4 hown4 hgrow4 _
        have HG : Hid _ := HF.out _ (34 : UInt8) (zs ++ [(bs l)[k]]) _ w3 _ v4 w4 HLZ.out.symm hO3 hB3 hown4 hgrow4
        have HT2 : Hid (34 :: dblq (l.take (k + 1)) = zs ++ [(bs l)[k]] ++ [34]) := by have := HT.out; show _ = _; rw [this, HC1.out]; simp
        clear HF hO3 hB3 hown4 hgrow4 HT HC1
        go_wp2
        refine ⟨⟨k + 1, zs ++ [(bs l)[k]] ++ [34], HK1.out, by simp, HT2.out.symm, by simp; omega, HG.out.1, HG.out.2⟩, ?_⟩
        have := HK1.out
        simp [intOf]; omega
      · have d1 : (((bs l)[k].toNat : Int) == 34) = false := beq_eq_false_iff_ne.2 (fun e => c1 (UInt8.toNat_inj.1 (by show _ = 34; omega)))
        rw [if_neg c1] at HT
        clear c1
        go_wp2_with (at_builtin; refine wpList_append_own2 _ rfl (.tmp 12) (.tmp 16) 49 rfl w.heap.size 5 i0 (.int .u8 0) 1 1 Tryz.underlying49 hi hz0 hz1 hz2 rfl (by decide) _ _ _ rfl (hO.alloc _) ⟨wr.heap.size, 0, none⟩ 1 1 [.int .u8 ((bs l)[k].toNat : Int)] rfl rfl (cell_one_new _ _ _) (by simp [Value.oneCell']) (by unfold maxLen; omega) (by omega) (by simp; omega) ?_)
        intro v' w3 hown' hgrow _
        have HG : Hid _ := HF.out _ (bs l)[k] zs _ wr _ v' w3 rfl hO hB hown' hgrow
        clear HF hO hB hown' hgrow
        go_wp2
        refine ⟨⟨k + 1, zs ++ [(bs l)[k]], HK1.out, by simp, HT.out.symm, by simp; omega, HG.out.1, HG.out.2⟩, ?_⟩
        have := HK1.out
        simp [intOf]; omega
    · have t2 : ¬ ((k : Int) < ((bs l).size : Int)) := by omega
      have HR : Hid (bs (34 :: (dblq l ++ [34])) = bs (zs ++ [34])) := by
        have := HZ.out
        rw [List.take_of_length_le (by have := HS.out; omega)] at this
        show _ = _
        rw [this]; rfl
      clear HZ
      go_wp2_with (at_builtin; refine wpList_append_own2 _ rfl (.tmp 25) (.tmp 26) 49 rfl w.heap.size 5 i0 (.int .u8 0) 1 1 Tryz.underlying49 hi hz0 hz1 hz2 rfl (by decide) _ _ _ rfl (hO.alloc _) ⟨wr.heap.size, 0, none⟩ 1 1 [.int .u8 34] rfl rfl (cell_one_new _ _ _) (by simp [Value.oneCell']) (by unfold maxLen; omega) (by omega) (by simp; omega) ?_)
      intro v' w3 hown' hgrow _
      have hO3 : w3.ownsRow w.heap.size 5 1 v' (zs ++ [34]).length (cellsU (zs ++ [34])) := by rw [cellsU_snoc, List.length_append]; exact hown'
      have hB3 : Below w.heap.size w w3 := (hB.alloc hB.size _).grown hgrow (by rw [World.size_alloc]; omega) (fun r e => (hO.lt r e).1)
      obtain ⟨g3, c3, rfl⟩ := owns_form hO3
      have hcv := conv_own hO3
      have HB3 : Hid _ := hB3
      have hlz : (zs ++ [34]).length = zs.length + 1 := by simp
      rw [hlz] at hcv ⊢
      clear hO hB hown' hgrow hO3 hB3 hlz
      go_wp2
      go_ret
      refine ⟨?_, HB3.out⟩
      rw [HR.out]
      rfl
end Go.Proofs.YtgihginfegckcaaGreatDoor
/- lex's document: Word. -/
namespace Go.Proofs.YtgihginfegckcaaGreatDoor
open Go.RowKit

theorem ownsD_cells {W : World} {base : Nat} {v : Value} {n : Nat} {xs : List Value} (h : W.ownsRow base 35 10 v n xs) (hn : 0 < n) : ∃ g cap, v = .slice (some ⟨g, 0, none⟩) n cap ∧ ∀ (i : Nat) u, xs[i]? = some u → W.cell? ⟨g, i, none⟩ = some u := by
  rcases h.2 with ⟨_, hx⟩ | ⟨g, cap, cur, rfl, h1, hgg, rest⟩
  · omega
  · refine ⟨g, cap, rfl, fun i u hu => ?_⟩
    have := h.cells (g := g) rfl i u hu
    rw [Go.WideShapes.add_plain] at this
    simpa using this
def wordP (l : List UInt8) : List Tk → Bool
  | [t] => decide (t.k = 4) && decide (t.s = l)
  | _ => false
theorem wordB_nil : wordB [] = false := by kernel_rfl
theorem wordB_long {l : List UInt8} (h : 512 < l.length) : wordB l = false := by
  unfold wordB lexR
  rw [if_pos h]; rfl
theorem wordB_true : wordB trueL = false := by kernel_rfl
theorem wordB_false : wordB falseL = false := by kernel_rfl
set_option maxRecDepth 100000 in
set_option maxHeartbeats 1000000 in
theorem wv_nil (w : World) : Calls Tryz.prog 11 #[.string (bs [])] w fun e w' => e = .returned (.bool false) ∧ w' = w := by
  have t0 : (((bs []).size : Int) == 0) = true := by rw [bs_size]; rfl
  go_enter Tryz.func11, Tryz.ntmps11
  go_wp2
  go_ret
  exact ⟨rfl, rfl⟩
set_option maxRecDepth 100000 in
set_option maxHeartbeats 1000000 in
theorem wv_long (l : List UInt8) (w : World) (h : 512 < (bs l).size) : Calls Tryz.prog 11 #[.string (bs l)] w fun e w' => e = .returned (.bool false) ∧ w' = w := by
  have t0 : (((bs l).size : Int) == 0) = false := beq_eq_false_iff_ne.2 (by omega)
  have u1 : decide ((512 : Int) < ((bs l).size : Int)) = true := decide_eq_true (by omega)
  have u2 : (512 : Int) < ((bs l).size : Int) := by omega
  go_enter Tryz.func11, Tryz.ntmps11
  go_wp2
  go_ret
  exact ⟨rfl, rfl⟩
set_option maxRecDepth 100000 in
set_option maxHeartbeats 1000000 in
theorem wv_one (w : World) : Calls Tryz.prog 11 #[.string (bs trueL)] w fun e w' => e = .returned (.bool false) ∧ w' = w := by
  unfold trueL bs
  go_enter Tryz.func11, Tryz.ntmps11
  go_wp2
  go_ret
  exact ⟨rfl, rfl⟩
set_option maxRecDepth 100000 in
set_option maxHeartbeats 1000000 in
theorem wv_two (w : World) : Calls Tryz.prog 11 #[.string (bs falseL)] w fun e w' => e = .returned (.bool false) ∧ w' = w := by
  unfold falseL bs
  go_enter Tryz.func11, Tryz.ntmps11
  go_wp2
  go_ret
  exact ⟨rfl, rfl⟩
set_option maxRecDepth 100000 in
set_option maxHeartbeats 1000000 in
theorem wv_raw (l : List UInt8) (ts : List Tk) (p : Nat) (er : Int) (w : World) (h1 : Hid (Calls Tryz.prog 8 #[.string (bs l)] w (LexPd w (ts, p, er)))) (r : Bool)
    (h0 : 0 < (bs l).size) (h5 : (bs l).size ≤ 512) (hT : ((bs l).toList == [84, 82, 85, 69]) = false) (hF : ((bs l).toList == [70, 65, 76, 83, 69]) = false)
    (HR : Hid ((decide (er = 0) && wordP l ts) = r)) :
    Calls Tryz.prog 11 #[.string (bs l)] w fun e w' => e = .returned (.bool r) ∧ Below w.heap.size w w' := by
  have t0 : (((bs l).size : Int) == 0) = false := beq_eq_false_iff_ne.2 (by omega)
  have u1 : decide ((512 : Int) < ((bs l).size : Int)) = false := decide_eq_false (by omega)
  go_enter Tryz.func11, Tryz.ntmps11
  go_wp2_with fail
  refine Calls.mono h1.out ?_
  rintro _ w1 ⟨⟨v, rfl, o1⟩, b1⟩
  clear h1
  simp only at o1
  by_cases e0 : er = 0
  · subst e0
    match ts, o1, HR with
    | [], o1, HR =>
      obtain rfl : false = r := by rw [← HR.out]; rfl
      obtain ⟨g, cap, rfl⟩ := owns_form o1
      go_wp2
      go_ret
      exact ⟨rfl, b1⟩
    | t :: t2 :: ts, o1, HR =>
      obtain rfl : false = r := by rw [← HR.out]; rfl
      obtain ⟨g, cap, rfl⟩ := owns_form o1
      have hn : (((t :: t2 :: ts).length : Int) == 1) = false := by simp; omega
      generalize (t :: t2 :: ts).length = n at hn o1 ⊢
      clear HR
      go_wp2
      go_ret
      exact ⟨rfl, b1⟩
    | [t], o1, HR =>
      obtain ⟨g, cap, rfl, c1⟩ := ownsD_cells o1 (by simp)
      have c0 := c1 0 (.int .i64 t.k) rfl
      have c2 := c1 2 (.string (bs t.s)) rfl
      have HB : Hid (Below w.heap.size w w1) := b1
      clear c1 o1 b1
      have e1 : (t.k == 4) = decide (t.k = 4) := by
        by_cases h : t.k = 4
        · rw [h]; rfl
        · rw [decide_eq_false h]; simpa using h
      have e2 := bs_eq t.s l
      have HR2 : Hid ((decide (t.k = 4) && decide (t.s = l)) = r) := by
        show _ = _
        rw [← HR.out]
        simp [wordP]
      clear HR
      generalize decide (t.k = 4) = x1 at *
      generalize decide (t.s = l) = x2 at *
      cases x1
      · obtain rfl : false = r := by rw [← HR2.out]; rfl
        go_wp2
        go_ret
        exact ⟨rfl, HB.out⟩
      · cases x2
        · obtain rfl : false = r := by rw [← HR2.out]; rfl
          go_wp2
          go_ret
          exact ⟨rfl, HB.out⟩
        · obtain rfl : true = r := by rw [← HR2.out]; rfl
          go_wp2
          go_ret
          exact ⟨rfl, HB.out⟩
  · have hn : (er == 0) = false := by simpa using e0
    obtain rfl : false = r := by rw [← HR.out, decide_eq_false e0]; rfl
    clear e0 HR o1
    go_wp2
    go_ret
    exact ⟨rfl, b1⟩
theorem wordD_any (l : List UInt8) (w : World) : Calls Tryz.prog 11 #[.string (bs l)] w fun e w' => e = .returned (.bool (wordB l)) ∧ Below w.heap.size w w' := by
  have fin : ∀ {r : Bool}, (Calls Tryz.prog 11 #[.string (bs l)] w fun e w' => e = .returned (.bool false) ∧ w' = w) → r = false → Calls Tryz.prog 11 #[.string (bs l)] w fun e w' => e = .returned (.bool r) ∧ Below w.heap.size w w' := by
    rintro r h rfl
    exact h.mono fun e w' ⟨he, hw⟩ => ⟨he, hw ▸ Below.refl _ _⟩
  by_cases h0 : l = []
  · subst h0
    exact fin (wv_nil w) wordB_nil
  · by_cases h5 : 512 < l.length
    · exact fin (wv_long l w (by rw [bs_size]; exact h5)) (wordB_long h5)
    · by_cases hT : l = trueL
      · subst hT
        exact fin (wv_one w) wordB_true
      · by_cases hF : l = falseL
        · subst hF
          exact fin (wv_two w) wordB_false
        · have e3 := bs_eq l trueL
          have e4 := bs_eq l falseL
          rw [show (bs trueL).toList = [84, 82, 85, 69] by rw [bs_toList]; rfl, decide_eq_false hT] at e3
          rw [show (bs falseL).toList = [70, 65, 76, 83, 69] by rw [bs_toList]; rfl, decide_eq_false hF] at e4
          refine wv_raw l (lexR l).1 (lexR l).2.1 (lexR l).2.2 w (lexd_any l w) _ (by rw [bs_size]; exact List.length_pos_iff.2 h0) (by rw [bs_size]; omega) e3 e4 ?_
          show _ = _
          unfold wordB
          congr 1
          cases (lexR l).1 with
          | nil => rfl
          | cons t ts => cases ts with
            | nil => simp [wordO, wordT, wordP, hT, hF]
            | cons => rfl
end Go.Proofs.YtgihginfegckcaaGreatDoor
