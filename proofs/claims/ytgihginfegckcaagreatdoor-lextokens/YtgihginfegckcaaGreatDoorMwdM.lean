import Derived.Test.YtgihginfegckcaaGreatDoorMwo
import Derived.Test.YtgihginfegckcaaGreatDoorLlxM
import Derived.BigQuiet
import Derived.Lib.ItoaNum
import Derived.OwnWalkIn
import Derived.Shelf.Abstract
import Derived.Shelf.RegionOpen
import Derived.TacticsInMore
import Derived.LoopNIn
import Derived.LoopIn
import Derived.Lib.IndexLaws
/- lex's document: what a letter begins, whole. -/
namespace Go.Proofs.YtgihginfegckcaaGreatDoor
open Go.RowKit

theorem any_cons (a : UInt8) (l cs : List UInt8) : Lib.containsAny (a :: l) cs = (cs.contains a || Lib.containsAny l cs) := by
  unfold Lib.containsAny
  rw [Lib.indexAny]
  have := Lib.indexAny_ge cs l
  by_cases h : cs.contains a = true
  · rw [if_pos h, h]; simp
  · rw [if_neg h]
    have h2 : cs.contains a = false := by simpa using h
    rw [h2, Bool.false_or]
    by_cases h3 : (Lib.indexAny l cs == -1) = true
    · rw [if_pos h3]
      have : Lib.indexAny l cs = -1 := by simpa using h3
      rw [this]
    · rw [if_neg h3]
      have : ¬ Lib.indexAny l cs = -1 := by simpa using h3
      rw [decide_eq_true (by omega), decide_eq_true (by omega)]
theorem any_two (l : List UInt8) (a b : UInt8) : Lib.containsAny l [a, b] = (l.contains a || l.contains b) := by
  induction l with
  | nil => rfl
  | cons c l ih =>
    rw [any_cons, ih]
    simp only [List.contains_cons, List.contains_nil, Bool.or_false]
    have e : ∀ x y : UInt8, (x == y) = (y == x) := fun x y => by
      by_cases h : x = y
      · subst h; rfl
      · rw [beq_eq_false_iff_ne.2 h, beq_eq_false_iff_ne.2 (Ne.symm h)]
    rw [e c a, e c b]
    cases a == c <;> cases b == c <;> simp
theorem pre_at (l : List UInt8) (k : Nat) (c : UInt8) (hc : c ≠ 0) : Lib.hasPrefix (l.drop k) [c] = decide (atB l k = c) := by
  by_cases h : k < l.length
  · rw [drop_at h]
    by_cases h2 : atB l k = c
    · rw [h2]; simp [Lib.hasPrefix]
    · rw [decide_eq_false h2]
      have h3 : (c == atB l k) = false := beq_eq_false_iff_ne.2 (Ne.symm h2)
      simp [Lib.hasPrefix, List.isPrefixOf, h3]
  · rw [List.drop_eq_nil_of_le (by omega), atB_ge (by omega), decide_eq_false (Ne.symm hc)]
    rfl
/-- What a token that begins at a place is told as. -/
def OneP (i : Nat) (r : Tk × Nat × Int) (e : Ending) : Prop := ∃ (t : Tk) (k : Nat), e = tokR t k r.2.2 ∧ (r.2.2 = 0 → t = r.1.put i ∧ k = i + r.2.1)
theorem cut_ahead (l cs : List UInt8) (i : Nat) : cutL l i (ahE cs l i) = aheadL (l.drop i) cs := by
  unfold ahE
  rw [cut_take, ahead_take]
theorem parse_err (l : List UInt8) : (parseR l).2 = 0 ∨ (parseR l).2 = 40 ∨ (parseR l).2 = 41 := by
  unfold parseR
  split
  · split <;> simp
  · simp
/-- Where a reference ends that a sheet stands ahead of. -/
theorem sheet_end {l : List UInt8} {i n : Nat} (hp : Lib.hasPrefix ((l.drop i).drop n) [33] = true) : i + shN (l.drop i) n = ahE plcL l (i + n + 1) := by
  have ht : Lib.trimPrefix ((l.drop i).drop n) [33] = l.drop (i + n + 1) := by
    unfold Lib.trimPrefix
    rw [hp]
    simp [List.drop_drop, Nat.add_assoc]
  unfold shN ahE
  rw [ht]; omega
theorem sheet_tok (hc : RefC) (l : List UInt8) (i n : Nat) (hin : i + n + 1 ≤ l.length) (hl : l.length ≤ 1000000) (hp : Lib.hasPrefix ((l.drop i).drop n) [33] = true) (W : World) :
    Calls Tryz.prog 41 #[.string (bs l), .int .i64 (i : Int), .int .i64 ((ahE plcL l (i + n + 1) : Nat) : Int)] W fun e w' => e = tokR ⟨3, (i : Int), [], 0, 0, (onSheetR (l.drop i) n).1.r⟩ (ahE plcL l (i + n + 1)) (onSheetR (l.drop i) n).2.2 ∧ Below W.heap.size W w' := by
  have h1 := ahE_le (cs := plcL) (i := i + n + 1) hin
  have h2 := rf_any hc l i (ahE plcL l (i + n + 1)) (by omega) h1.2 hl W
  have h3 : cutL l i (ahE plcL l (i + n + 1)) = (l.drop i).take (shN (l.drop i) n) := by
    rw [← sheet_end hp, cut_take]
  rw [h3] at h2
  unfold onSheetR
  rw [hp]
  exact h2
theorem sheet_oneP {l : List UInt8} {i n : Nat} (hp : Lib.hasPrefix ((l.drop i).drop n) [33] = true) : OneP i (onSheetR (l.drop i) n) (tokR ⟨3, (i : Int), [], 0, 0, (onSheetR (l.drop i) n).1.r⟩ (ahE plcL l (i + n + 1)) (onSheetR (l.drop i) n).2.2) := by
  refine ⟨_, _, rfl, fun _ => ⟨?_, ?_⟩⟩
  · unfold onSheetR; rw [hp]; rfl
  · unfold onSheetR; rw [hp]; simp only [if_true]; rw [sheet_end hp]
theorem wordX_any (hc : RefC) (l : List UInt8) (i : Nat) (hi : i < l.length) (hl : l.length ≤ 1000000) (w : World) :
    Calls Tryz.prog 44 #[.string (bs l), .int .i64 (i : Int)] w fun e w' => OneP i (runR (l.drop i)) e ∧ Below w.heap.size w w' := by
  have q1 := ahE_le (cs := wthL) (Nat.le_of_lt hi)
  obtain ⟨k, hk⟩ : ∃ k, ahE wthL l i = k := ⟨_, rfl⟩
  obtain ⟨V, hV⟩ : ∃ V, aheadL (l.drop i) wthL = V := ⟨_, rfl⟩
  have hkn : i + V.length = k := by rw [← hk, ← hV]; rfl
  have hcV : cutL l i k = V := by rw [← hk, cut_ahead, hV]
  have hbk : behindL (l.drop i) wthL = l.drop k := by rw [← hk, ahE_drop]
  have h42 : ∀ W, Hid (Calls Tryz.prog 42 #[.string (bs l), .int .i64 (i : Int), .bool false] W fun e w' => e = .returned (.int .i64 (k : Int)) ∧ w' = W) := fun W => by rw [← hk]; exact while_w l i (by omega) (by omega) W
  rw [hk] at q1
  have h40 : ∀ W, Hid (Calls Tryz.prog 40 #[.string (bs l), .int .i64 (k : Int)] W fun e w' => e = .returned (.int .u8 ((atB l k).toNat : Int)) ∧ w' = W) := fun W => atx_any l k W
  have hVl : V.length ≤ 1000000 := by omega
  have A68 : ∀ (c : UInt8) (b : Bool), V.contains c = b → ∀ W, Hid (Calls Tryz.prog 68 #[.string (bs V), .int .u8 (c.toNat : Int)] W fun e w' => e = .returned (.bool b) ∧ w' = W) := by rintro c b rfl W; exact has_any V c (by omega) W
  have hHV : Hid ((bs l).extract i k = bs V) := by show _ = _; rw [bs_cut, hcV]
  have hk2 : k ≤ (bs l).size := by rw [bs_size]; omega
  have h65 : ∀ W, Hid (Calls Tryz.prog 65 #[.string (bs V)] W fun e w' => e = .returned (.tuple #[.agg #[.string (parseR V).1.s, .int .i64 (parseR V).1.c, .int .i64 (parseR V).1.r, .bool (parseR V).1.ac, .bool (parseR V).1.ar], .int .i64 (parseR V).2]) ∧ Below W.heap.size W w') := fun W => hc V W hVl
  have h41 : ∀ W, Hid (Calls Tryz.prog 41 #[.string (bs l), .int .i64 (i : Int), .int .i64 (k : Int)] W fun e w' => e = tokR ⟨3, (i : Int), [], 0, 0, (parseR V).1⟩ k (parseR V).2 ∧ Below W.heap.size W w') := fun W => by
    have := rf_any hc l i k q1.1 q1.2 hl W
    rw [hcV] at this; exact this
  have T : ∀ (n : Nat), n < 256 → UInt8.ofNat n ≠ 0 → (((atB l k).toNat : Int) == (n : Int)) = Lib.hasPrefix (l.drop k) [UInt8.ofNat n] := fun n hn h0 => by rw [pre_at l k _ h0, eqI _ n hn]
  have T' : ∀ (n : Nat), n < 256 → UInt8.ofNat n ≠ 0 → (((atB l k).toNat : Int) != (n : Int)) = !Lib.hasPrefix (l.drop k) [UInt8.ofNat n] := fun n hn h0 => by rw [bne, T n hn h0]
  unfold runR
  rw [hV, hbk, any_two]
  have hpe := parse_err V
  obtain ⟨⟨pr, pe⟩, hpr⟩ : ∃ x, parseR V = x := ⟨_, rfl⟩
  rw [hpr] at hpe h65 h41 ⊢
  simp only at hpe h65 h41 ⊢
  have KR : OneP i (⟨3, 0, [], 0, 0, pr⟩, V.length, pe) (tokR ⟨3, (i : Int), [], 0, 0, pr⟩ k pe) := ⟨_, _, rfl, fun _ => ⟨rfl, hkn.symm⟩⟩
  have KB : OneP i (Tk.zero, 0, 40) (tokR Tk.zero 0 40) := ⟨_, _, rfl, fun h => by cases h⟩
  have KN : OneP i (⟨4, 0, V, 0, 0, Rf.zero⟩, V.length, 0) (tokR ⟨4, (i : Int), V, 0, 0, Rf.zero⟩ k 0) := ⟨_, _, rfl, fun _ => ⟨rfl, hkn.symm⟩⟩
  cases h33 : Lib.hasPrefix (l.drop k) [33]
  · have t33 : (((atB l k).toNat : Int) == 33) = false := (T 33 (by omega) (by decide)).trans h33
    simp only [Bool.false_and, Bool.false_eq_true, if_false]
    cases h36 : V.contains 36
    · cases h4 : Lib.hasPrefix (l.drop k) [40]
      · have t40 : (((atB l k).toNat : Int) != 40) = true := by have := T' 40 (by omega) (by decide); rw [show UInt8.ofNat 40 = 40 from rfl, h4] at this; exact this
        rcases hpe with rfl | rfl | rfl
        · refine Calls.mono (wo_N1_0_R l V i k _ w q1.1 hk2 _ _ _ _ _ _ _ _ hHV h42 h40 t33 h65 rfl t40 h41) ?_
          rintro _ w' ⟨rfl, hB⟩
          exact ⟨KR, hB⟩
        · refine Calls.mono (wo_N1_x_f l V i k _ w q1.1 hk2 _ _ _ _ _ _ hHV h42 h40 t33 h65 rfl rfl (A68 36 _ h36)) ?_
          rintro _ w' ⟨rfl, hB⟩
          exact ⟨KN, hB⟩
        · refine Calls.mono (wo_N1_41_R l V i k _ w q1.1 hk2 _ _ _ _ _ _ _ _ hHV h42 h40 t33 h65 rfl rfl t40 h41) ?_
          rintro _ w' ⟨rfl, hB⟩
          exact ⟨KR, hB⟩
      · have t40 : (((atB l k).toNat : Int) != 40) = false := by have := T' 40 (by omega) (by decide); rw [show UInt8.ofNat 40 = 40 from rfl, h4] at this; exact this
        rcases hpe with rfl | rfl | rfl
        · refine Calls.mono (wo_N1_0_pf l V i k _ w q1.1 hk2 _ _ _ _ _ _ hHV h42 h40 t33 h65 rfl t40 (A68 36 _ h36)) ?_
          rintro _ w' ⟨rfl, hB⟩
          exact ⟨KN, hB⟩
        · refine Calls.mono (wo_N1_x_f l V i k _ w q1.1 hk2 _ _ _ _ _ _ hHV h42 h40 t33 h65 rfl rfl (A68 36 _ h36)) ?_
          rintro _ w' ⟨rfl, hB⟩
          exact ⟨KN, hB⟩
        · refine Calls.mono (wo_N1_41_pf l V i k _ w q1.1 hk2 _ _ _ _ _ _ hHV h42 h40 t33 h65 rfl rfl t40 (A68 36 _ h36)) ?_
          rintro _ w' ⟨rfl, hB⟩
          exact ⟨KN, hB⟩
    · cases h4 : Lib.hasPrefix (l.drop k) [40]
      · have t40 : (((atB l k).toNat : Int) != 40) = true := by have := T' 40 (by omega) (by decide); rw [show UInt8.ofNat 40 = 40 from rfl, h4] at this; exact this
        rcases hpe with rfl | rfl | rfl
        · refine Calls.mono (wo_N1_0_R l V i k _ w q1.1 hk2 _ _ _ _ _ _ _ _ hHV h42 h40 t33 h65 rfl t40 h41) ?_
          rintro _ w' ⟨rfl, hB⟩
          exact ⟨KR, hB⟩
        · refine Calls.mono (wo_N1_x_t l V i k _ w q1.1 hk2 _ _ _ _ _ _ hHV h42 h40 t33 h65 rfl rfl (A68 36 _ h36)) ?_
          rintro _ w' ⟨rfl, hB⟩
          exact ⟨KB, hB⟩
        · refine Calls.mono (wo_N1_41_R l V i k _ w q1.1 hk2 _ _ _ _ _ _ _ _ hHV h42 h40 t33 h65 rfl rfl t40 h41) ?_
          rintro _ w' ⟨rfl, hB⟩
          exact ⟨KR, hB⟩
      · have t40 : (((atB l k).toNat : Int) != 40) = false := by have := T' 40 (by omega) (by decide); rw [show UInt8.ofNat 40 = 40 from rfl, h4] at this; exact this
        rcases hpe with rfl | rfl | rfl
        · refine Calls.mono (wo_N1_0_pt l V i k _ w q1.1 hk2 _ _ _ _ _ _ hHV h42 h40 t33 h65 rfl t40 (A68 36 _ h36)) ?_
          rintro _ w' ⟨rfl, hB⟩
          exact ⟨KB, hB⟩
        · refine Calls.mono (wo_N1_x_t l V i k _ w q1.1 hk2 _ _ _ _ _ _ hHV h42 h40 t33 h65 rfl rfl (A68 36 _ h36)) ?_
          rintro _ w' ⟨rfl, hB⟩
          exact ⟨KB, hB⟩
        · refine Calls.mono (wo_N1_41_pt l V i k _ w q1.1 hk2 _ _ _ _ _ _ hHV h42 h40 t33 h65 rfl rfl t40 (A68 36 _ h36)) ?_
          rintro _ w' ⟨rfl, hB⟩
          exact ⟨KB, hB⟩
  · have t33 : (((atB l k).toNat : Int) == 33) = true := (T 33 (by omega) (by decide)).trans h33
    have hat : atB l k = 33 := by have := pre_at l k 33 (by decide); rw [h33] at this; exact of_decide_eq_true this.symm
    have hkl : k < l.length := by
      by_cases h : k < l.length
      · exact h
      · rw [atB_ge (by omega)] at hat; cases hat
    have t40 : (((atB l k).toNat : Int) != 40) = true := by rw [hat]; rfl
    have h4 : Lib.hasPrefix (l.drop k) [40] = false := by rw [pre_at l k 40 (by decide), hat]; rfl
    rw [h4]
    cases h36 : V.contains 36
    · cases h46 : V.contains 46
      · have hp : Lib.hasPrefix ((l.drop i).drop V.length) [33] = true := by rw [List.drop_drop, hkn]; exact h33
        simp only [Bool.true_and, Bool.false_or, Bool.not_false, if_true]
        have hs := sheet_tok hc l i V.length (by omega) hl hp
        have hq := sheet_oneP hp
        have h42b : ∀ z : Int, z = (k : Int) + 1 → ∀ W, Hid (Calls Tryz.prog 42 #[.string (bs l), .int .i64 z, .bool true] W fun e w' => e = .returned (.int .i64 ((ahE plcL l (i + V.length + 1) : Nat) : Int)) ∧ w' = W) := by
          rintro z rfl W; rw [hkn]; exact while_c l (k + 1) (by omega) (by omega) W
        refine Calls.mono (wo_S l V i k _ _ w q1.1 hk2 (by omega) _ _ hHV h42 h40 t33 (A68 36 _ h36) (A68 46 _ h46) h42b (fun W => hs W)) ?_
        rintro _ w' ⟨rfl, hB⟩
        exact ⟨hq, hB⟩
      · simp only [Bool.false_or, Bool.not_true, Bool.and_false, Bool.false_eq_true, if_false]
        rcases hpe with rfl | rfl | rfl
        · refine Calls.mono (wo_N3_0_R l V i k _ w q1.1 hk2 _ _ _ _ _ _ _ _ hHV h42 h40 t33 (A68 36 _ h36) (A68 46 _ h46) h65 rfl t40 h41) ?_
          rintro _ w' ⟨rfl, hB⟩
          exact ⟨KR, hB⟩
        · refine Calls.mono (wo_N3_x_f l V i k _ w q1.1 hk2 _ _ _ _ _ _ hHV h42 h40 t33 (A68 36 _ h36) (A68 46 _ h46) h65 rfl rfl) ?_
          rintro _ w' ⟨rfl, hB⟩
          exact ⟨KN, hB⟩
        · refine Calls.mono (wo_N3_41_R l V i k _ w q1.1 hk2 _ _ _ _ _ _ _ _ hHV h42 h40 t33 (A68 36 _ h36) (A68 46 _ h46) h65 rfl rfl t40 h41) ?_
          rintro _ w' ⟨rfl, hB⟩
          exact ⟨KR, hB⟩
    · simp only [Bool.true_or, Bool.not_true, Bool.and_false, Bool.false_eq_true, if_false]
      rcases hpe with rfl | rfl | rfl
      · refine Calls.mono (wo_N2_0_R l V i k _ w q1.1 hk2 _ _ _ _ _ _ _ _ hHV h42 h40 t33 (A68 36 _ h36) h65 rfl t40 h41) ?_
        rintro _ w' ⟨rfl, hB⟩
        exact ⟨KR, hB⟩
      · refine Calls.mono (wo_N2_x_t l V i k _ w q1.1 hk2 _ _ _ _ _ _ hHV h42 h40 t33 (A68 36 _ h36) h65 rfl rfl) ?_
        rintro _ w' ⟨rfl, hB⟩
        exact ⟨KB, hB⟩
      · refine Calls.mono (wo_N2_41_R l V i k _ w q1.1 hk2 _ _ _ _ _ _ _ _ hHV h42 h40 t33 (A68 36 _ h36) h65 rfl rfl t40 h41) ?_
        rintro _ w' ⟨rfl, hB⟩
        exact ⟨KR, hB⟩
end Go.Proofs.YtgihginfegckcaaGreatDoor
/- lex's Quote, Word. -/
namespace Go.Proofs.YtgihginfegckcaaGreatDoor
open Go.RowKit

set_option maxRecDepth 100000 in
set_option maxHeartbeats 400000 in
theorem quote_any (s : List UInt8) (hs : s.length ≤ 1048576) (w : World) (hE : LexE w) :
    Calls Tryz.prog 12 #[.string (bs s)] w fun e w' => e = .returned (.string (bs (quoteQ s))) ∧ Below w.heap.size w w' := by
  obtain ⟨m, hm⟩ := hE.max
  have hb := bs_size s
  have hc := Lib.countB_le ⟨#[34]⟩ (by decide) (bs s).size (bs s) (Nat.le_refl _)
  have H : Hid (Calls Tryz.prog 23 #[.string (bs s), .string ⟨#[34]⟩, .string ⟨#[34, 34]⟩] w fun e w' => e = .returned (.string (bs (dblq s))) ∧ Below w.heap.size w w') := by
    have := Tryz.strings_ReplaceAll (bs s) ⟨#[34]⟩ ⟨#[34, 34]⟩ m w (by omega) hm (by decide) (by
      have : (⟨#[34, 34]⟩ : ByteArray).size = 2 := rfl
      rw [this]; omega)
    rw [← ra_dbl s.length s (Nat.le_refl _)]
    exact this
  have k1 : (bs (dblq s)).size ≤ 2097152 := by rw [bs_size]; have := dblq_len s; omega
  have HJ : Hid ((⟨#[34]⟩ ++ bs (dblq s)) ++ ⟨#[34]⟩ = bs (quoteQ s)) := by
    show _ = _
    rw [show (⟨#[34]⟩ : ByteArray) = bs [34] from rfl, bs_join, bs_join]
    rfl
  clear hc hb hm hE hs
  go_enter Tryz.func12, Tryz.ntmps12
  go_wp2_with fail
  refine Calls.mono H.out ?_
  rintro _ w1 ⟨rfl, b1⟩
  clear H
  go_wp2
  go_ret
  exact ⟨by rw [← HJ.out]; rfl, b1⟩
def trueL : List UInt8 := [84, 82, 85, 69]
def falseL : List UInt8 := [70, 65, 76, 83, 69]
def wordT (l : List UInt8) (t : Tk) : Bool := decide (t.k = 4) && decide (t.s = l) && !decide (l = trueL) && !decide (l = falseL)
def wordO (l : List UInt8) (ts : List Tk) : Bool := match ts with
  | [t] => wordT l t
  | _ => false
/-- May a text be the name of something? -/
def wordB (l : List UInt8) : Bool := decide ((lexR l).2.2 = 0) && wordO l (lexR l).1
theorem bs_eq (a b : List UInt8) : ((bs a).toList == (bs b).toList) = decide (a = b) := by
  rw [bs_toList, bs_toList]
  by_cases h : a = b
  · subst h; simp
  · rw [decide_eq_false h]; simpa using h
set_option maxRecDepth 100000 in
set_option maxHeartbeats 1000000 in
theorem word_raw (l : List UInt8) (ts : List Tk) (p : Nat) (er : Int) (w : World) (h1 : Hid (Calls Tryz.prog 7 #[.string (bs l)] w (LexPost w (ts, p, er)))) (r : Bool)
    (HR : Hid ((decide (er = 0) && wordO l ts) = r)) :
    Calls Tryz.prog 10 #[.string (bs l)] w fun e w' => e = .returned (.bool r) ∧ Below w.heap.size w w' := by
  go_enter Tryz.func10, Tryz.ntmps10
  go_wp2_with fail
  refine Calls.mono h1.out ?_
  rintro _ w1 ⟨⟨v, rfl, o1⟩, b1⟩
  clear h1
  simp only at o1
  by_cases e0 : er = 0
  · subst e0
    match ts, o1, HR with
    | [], o1, HR =>
      obtain rfl : false = r := by rw [← HR.out]; rfl
      obtain ⟨g, cap, rfl⟩ := owns_form o1
      go_wp2
      go_ret
      exact ⟨rfl, b1⟩
    | t :: t2 :: ts, o1, HR =>
      obtain rfl : false = r := by rw [← HR.out]; rfl
      obtain ⟨g, cap, rfl⟩ := owns_form o1
      have hn : (((t :: t2 :: ts).length : Int) != 1) = true := by simp; omega
      generalize (t :: t2 :: ts).length = n at hn o1 ⊢
      clear HR
      go_wp2
      go_ret
      exact ⟨rfl, b1⟩
    | [t], o1, HR =>
      obtain ⟨g, cap, rfl, c1⟩ := owns_cells o1 (by simp)
      have c0 := c1 0 (.int .i64 t.k) rfl
      have c2 := c1 2 (.string (bs t.s)) rfl
      have HB : Hid (Below w.heap.size w w1) := b1
      clear c1 o1 b1
      have e1 : (t.k == 4) = decide (t.k = 4) := by
        by_cases h : t.k = 4
        · rw [h]; rfl
        · rw [decide_eq_false h]; simpa using h
      have e2 := bs_eq t.s l
      have e3 := bs_eq l trueL
      have e4 := bs_eq l falseL
      rw [show (bs trueL).toList = [84, 82, 85, 69] by rw [bs_toList]; rfl] at e3
      rw [show (bs falseL).toList = [70, 65, 76, 83, 69] by rw [bs_toList]; rfl] at e4
      have HR2 : Hid ((decide (t.k = 4) && decide (t.s = l) && !decide (l = trueL) && !decide (l = falseL)) = r) := by
        show _ = _
        rw [← HR.out]
        simp [wordO, wordT]
      clear HR
      generalize decide (t.k = 4) = x1 at *
      generalize decide (t.s = l) = x2 at *
      generalize decide (l = trueL) = x3 at *
      generalize decide (l = falseL) = x4 at *
      cases x1
      · obtain rfl : false = r := by rw [← HR2.out]; rfl
        go_wp2
        go_ret
        exact ⟨rfl, HB.out⟩
      · cases x2
        · obtain rfl : false = r := by rw [← HR2.out]; rfl
          go_wp2
          go_ret
          exact ⟨rfl, HB.out⟩
        · cases x3
          · cases x4
            · obtain rfl : true = r := by rw [← HR2.out]; rfl
              go_wp2
              go_ret
              exact ⟨rfl, HB.out⟩
            · obtain rfl : false = r := by rw [← HR2.out]; rfl
              go_wp2
              go_ret
              exact ⟨rfl, HB.out⟩
          · obtain rfl : false = r := by rw [← HR2.out]; rfl
            go_wp2
            go_ret
            exact ⟨rfl, HB.out⟩
  · have hn : (er != 0) = true := by simpa using e0
    obtain rfl : false = r := by rw [← HR.out, decide_eq_false e0]; rfl
    clear e0 HR o1
    go_wp2
    go_ret
    exact ⟨rfl, b1⟩
theorem word_any (l : List UInt8) (w : World) (hE : LexE w) :
    Calls Tryz.prog 10 #[.string (bs l)] w fun e w' => e = .returned (.bool (wordB l)) ∧ Below w.heap.size w w' :=
  word_raw l (lexR l).1 (lexR l).2.1 (lexR l).2.2 w (lex_any l w hE) _ rfl
end Go.Proofs.YtgihginfegckcaaGreatDoor
/- lex's document: marks. -/
namespace Go.Proofs.YtgihginfegckcaaGreatDoor
open Go.RowKit

def mkC : Array Value := #[.string ⟨#[60, 62]⟩, .string ⟨#[60, 61]⟩, .string ⟨#[62, 61]⟩, .string ⟨#[60]⟩, .string ⟨#[62]⟩, .string ⟨#[61]⟩, .string ⟨#[43]⟩, .string ⟨#[45]⟩, .string ⟨#[42]⟩, .string ⟨#[47]⟩, .string ⟨#[94]⟩, .string ⟨#[38]⟩, .string ⟨#[37]⟩, .string ⟨#[40]⟩, .string ⟨#[41]⟩, .string ⟨#[44]⟩, .string ⟨#[58]⟩]
theorem mkC_eq : mkC = (marksL.map (fun m => Value.string (bs m))).toArray := rfl
theorem mk_cell {W : World} {B : Nat} (h : Row W B 9 mkC) {k : Nat} (hk : k < 17) : ∃ m : List UInt8, marksL[k]? = some m ∧ 1 ≤ m.length ∧ m.length ≤ 2 ∧ W.cell? ⟨B, k, none⟩ = some (.string (bs m)) := by
  have hl : k < marksL.length := hk
  refine ⟨marksL[k], List.getElem?_eq_getElem hl, marks_pos _ (List.getElem_mem hl), ?_, ?_⟩
  · have : ∀ m ∈ marksL, m.length ≤ 2 := by decide
    exact this _ (List.getElem_mem hl)
  · refine h.cell ?_
    rw [mkC_eq]
    simp [List.getElem?_eq_getElem hl]
theorem pre_cut (l m : List UInt8) (i : Nat) : Lib.hasPrefix (l.drop i) m = decide (cutL l i (i + m.length) = m) := by
  rw [cut_take]
  unfold Lib.hasPrefix
  by_cases hp : m.isPrefixOf (l.drop i) = true
  · rw [hp]
    obtain ⟨r, hr⟩ := List.isPrefixOf_iff_prefix.1 hp
    rw [← hr]; simp
  · rw [Bool.not_eq_true] at hp
    rw [hp, decide_eq_false]
    intro e
    have h3 : m ++ (l.drop i).drop m.length = l.drop i := by
      conv => lhs; lhs; rw [← e]
      exact List.take_append_drop _ _
    have : m.isPrefixOf (l.drop i) = true := List.isPrefixOf_iff_prefix.2 ⟨_, h3⟩
    rw [hp] at this; cases this
theorem pre_short {l m : List UInt8} {i : Nat} (h : ¬ i + m.length ≤ l.length) (hi : i ≤ l.length) : Lib.hasPrefix (l.drop i) m = false := by
  cases hp : Lib.hasPrefix (l.drop i) m
  · rfl
  · have := pre_len hp
    simp only [List.length_drop] at this
    omega
theorem find_hit {l : List UInt8} {k : Nat} {m : List UInt8} (h0 : ∀ j, j < k → ∀ x, marksL[j]? = some x → Lib.hasPrefix l x = false) (hm : marksL[k]? = some m) (hp : Lib.hasPrefix l m = true) : markR l = some m := by
  unfold markR
  obtain ⟨hk, e⟩ := List.getElem?_eq_some_iff.1 hm
  rw [List.find?_eq_some_iff_getElem]
  refine ⟨hp, k, hk, e, fun j hj => ?_⟩
  rw [h0 j hj _ (List.getElem?_eq_getElem (by omega))]; rfl
theorem find_miss {l : List UInt8} (h0 : ∀ j, j < 17 → ∀ x, marksL[j]? = some x → Lib.hasPrefix l x = false) : markR l = none := by
  unfold markR
  rw [List.find?_eq_none]
  intro x hx
  obtain ⟨j, hj, rfl⟩ := List.mem_iff_getElem.1 hx
  rw [h0 j hj _ (List.getElem?_eq_getElem hj)]; simp
set_option maxRecDepth 100000 in
set_option maxHeartbeats 4000000 in
theorem mk_any (l : List UInt8) (i : Nat) (hi : i < l.length) (hl : l.length ≤ 1000000) (w : World) :
    Calls Tryz.prog 45 #[.string (bs l), .int .i64 (i : Int)] w fun e w' => OneP i (match markR (l.drop i) with | some m => ((⟨5, 0, m, 0, 0, Rf.zero⟩ : Tk), m.length, (0 : Int)) | none => (Tk.zero, 0, 40)) e ∧ Below w.heap.size w w' := by
  have HS : Hid ((bs l).size = l.length) := bs_size l
  have hsz : (bs l).size ≤ 1000000 := by rw [bs_size]; exact hl
  have hi2 : i < (bs l).size := by rw [bs_size]; exact hi
  obtain ⟨RES, hres⟩ : ∃ x, (match markR (l.drop i) with | some m => ((⟨5, 0, m, 0, 0, Rf.zero⟩ : Tk), m.length, (0 : Int)) | none => (Tk.zero, 0, 40)) = x := ⟨_, rfl⟩
  rw [hres]
  have HRES : Hid ((match markR (l.drop i) with | some m => ((⟨5, 0, m, 0, 0, Rf.zero⟩ : Tk), m.length, (0 : Int)) | none => (Tk.zero, 0, 40)) = RES) := hres
  clear hres
  obtain ⟨W1, hW1⟩ : ∃ W1, (w.alloc (.cells z10 35)).alloc (.cells mkC 9) = W1 := ⟨_, rfl⟩
  have hR0 : Row W1 w.heap.size 35 z10 := by rw [← hW1]; exact (Row.new w 35 z10).alloc _
  have hR1 : Row W1 (w.heap.size + 1) 9 mkC := by
    rw [← hW1]; have := Row.new (w.alloc (.cells z10 35)) 9 mkC
    rw [World.size_alloc] at this; exact this
  have hB1 : Below w.heap.size w W1 := by rw [← hW1]; exact below_allocS ((Below.refl _ w).alloc (Nat.le_refl _) _) _
  have HR0 : Hid (Row W1 w.heap.size 35 z10 ∧ Row W1 (w.heap.size + 1) 9 mkC ∧ Below w.heap.size w W1) := ⟨hR0, hR1, hB1⟩
  unfold z10 mkC at hW1
  clear hR0 hR1 hB1 hi hl
  go_enter Tryz.func45, Tryz.ntmps45
  go_wp2_with fail
  go_loopw [8, 9] (fun v8 v9 wr => ∃ k : Nat, k ≤ 17 ∧ v8 = .int .i64 (k : Int) ∧ Hid (∀ j, j < k → ∀ x, marksL[j]? = some x → Lib.hasPrefix (l.drop i) x = false) ∧ Hid (Row wr w.heap.size 35 z10 ∧ Row wr (w.heap.size + 1) 9 mkC ∧ Below w.heap.size w wr)) (fun v8 _ _ => 17 - (intOf v8).toNat)
  case atStart => exact ⟨0, by omega, rfl, (fun j hj => absurd hj (Nat.not_lt_zero _)), (by have h : Row _ w.heap.size 35 z10 ∧ Row _ (w.heap.size + 1) 9 mkC ∧ Below w.heap.size w _ := HR0.out; rw [← hW1] at h; exact h)⟩
  case round =>
    clear hW1 HR0
    obtain ⟨k, hk, rfl, HM, HR0⟩ := hrel
    by_cases hlt : k < 17
    · obtain ⟨m, hm, hm1, hm2, hcell⟩ := mk_cell HR0.out.2.1 hlt
      have HMM : Hid (marksL[k]? = some m) := hm
      have HMS : Hid ((bs m).size = m.length) := bs_size m
      have hms : (bs m).size ≤ 2 := by rw [bs_size]; exact hm2
      have hfz := HR0.out.2.1.frozen
      have hlz := HR0.out.2.1.lt
      have HDN : Hid (∀ q, Row (wr.drewN q) w.heap.size 35 z10 ∧ Row (wr.drewN q) (w.heap.size + 1) 9 mkC ∧ Below w.heap.size w (wr.drewN q)) := fun q => ⟨HR0.out.1, HR0.out.2.1, below_drewN HR0.out.2.2 q⟩
      obtain ⟨n, hn⟩ : ∃ n : Nat, (i : Int) + ((bs m).size : Int) = (n : Int) := ⟨i + (bs m).size, by omega⟩
      clear hm hm1 hm2
      by_cases hle : n ≤ (bs l).size
      · have t1 : (i : Int) ≤ (n : Int) := by omega
        have t2 : (n : Int) ≤ ((bs l).size : Int) := by omega
        have hd : decide ((n : Int) ≤ ((bs l).size : Int)) = true := decide_eq_true t2
        have hV : (bs l).extract i n = bs (cutL l i n) := bs_cut l i n
        have HP : Hid (Lib.hasPrefix (l.drop i) m = decide (cutL l i n = m)) := by
          have hin : i + m.length = n := by have := HMS.out; omega
          show _ = _
          rw [pre_cut l m i, hin]
        by_cases hx : cutL l i n = m
        · rw [hx] at hV
          have heq : ((bs m).toList == (bs m).toList) = true := by simp
          have HF : Hid (markR (l.drop i) = some m) := find_hit HM.out HMM.out (by rw [HP.out, decide_eq_true hx])
          have HRE : Hid (RES = (⟨5, 0, m, 0, 0, Rf.zero⟩, m.length, 0)) := by show _ = _; rw [← HRES.out, HF.out]
          clear HP hx HM HF
          have HQ : Hid (n = i + m.length) := by have := HMS.out; show _ = _; omega
          have HFIN : ∀ q, Hid (Row ((((((((((((wr.drewN q)).setCell ⟨w.heap.size, 0, none⟩ (.int .i64 5)).setCell ⟨w.heap.size, 1, none⟩ (.int .i64 (i : Int))).setCell ⟨w.heap.size, 2, none⟩ (.string (bs m))).setCell ⟨w.heap.size, 3, none⟩ (.int .i64 0)).setCell ⟨w.heap.size, 4, none⟩ (.int .i64 0)).setCell ⟨w.heap.size, 5, none⟩ (.string .empty)).setCell ⟨w.heap.size, 6, none⟩ (.int .i64 0)).setCell ⟨w.heap.size, 7, none⟩ (.int .i64 0)).setCell ⟨w.heap.size, 8, none⟩ (.bool false)).setCell ⟨w.heap.size, 9, none⟩ (.bool false)) w.heap.size 35 #[.int .i64 5, .int .i64 (i : Int), .string (bs m), .int .i64 0, .int .i64 0, .string .empty, .int .i64 0, .int .i64 0, .bool false, .bool false] ∧ Below w.heap.size w ((((((((((((wr.drewN q)).setCell ⟨w.heap.size, 0, none⟩ (.int .i64 5)).setCell ⟨w.heap.size, 1, none⟩ (.int .i64 (i : Int))).setCell ⟨w.heap.size, 2, none⟩ (.string (bs m))).setCell ⟨w.heap.size, 3, none⟩ (.int .i64 0)).setCell ⟨w.heap.size, 4, none⟩ (.int .i64 0)).setCell ⟨w.heap.size, 5, none⟩ (.string .empty)).setCell ⟨w.heap.size, 6, none⟩ (.int .i64 0)).setCell ⟨w.heap.size, 7, none⟩ (.int .i64 0)).setCell ⟨w.heap.size, 8, none⟩ (.bool false)).setCell ⟨w.heap.size, 9, none⟩ (.bool false))) := fun q => ⟨Row.set10 (HDN.out q).1 _ _ _ _ _ _ _ _ _ _, below_set10 (HDN.out q).2.2 (Nat.le_refl _) _ _ _ _ _ _ _ _ _ _⟩
          have hZ := HR0.out.1
          unfold z10 at hZ
          obtain ⟨c0, c1, c2, c3, c4, c5, c6, c7, c8, c9⟩ := hZ.ten
          have fZ := hZ.frozen
          have lZ := hZ.lt
          clear hZ
          go_upto_region 6 with fail
          go_quiet (fail)
          go_wp2
          exact bodyPost_ret (ret_three_b (u := 5) (u2 := 6) rfl (g := w.heap.size) rfl rfl rfl (load35 (HFIN _).out.1 rfl)) rfl ⟨by rw [HRE.out]; exact ⟨⟨5, (i : Int), m, 0, 0, Rf.zero⟩, n, rfl, fun _ => ⟨rfl, HQ.out⟩⟩, (HFIN _).out.2⟩
        · have heq : ((bs (cutL l i n)).toList == (bs m).toList) = false := by rw [bs_eq]; exact decide_eq_false hx
          have HN : Hid (∀ j, j < k + 1 → ∀ x, marksL[j]? = some x → Lib.hasPrefix (l.drop i) x = false) := by
            intro j hj x hx2
            by_cases e : j = k
            · subst e
              rw [HMM.out] at hx2; cases hx2
              rw [HP.out]; exact decide_eq_false hx
            · exact HM.out j (by omega) x hx2
          generalize cutL l i n = V at *
          clear HP hx HM
          go_upto_region 6 with fail
          go_quiet (fail)
          go_wp2
          go_roundw
          case rel => exact ⟨k + 1, by omega, by go_num, HN, HDN.out _⟩
          case measure => simp [intOf]; omega
      · have hd : decide ((n : Int) ≤ ((bs l).size : Int)) = false := decide_eq_false (by omega)
        have hd2 : ¬ ((n : Int) ≤ ((bs l).size : Int)) := by omega
        have HN : Hid (∀ j, j < k + 1 → ∀ x, marksL[j]? = some x → Lib.hasPrefix (l.drop i) x = false) := by
          intro j hj x hx2
          by_cases e : j = k
          · subst e
            rw [HMM.out] at hx2; cases hx2
            exact pre_short (by have := HMS.out; have := HS.out; omega) (by have := HS.out; omega)
          · exact HM.out j (by omega) x hx2
        clear HM
        go_upto_region 6 with fail
        go_quiet (fail)
        go_wp2
        go_roundw
        case rel => exact ⟨k + 1, by omega, by go_num, HN, HDN.out _⟩
        case measure => simp [intOf]; omega
    · obtain rfl : k = 17 := by omega
      have HF : Hid (markR (l.drop i) = none) := find_miss HM.out
      have HRE : Hid (RES = (Tk.zero, 0, 40)) := by show _ = _; rw [← HRES.out, HF.out]
      have hZ := HR0.out.1
      have hB := HR0.out.2.2
      unfold z10 at hZ
      obtain ⟨c0, c1, c2, c3, c4, c5, c6, c7, c8, c9⟩ := hZ.ten
      have fZ := hZ.frozen
      have lZ := hZ.lt
      have hE := Row.set10 hZ (.int .i64 0) (.int .i64 0) (.string .empty) (.int .i64 0) (.int .i64 0) (.string .empty) (.int .i64 0) (.int .i64 0) (.bool false) (.bool false)
      have hF := below_set10 hB (B := w.heap.size) (Nat.le_refl _) (.int .i64 0) (.int .i64 0) (.string .empty) (.int .i64 0) (.int .i64 0) (.string .empty) (.int .i64 0) (.int .i64 0) (.bool false) (.bool false)
      clear hZ hB HM HF
      go_wp2
      exact bodyPost_ret (ret_three_b (u := 5) (u2 := 6) rfl (g := w.heap.size) rfl rfl rfl (load35 hE rfl)) rfl ⟨by rw [HRE.out]; exact ⟨Tk.zero, 0, rfl, fun h => by cases h⟩, hF⟩
end Go.Proofs.YtgihginfegckcaaGreatDoor
/- A range over a function that turns blocks of its own between rounds, while the body turns blocks of its own: neither meets the other's. No round leaves the loop. -/
namespace Go.Proofs.YtgihginfegckcaaGreatDoor
open Go.RowKit
variable {P : Program} {F : Fence} {n : Nat}

/-- All blocks lie as they lay, but for those of Z, and for what is no cells and lies at or beyond B. -/
structure Mild (B : Nat) (Z : Nat → Prop) (W W' : World) : Prop where
  os : W'.os = W.os
  tape : W'.tape = W.tape
  output : W'.output = W.output
  size : W.heap.size ≤ W'.heap.size
  block : ∀ k o, W.heap[k]? = some o → ¬ Z k → (o.isCells = true ∨ k < B) → W'.heap[k]? = some o
theorem Mild.of_kept {B : Nat} {Z : Nat → Prop} {W W' : World} (h : Kept (fun k => k < W.heap.size ∧ ¬ Z k) W W') : Mild B Z W W' :=
  ⟨h.os, h.tape, h.output, h.size, fun k _ hk hq _ => (h.block k ⟨(Array.getElem?_eq_some_iff.1 hk).1, hq⟩).trans hk⟩
theorem Mild.alloc {B : Nat} {Z : Nat → Prop} (W : World) (o : Obj) : Mild B Z W (W.alloc o) := .of_kept ((Kept.refl _ W).alloc (fun _ h => h.1) o)
theorem Mild.trans {B : Nat} {Z : Nat → Prop} {X Y W : World} (h : Mild B Z X Y) (k : Mild B Z Y W) : Mild B Z X W :=
  ⟨k.os.trans h.os, k.tape.trans h.tape, k.output.trans h.output, Nat.le_trans h.size k.size, fun i o hi hq hor => k.block i o (h.block i o hi hq hor) hq hor⟩
theorem Mild.kept {B : Nat} {Z : Nat → Prop} {W W' : World} {T : Nat → Prop} (h : Mild B Z W W') (hT : ∀ k, T k → k < B ∧ ¬ Z k ∧ k < W.heap.size) : Kept T W W' :=
  ⟨h.os, h.tape, h.output, h.size, fun k hk => by
    obtain ⟨h1, h2, h3⟩ := hT k hk
    have hs : W.heap[k]? = some W.heap[k] := Array.getElem?_eq_getElem h3
    rw [hs]
    exact h.block k _ hs h2 (.inr h1)⟩
theorem Mild.row {B : Nat} {Z : Nat → Prop} {W W' : World} {K : Nat} {t : TypeId} {cs : Array Value} (h : Mild B Z W W') (hR : Row W K t cs) (hn : ¬ Z K) : Row W' K t cs := h.block K _ hR hn (.inl rfl)

end Go.Proofs.YtgihginfegckcaaGreatDoor
/- A column's letters, the last one first. -/
namespace Go.Proofs.YtgihginfegckcaaGreatDoor
open Go.RowKit Go.Shelf

attribute [local go_sem] Oper.semAt_some

/-- The letters of a column, the last one first. -/
def backL (n : Nat) : List Nat := if h : n = 0 then [] else (65 + (n - 1) % 26) :: backL ((n - 1) / 26)
termination_by n
decreasing_by omega
end Go.Proofs.YtgihginfegckcaaGreatDoor
/- Letters. -/
namespace Go.Proofs.YtgihginfegckcaaGreatDoor
open Go.RowKit Go.Shelf

attribute [local go_sem] Oper.semAt_some

/-- A column's letters. -/
def lettersL (n : Nat) : List UInt8 := (backL n).reverse.map UInt8.ofNat
def lettersS (n : Int) : List UInt8 := if colB n then lettersL n.toNat else []
end Go.Proofs.YtgihginfegckcaaGreatDoor
/- Pure: a number's digits as they are written, and what reading them makes. -/
namespace Go.Proofs.YtgihginfegckcaaGreatDoor

/-- The number that a row of digits is. -/
def numD (l : List UInt8) : Nat := l.foldl (fun n b => n * 10 + (b.toNat - 48)) 0
theorem numD_fold (l : List UInt8) (n : Nat) : l.foldl (fun n b => n * 10 + (b.toNat - 48)) n = n * 10 ^ l.length + numD l := by
  induction l generalizing n with
  | nil => simp [numD]
  | cons a r ih =>
    have h2 : numD (a :: r) = r.foldl (fun n b => n * 10 + (b.toNat - 48)) (0 * 10 + (a.toNat - 48)) := rfl
    rw [h2, ih, List.foldl_cons, ih, List.length_cons, Nat.pow_succ, Nat.add_mul, Nat.add_mul]
    rw [Nat.mul_assoc n, Nat.mul_comm 10]
    omega
theorem numD_cons (a : UInt8) (l : List UInt8) : numD (a :: l) = (a.toNat - 48) * 10 ^ l.length + numD l := by
  have h2 : numD (a :: l) = l.foldl (fun n b => n * 10 + (b.toNat - 48)) (0 * 10 + (a.toNat - 48)) := rfl
  rw [h2, numD_fold, Nat.zero_mul, Nat.zero_add]
def Dig (l : List UInt8) : Prop := ∀ b ∈ l, 48 ≤ b.toNat ∧ b.toNat ≤ 57
theorem Dig.append {a b : List UInt8} (h : Dig a) (h2 : Dig b) : Dig (a ++ b) := fun x hx => (List.mem_append.1 hx).elim (h x) (h2 x)
def lift (y : Wd) (p : Int) : Nat := y.n * 10 ^ (y.e - p).toNat
def Okd (y : Wd) (p : Int) : Prop := y = ⟨false, 0, 0⟩ ∨ (y.neg = false ∧ y.n ≠ 0 ∧ p ≤ y.e)
theorem Okd.low {y : Wd} {p q : Int} (h : Okd y p) (hq : q ≤ p) : Okd y q := h.imp id (fun ⟨a, b, c⟩ => ⟨a, b, by omega⟩)
theorem lift_low {y : Wd} {p : Int} (h : Okd y p) (k : Nat) : lift y (p - k) = lift y p * 10 ^ k := by
  unfold lift
  rcases h with rfl | ⟨_, _, h⟩
  · simp
  · rw [Nat.mul_assoc, ← Nat.pow_add]; congr 2; omega
def foldO (o : Option Wd) (xs : List (Int × Nat)) : Option Wd := xs.foldl (fun o x => o.bind (fun y => sumW y ⟨false, x.2, x.1⟩)) o
theorem sum_step (y : Wd) (p : Int) (d : Nat) (h : Okd y p) (hd : d ≠ 0) (hB : lift y p * 10 + d < M128) :
    ∃ z, sumW y ⟨false, d, p - 1⟩ = some z ∧ Okd z (p - 1) ∧ lift z (p - 1) = lift y p * 10 + d := by
  rcases h with rfl | ⟨h1, h2, h3⟩
  · refine ⟨⟨false, d, p - 1⟩, by simp [sumW], Or.inr ⟨rfl, hd, Int.le_refl _⟩, ?_⟩
    simp [lift]
  · have e1 : y.n * 10 ^ (y.e - (p - 1)).toNat = lift y p * 10 := by
      have := lift_low (Or.inr ⟨h1, h2, h3⟩ : Okd y p) 1
      simpa [lift] using this
    have hlow : lowW y (p - 1) = some ⟨y.neg, lift y p * 10, p - 1⟩ := by
      unfold lowW
      rw [if_neg (by omega), e1, if_pos (by omega)]
    have hlow2 : lowW ⟨false, d, p - 1⟩ (p - 1) = some ⟨false, d, p - 1⟩ := by
      unfold lowW; rw [if_pos (Int.le_refl _)]
    have hL : lift y p ≠ 0 := by
      unfold lift
      exact Nat.mul_ne_zero h2 (by simp [Nat.pow_eq_zero])
    refine ⟨⟨false, lift y p * 10 + d, p - 1⟩, ?_, Or.inr ⟨rfl, by simp only; omega, Int.le_refl _⟩, ?_⟩
    · unfold sumW
      rw [if_neg h2, if_neg hd]
      simp only [hlow, hlow2]
      unfold addW
      simp only [h1]
      simp [hB]
    · simp [lift]
end Go.Proofs.YtgihginfegckcaaGreatDoor
/- Digits that are summed up, one by one: what is told of them is what the whole number is told as (pure). -/
namespace Go.Proofs.YtgihginfegckcaaGreatDoor

theorem tellW_tell (neg : Bool) (n : Nat) (e : Int) : tellW neg n e = tell (if neg then -(n : Int) else (n : Int)) e := by
  unfold tell
  by_cases h : n = 0
  · subst h; cases neg <;> simp [tellW_zero]
  · cases neg
    · rw [if_neg (by simp), decide_eq_false (by omega)]; congr 1
    · rw [if_pos rfl, decide_eq_true (by omega)]; congr 1; omega
theorem sum_over (y : Wd) (p : Int) (d : Nat) (h : Okd y p) (hd : d ≠ 0) (hd9 : d < 10) (hB : ¬ lift y p * 10 + d < M128) : sumW y ⟨false, d, p - 1⟩ = none := by
  rcases h with rfl | ⟨h1, h2, h3⟩
  · exact absurd (by simp [lift]; exact Nat.lt_trans hd9 (by decide)) hB
  · have e1 : y.n * 10 ^ (y.e - (p - 1)).toNat = lift y p * 10 := by
      have := lift_low (Or.inr ⟨h1, h2, h3⟩ : Okd y p) 1
      simpa [lift] using this
    unfold sumW
    rw [if_neg h2, if_neg hd]
    by_cases h5 : lift y p * 10 < M128
    · have hlow : lowW y (p - 1) = some ⟨y.neg, lift y p * 10, p - 1⟩ := by
        unfold lowW
        rw [if_neg (by omega), e1, if_pos h5]
      have hlow2 : lowW ⟨false, d, p - 1⟩ (p - 1) = some ⟨false, d, p - 1⟩ := by
        unfold lowW; rw [if_pos (Int.le_refl _)]
      simp only [hlow, hlow2]
      unfold addW
      simp only [h1]
      simp [hB]
    · have hlow : lowW y (p - 1) = none := by
        unfold lowW
        rw [if_neg (by omega), e1, if_neg h5]
      simp only [hlow]
theorem natAbs_sign (neg : Bool) (n : Nat) : (if neg then -(n : Int) else (n : Int)).natAbs = n := by cases neg <;> simp
theorem foldO_none (xs : List (Int × Nat)) : foldO none xs = none := by
  induction xs with
  | nil => rfl
  | cons x xs ih => exact ih
/-- A number with too many digits ahead of one that is no nought can't be told. -/
theorem tell_over (neg : Bool) (X k R : Nat) (q : Int) (hX : M128 ≤ X) (h10 : X % 10 ≠ 0) (hR : R < 10 ^ k) : tellW neg (X * 10 ^ k + R) q = none := by
  have hp : 0 < 10 ^ k := Nat.pow_pos (by decide)
  rw [tellW_tell]
  cases h : tell (if neg then -((X * 10 ^ k + R : Nat) : Int) else ((X * 10 ^ k + R : Nat) : Int)) q with
  | none => rfl
  | some d =>
    exfalso
    obtain ⟨C, E⟩ := d
    obtain ⟨_, _, h3, h4, _, _, h7⟩ := tell_some h
    have hM : (9223372036854775808 : Nat) < M128 := by decide
    have hC : C.natAbs ≤ 9223372036854775808 := by omega
    have hXk : X ≤ X * 10 ^ k := Nat.le_mul_of_pos_right _ hp
    by_cases hE : E ≤ q
    · have e1 := congrArg Int.natAbs (h7 E hE (Int.le_refl _))
      unfold V at e1
      rw [Int.natAbs_mul, Int.natAbs_mul, Int.natAbs_pow, Int.natAbs_pow, show (E - E).toNat = 0 by omega] at e1
      have e2 : (if neg then -((X * 10 ^ k + R : Nat) : Int) else ((X * 10 ^ k + R : Nat) : Int)).natAbs = X * 10 ^ k + R := natAbs_sign neg _
      rw [e2] at e1
      have e3 : 1 ≤ (10 : Int).natAbs ^ (q - E).toNat := Nat.one_le_pow _ _ (by decide)
      have e4 := Nat.mul_le_mul_left (X * 10 ^ k + R) e3
      rw [Nat.pow_zero, Nat.mul_one] at e1
      omega
    · obtain ⟨t, ht⟩ : ∃ t : Nat, E - q = (t : Int) := ⟨(E - q).toNat, by omega⟩
      have e1 := congrArg Int.natAbs (h7 q (Int.le_refl _) (by omega))
      unfold V at e1
      rw [Int.natAbs_mul, Int.natAbs_mul, Int.natAbs_pow, Int.natAbs_pow, show (E - q).toNat = t by omega, show (q - q).toNat = 0 by omega] at e1
      have e2 : (if neg then -((X * 10 ^ k + R : Nat) : Int) else ((X * 10 ^ k + R : Nat) : Int)).natAbs = X * 10 ^ k + R := natAbs_sign neg _
      rw [e2, Nat.pow_zero, Nat.mul_one, show (10 : Int).natAbs = 10 from rfl] at e1
      by_cases htk : t ≤ k
      · have e5 : 10 ^ t ≤ 10 ^ k := Nat.pow_le_pow_right (by decide) htk
        have e6 : C.natAbs * 10 ^ t ≤ 9223372036854775808 * 10 ^ k := Nat.mul_le_mul hC e5
        have e7 : M128 * 10 ^ k ≤ X * 10 ^ k := Nat.mul_le_mul_right _ hX
        have e8 : 9223372036854775808 * 10 ^ k < M128 * 10 ^ k := Nat.mul_lt_mul_of_pos_right hM hp
        omega
      · obtain ⟨s, rfl⟩ : ∃ s, t = k + 1 + s := ⟨t - k - 1, by omega⟩
        have e5 : C.natAbs * 10 ^ (k + 1 + s) = (C.natAbs * 10 ^ s * 10) * 10 ^ k := by
          rw [show k + 1 + s = s + 1 + k by omega, Nat.pow_add, Nat.pow_succ, ← Nat.mul_assoc, ← Nat.mul_assoc]
        rw [e5] at e1
        have e6 : (X * 10 ^ k + R) / 10 ^ k = X := by
          rw [Nat.mul_comm, Nat.mul_add_div hp, Nat.div_eq_of_lt hR]; rfl
        rw [← e1, Nat.mul_div_cancel _ hp] at e6
        omega
theorem okd_tell (neg : Bool) {y : Wd} {p : Int} (h : Okd y p) : tellW neg y.n y.e = tellW neg (lift y p) p := by
  rcases h with rfl | ⟨_, _, h⟩
  · simp [lift, tellW_zero]
  · obtain ⟨k, hk⟩ : ∃ k : Nat, y.e - p = (k : Int) := ⟨(y.e - p).toNat, by omega⟩
    unfold lift
    rw [show (y.e - p).toNat = k by omega, show p = y.e - (k : Int) by omega, tellW_pow]
theorem numD_lt {l : List UInt8} (h : Dig l) : numD l < 10 ^ l.length := by
  induction l with
  | nil => simp [numD]
  | cons a r ih =>
    have ha := h a (by simp)
    have hr := ih (fun b hb => h b (by simp [hb]))
    rw [numD_cons, List.length_cons, Nat.pow_succ]
    have : (a.toNat - 48) * 10 ^ r.length ≤ 9 * 10 ^ r.length := Nat.mul_le_mul_right _ (by omega)
    omega
theorem fold_all (neg : Bool) (l : List UInt8) : ∀ (p : Int) (y : Wd), Dig l → Okd y p →
    (match foldO (some y) (dgsL l p) with | none => none | some z => tellW neg z.n z.e) = tellW neg (lift y p * 10 ^ l.length + numD l) (p - l.length) := by
  induction l with
  | nil =>
    intro p y _ h
    show tellW neg y.n y.e = _
    rw [okd_tell neg h]
    simp [numD]
  | cons a r ih =>
    intro p y hd h
    have ha := hd a (by simp)
    have hr : Dig r := fun b hb => hd b (by simp [hb])
    have e0 : lift y p * (10 ^ r.length * 10) = (lift y p * 10) * 10 ^ r.length := by rw [Nat.mul_assoc, Nat.mul_comm 10]
    have e1 : p - ((a :: r).length : Int) = (p - 1) - (r.length : Int) := by simp; omega
    have e2 : lift y p * 10 ^ (a :: r).length + numD (a :: r) = (lift y p * 10 + (a.toNat - 48)) * 10 ^ r.length + numD r := by
      rw [numD_cons, List.length_cons, Nat.pow_succ, e0, Nat.add_mul]; omega
    rw [e1, e2]
    by_cases h48 : a = 48
    · subst h48
      have hl := lift_low h 1
      rw [show dgsL (48 :: r) p = dgsL r (p - 1) by simp [dgsL], ih (p - 1) y hr (h.low (by omega)), show p - 1 = p - ((1 : Nat) : Int) by omega, hl]
      simp
    · have hne : a.toNat - 48 ≠ 0 := by
        intro hc
        exact h48 (UInt8.toNat_inj.1 (by rw [show (48 : UInt8).toNat = 48 from rfl]; omega))
      rw [show dgsL (a :: r) p = (p - 1, a.toNat - 48) :: dgsL r (p - 1) by simp [dgsL, h48]]
      show (match foldO ((some y).bind (fun y => sumW y ⟨false, a.toNat - 48, p - 1⟩)) (dgsL r (p - 1)) with | none => none | some z => tellW neg z.n z.e) = _
      rw [Option.bind_some]
      by_cases hB : lift y p * 10 + (a.toNat - 48) < M128
      · obtain ⟨y', y1, y2, y3⟩ := sum_step y p (a.toNat - 48) h hne hB
        rw [y1, ih (p - 1) y' hr y2, y3]
      · rw [sum_over y p _ h hne (by omega) hB, foldO_none]
        exact (tell_over neg _ _ _ _ (by omega) (by omega) (numD_lt hr)).symm
/-- The number of a text that is read. -/
def wrZ (x : Wr) : Int := if x.neg then -((numD (x.whole ++ x.part) : Nat) : Int) else ((numD (x.whole ++ x.part) : Nat) : Int)
def wrE (x : Wr) : Int := x.e - (x.part.length : Int)
theorem parsed_tell (l : List UInt8) : parsedD l = tell (wrZ (readR l).1) (wrE (readR l).1) := by
  have hd : Dig ((readR l).1.whole ++ (readR l).1.part) := (readR_ok l).2.2
  have := fold_all (readR l).1.neg _ ((readR l).1.e + ((readR l).1.whole.length : Int)) ⟨false, 0, 0⟩ hd (.inl rfl)
  unfold parsedD wrZ wrE
  rw [← tellW_tell]
  rw [show lift ⟨false, 0, 0⟩ ((readR l).1.e + ((readR l).1.whole.length : Int)) = 0 by simp [lift], Nat.zero_mul, Nat.zero_add] at this
  rw [show (readR l).1.e + ((readR l).1.whole.length : Int) - ((((readR l).1.whole ++ (readR l).1.part).length : Nat) : Int) = (readR l).1.e - ((readR l).1.part.length : Int) by rw [List.length_append]; omega] at this
  exact this
end Go.Proofs.YtgihginfegckcaaGreatDoor
/- Rows of the call's own, within a round of a range over a function. -/
namespace Go.Proofs.YtgihginfegckcaaGreatDoor
open Go.RowKit Go.Shelf

attribute [local go_sem] Oper.semAt_some

theorem row_ne {W : World} {base : Nat} {e t : TypeId} {size : Nat} {v : Value} {n : Nat} {xs : List Value} {B : Nat} {cs : Array Value} (h : W.ownsRow base e size v n xs) (hR : Row W B t cs) (hne : t ≠ e) : v.ownBlock ≠ some B := by
  rcases h.2 with ⟨rfl, _⟩ | ⟨g, cap, cur, rfl, hb, hgg, rest⟩
  · simp [Value.ownBlock]
  · intro he
    simp only [Value.ownBlock, Option.some.injEq] at he
    subst he
    rw [show W.heap[g]? = _ from hR] at hgg
    simp at hgg
    exact hne hgg.2
end Go.Proofs.YtgihginfegckcaaGreatDoor
/- The document's numbers: lists of digits, the lowest first; a digit of one; a number's digits. -/
namespace Go.Proofs.YtgihginfegckcaaGreatDoor
open Go.RowKit

/-- A Big, as a value. -/
def bv (neg : Bool) (sv : Value) : Value := .agg #[.bool neg, sv]
theorem Tryz.zero43 : (Tryz.prog.info? 94).map (fun i => (i.zero, i.size)) = some (some (.agg #[.bool false, .slice none 0 0]), 2) := by kernel_rfl
theorem load43 {W : World} {B : Nat} {cs : Array Value} (h : Row W B 94 cs) (hs : cs.size = 2) : (loadVar 94 ⟨B, 0, none⟩).run Tryz.prog W = .ok (.agg cs) W :=
  run_loadVar_row _ _ 94 94 cs (0, 0) _ h Tryz.underlying94 rfl (by rw [hs]; exact (zero_of_info Tryz.zero43).2)
set_option maxRecDepth 100000 in
set_option maxHeartbeats 400000 in
theorem at_any (neg : Bool) (a : Option Addr) (cap : Nat) (zs : List Int) (i : Int) (w : World) (hI : IntsIn (· < w.heap.size) w (.slice a zs.length cap) zs) :
    Calls Tryz.prog 148 #[bv neg (.slice a zs.length cap), .int .i64 i] w fun r w' => r = .returned (.int .i64 (if 0 ≤ i then zs[i.toNat]?.getD 0 else 0)) ∧ Below w.heap.size w w' := by
  unfold bv
  have hb0 : ∀ o, Below w.heap.size w (w.alloc o) := fun o => (Below.refl _ w).alloc (Nat.le_refl _) _
  by_cases h0 : 0 ≤ i
  · rw [if_pos h0]
    obtain ⟨k, rfl⟩ := Int.eq_ofNat_of_zero_le h0
    by_cases hk : k < zs.length
    · obtain ⟨b, off, rfl, hlt, hc⟩ := hI.at k hk
      have h1 : (k : Int) < (zs.length : Int) := by omega
      rw [Int.toNat_natCast]
      generalize zs[k]?.getD 0 = d at *
      go_enter Tryz.func148, Tryz.ntmps148
      go_wp2
      go_ret
      exact ⟨rfl, hb0 _⟩
    · have h1 : ¬ (k : Int) < (zs.length : Int) := by omega
      rw [Int.toNat_natCast, show zs[k]?.getD 0 = 0 by rw [List.getElem?_eq_none (by omega)]; rfl]
      go_enter Tryz.func148, Tryz.ntmps148
      go_wp2
      go_ret
      exact ⟨rfl, hb0 _⟩
  · rw [if_neg h0]
    go_enter Tryz.func148, Tryz.ntmps148
    go_wp2
    go_ret
    exact ⟨rfl, hb0 _⟩
/-- A number's digits. -/
def digs (n : Nat) : List Int := if _h : n = 0 then [] else ((n % 10 : Nat) : Int) :: digs (n / 10)
  termination_by n
  decreasing_by omega
theorem digs_zero : digs 0 = [] := by rw [digs]; rfl
theorem digs_pos (n : Nat) (h : n ≠ 0) : digs n = ((n % 10 : Nat) : Int) :: digs (n / 10) := by rw [digs]; exact dif_neg h
def dval : List Int → Int
  | [] => 0
  | d :: ds => d + 10 * dval ds
theorem dval_digs (n : Nat) : dval (digs n) = n := by
  induction n using Nat.strongRecOn with
  | ind n ih =>
    by_cases h : n = 0
    · subst h; rw [digs_zero]; rfl
    · rw [digs_pos n h]
      show _ + 10 * dval (digs (n / 10)) = _
      rw [ih (n / 10) (by omega)]
      omega
theorem digs_len (n k : Nat) (h : n < 10 ^ k) : (digs n).length ≤ k := by
  induction k generalizing n with
  | zero => rw [show n = 0 by simpa using h, digs_zero]; simp
  | succ k ih =>
    by_cases h0 : n = 0
    · subst h0; rw [digs_zero]; simp
    · rw [digs_pos n h0, List.length_cons]
      have := ih (n / 10) (by rw [Nat.pow_succ] at h; omega)
      omega
end Go.Proofs.YtgihginfegckcaaGreatDoor
/- utf: bytes as numbers and back. -/
namespace Go.Proofs.YtgihginfegckcaaGreatDoor
open Go.RowKit

theorem nats_str {l : List Nat} (h : Bys l) : natsOf (strOfNums (l.map Int.ofNat)) = l := by
  unfold natsOf strOfNums
  simp only [List.map_map]
  conv => rhs; rw [← List.map_id l]
  refine List.map_congr_left (fun x hx => ?_)
  have := h x hx
  simp only [Function.comp, id]
  rw [UInt8.toNat_ofNat']
  show x % 256 = x
  omega
theorem str_nats (s : ByteArray) : strOfNums ((natsOf s).map Int.ofNat) = s := by
  unfold natsOf strOfNums
  have e : (List.map (fun n : Int => UInt8.ofNat n.toNat) (List.map Int.ofNat (List.map UInt8.toNat s.data.toList))) = s.data.toList := by
    rw [List.map_map, List.map_map]
    conv => rhs; rw [← List.map_id s.data.toList]
    refine List.map_congr_left (fun x _ => ?_)
    simp
  rw [e]
end Go.Proofs.YtgihginfegckcaaGreatDoor
/- A region that draws its order, with operations that make memory: the free ones are taken first, of the rest every order is met. -/
namespace Go.Proofs.YtgihginfegckcaaGreatDoor

section
variable {P : Program} {ops : Array Oper} {Q : Exit → Act → World → Prop}

def wpL (P : Program) (ops : Array Oper) (Q : Exit → Act → World → Prop) (fuel : Nat) (listed : Array Bool) (a : Act) (w : World) : Prop := wpX P .any ops Q (fun _ => True) (fun _ => false) fuel listed a w

theorem wp_region_L {id : Nat} {a : Act} {w : World} (n : Nat) (hn : ops.size = n) (hm : P.follows .mixedOrders = true) (h : wpL P ops Q n (Array.replicate n false) a w.drew) : (Code.region id ops true).wp P Q a w := by
  subst hn
  exact wp_region_any hm (wpAny_of_X (S := fun _ => True) (E := fun _ => false) _ _ _ _ h)

theorem wpL_free (i : Nat) {o : Oper} {v : Value} {listed listed' : Array Bool} {fuel : Nat} {a : Act} {w : World} (ho : ops[i]? = some o) (hs : Region.noSelect ops = true)
    (hB : (Region.free .any ops listed i && (Region.ready .any ops listed).contains i) = true) (hL : listed.setIfInBounds i true = listed')
    (hQ : ∀ c a w, Q (.panic c) (a.put o.dst v) w → Q (.panic c) a w) (hw : Region.wanted o (yielded ops a.tmps) = true) (hy : ∀ w, (execOp a.eval o).run P w = .ok (.value v) w)
    (h : wpL P ops Q fuel listed' (a.put o.dst v) w) : wpL P ops Q (fuel + 1) listed a w := by
  subst hL
  simp only [Bool.and_eq_true] at hB
  exact wpX_firstW ho (Region.noSelect_spec hs) hQ rfl _ _ a w (Region.free_spec ho hB.1) (by simpa using hB.2) (.inl ⟨hw, fun w _ => hy w⟩) h

/-- An operation that its guard passes over. -/
theorem wpL_skip (i : Nat) {o : Oper} {listed listed' : Array Bool} {fuel : Nat} {a : Act} {w : World} (ho : ops[i]? = some o) (hs : Region.noSelect ops = true)
    (hB : (Region.free .any ops listed i && (Region.ready .any ops listed).contains i) = true) (hL : listed.setIfInBounds i true = listed')
    (hQ : ∀ c a w, Q (.panic c) (a.put o.dst undef) w → Q (.panic c) a w) (hw : Region.wanted o (yielded ops a.tmps) = false)
    (h : wpL P ops Q fuel listed' (a.put o.dst undef) w) : wpL P ops Q (fuel + 1) listed a w := by
  subst hL
  simp only [Bool.and_eq_true] at hB
  exact wpX_firstW ho (Region.noSelect_spec hs) hQ rfl _ _ a w (Region.free_spec ho hB.1) (by simpa using hB.2) (.inr ⟨hw, rfl⟩) h

/-- What follows an operation. -/
def behindO (P : Program) (ops : Array Oper) (Q : Exit → Act → World → Prop) (fuel : Nat) (listed : Array Bool) : Exit → Act → World → Prop
  | .normal, a, w => wpL P ops Q fuel listed a w
  | e, a, w => Q e a w
theorem Oper.wp_behindL {o : Oper} {a : Act} {w : World} {K : Act → World → Prop} {fuel : Nat} {listed : Array Bool} (h : o.wp P a w K (behindO P ops Q fuel listed)) : o.wp P a w K Q := by
  unfold Oper.wp at *
  generalize (execOp a.eval o).run P w = r at *
  cases r with
  | ok n w' => cases n <;> simp only [Oper.upon] at h ⊢ <;> exact h
  | halt x w' => cases x <;> simp only [Oper.upon] at h ⊢ <;> exact h
theorem wpOp_of_L {i : Nat} {o : Oper} {a : Act} {w : World} {fuel : Nat} {listed' : Array Bool} (ho : ops[i]? = some o) (h : wpList P ops (behindO P ops Q fuel listed') [o] a w) :
    wpOp P ops Q i (fun a' w' => ((fun _ => false) i = true → True) ∧ wpX P .any ops Q (fun _ => True) (fun _ => false) fuel listed' a' w') a w := by
  simp only [wpList] at h
  unfold wpOp
  simp only [ho]
  split
  · rename_i hw
    simp only [hw, if_true] at h
    refine h.imp (fun h2 => ?_) id
    exact Oper.wp_behindL (Oper.wp_mono (K := fun a' w' => behindO P ops Q fuel listed' .normal a' w') (fun a' w' h4 => ⟨fun _ => trivial, h4⟩) h2)
  · rename_i hw
    simp only [hw] at h
    exact ⟨fun _ => trivial, h⟩

theorem wpL_one (i : Nat) {o : Oper} {listed listed' : Array Bool} {fuel : Nat} {a : Act} {w : World} (ho : ops[i]? = some o) (hB : (Region.ready .any ops listed == [i]) = true) (hL : listed.setIfInBounds i true = listed')
    (h : wpList P ops (behindO P ops Q fuel listed') [o] a w) : wpL P ops Q (fuel + 1) listed a w := by
  subst hL
  have hr : Region.ready .any ops listed = [i] := by simpa using hB
  refine ⟨fun h0 => (by rw [hr] at h0; cases h0), fun k hk => ?_⟩
  rw [hr, List.mem_singleton] at hk
  subst hk
  exact wpOp_of_L ho h
theorem wpL_done {listed : Array Bool} {a : Act} {w : World} (hB : (Region.ready .any ops listed == []) = true) (h : Q .normal a w) : wpL P ops Q 0 listed a w := ⟨by simpa using hB, h⟩
end
end Go.Proofs.YtgihginfegckcaaGreatDoor
/- utf: the document's first. -/
namespace Go.Proofs.YtgihginfegckcaaGreatDoor
open Go.RowKit

theorem write_str (m : Int) (w : World) : Calls Tryz.prog 101 #[.int .i64 m] w fun e w' => ∃ B K, e = .returned (.slice (some ⟨B, 0, none⟩) K K) ∧ (convert 49 9 (.slice (some ⟨B, 0, none⟩) K K)).run Tryz.prog w' = .ok (.string (strOfNums ((wrN (chrZ m)).map Int.ofNat))) w' ∧ Below w.heap.size w w' := by
  refine (write_any m w).mono ?_
  rintro e w' ⟨rfl, rfl⟩
  refine ⟨w.heap.size, _, rfl, ?_, (Below.refl _ w).alloc (Nat.le_refl _) _⟩
  refine conv_bytes33 (fun _ => True) _ _ _ (.inr ⟨w.heap.size, 0, _, by rw [wrV_size, List.length_map], trivial, fun j hj => ?_⟩)
  have hv := wrV_list m
  have : (wrVu m)[j]? = some (.int .u8 (((wrN (chrZ m)).map Int.ofNat)[j]?.getD 0)) := by
    rw [← Array.getElem?_toList, hv, List.getElem?_map, List.getElem?_eq_getElem hj]
    rfl
  have := (Row.new w 5 (wrVu m)).cell this
  rwa [Nat.zero_add]

def baseS (sz : Nat) : Int := if sz = 2 then 192 else if sz = 3 then 224 else if sz = 4 then 240 else 0
def part (s : ByteArray) (sz : Nat) : Nat → Int
  | 0 => byteAt s 0 - baseS sz
  | i + 1 => part s sz i * 64 + byteAt s (i + 1) - 128
theorem byteAt_bd (s : ByteArray) (j : Nat) : 0 ≤ byteAt s j ∧ byteAt s j < 256 := by
  unfold byteAt
  split
  · rename_i h
    have := (s[j]'h).toNat_lt
    omega
  · omega
theorem part_bd (s : ByteArray) (sz : Nat) : ∀ i, i ≤ 4 → -100000000000 ≤ part s sz i ∧ part s sz i ≤ 100000000000 := by
  have h0 := byteAt_bd s 0
  have h1 := byteAt_bd s 1
  have h2 := byteAt_bd s 2
  have h3 := byteAt_bd s 3
  have h4 := byteAt_bd s 4
  have hb : 0 ≤ baseS sz ∧ baseS sz ≤ 240 := by unfold baseS; repeat' split <;> omega
  intro i hi
  have p0 : part s sz 0 = byteAt s 0 - baseS sz := rfl
  have p1 : part s sz 1 = part s sz 0 * 64 + byteAt s 1 - 128 := rfl
  have p2 : part s sz 2 = part s sz 1 * 64 + byteAt s 2 - 128 := rfl
  have p3 : part s sz 3 = part s sz 2 * 64 + byteAt s 3 - 128 := rfl
  have p4 : part s sz 4 = part s sz 3 * 64 + byteAt s 4 - 128 := rfl
  rcases (by omega : i = 0 ∨ i = 1 ∨ i = 2 ∨ i = 3 ∨ i = 4) with rfl | rfl | rfl | rfl | rfl
  all_goals omega
def hitS (s : ByteArray) (sz : Nat) : Prop := charZ (part s sz (sz - 1)) ∧ strOfNums ((wrN (chrZ (part s sz (sz - 1)))).map Int.ofNat) = s.extract 0 sz
def Found (s : ByteArray) (w : World) (e : Ending) (w' : World) : Prop :=
  Below w.heap.size w w' ∧ ((∃ sz, 1 ≤ sz ∧ sz ≤ 4 ∧ sz ≤ s.size ∧ (∀ j, 1 ≤ j → j < sz → ¬ hitS s j) ∧ hitS s sz ∧ e = .returned (.tuple #[.int .i64 (part s sz (sz - 1)), .int .i64 (sz : Nat), .bool true])) ∨
    ((∀ j, 1 ≤ j → j ≤ 4 → j ≤ s.size → ¬ hitS s j) ∧ e = .returned (.tuple #[.int .i64 65533, .int .i64 1, .bool false])))

theorem toList_ne {a b : ByteArray} (h : a ≠ b) : (a.toList == b.toList) = false := by
  rw [beq_eq_false_iff_ne]
  intro e
  rw [ByteArray.toList_eq, ByteArray.toList_eq] at e
  exact h (ByteArray.ext (Array.toList_inj.1 e))

set_option maxRecDepth 100000 in
set_option maxHeartbeats 8000000 in
theorem first_walk (s : ByteArray) (hs : 0 < s.size) (hl : s.size ≤ 140737488351232) (w : World) : Calls Tryz.prog 64 #[.string s] w (Found s w) := by
  have hb0 : byteAt s 0 = ((s[0]'hs).toNat : Int) := dif_pos hs
  go_enter Tryz.func64, Tryz.ntmps64
  go_wp2_with fail
  go_loopw [5] (fun v5 wr => ∃ sz : Nat, 1 ≤ sz ∧ sz ≤ 5 ∧ sz ≤ s.size + 1 ∧ v5 = .int .i64 (sz : Int) ∧ (∀ j, 1 ≤ j → j < sz → ¬ hitS s j) ∧ Below w.heap.size w wr) (fun v5 _ => 5 - (intOf v5).toNat)
  case atStart => exact ⟨1, by omega, by omega, by omega, rfl, fun j h1 h2 => by omega, Below.refl _ _⟩
  case round =>
    obtain ⟨sz, h1, h5, hsz, rfl, hno, hB⟩ := hrel
    by_cases h4 : sz ≤ 4 ∧ sz ≤ s.size
    · obtain ⟨h4, h4s⟩ := h4
      have t1 : (sz : Int) ≤ 4 := by omega
      have t2 : (sz : Int) ≤ s.size := by omega
      have hc256 : (s[0]'hs).toNat < 256 := (s[0]'hs).toNat_lt
      have HP0 : Hid (part s sz 0 = ((s[0]'hs).toNat : Int) - baseS sz) := by show _ = _; rw [part, hb0]
      rcases (by omega : sz = 2 ∨ sz = 3 ∨ sz = 4 ∨ sz = 1) with q | q | q | q
      · have t3 : (sz : Int) = 2 := by omega
        have e6 : Hid (part s sz 0 = ((s[0]'hs).toNat : Int) - 192) := by show _ = _; rw [HP0.out, q]; simp [baseS]
        clear q
        obtain ⟨wo, hwo⟩ : ∃ wo, wo = wr := ⟨_, rfl⟩
        subst hwo
        go_wp2_with fail
        go_loopw [6, 7] (fun v6 v7 wi => ∃ i : Nat, 1 ≤ i ∧ i ≤ sz ∧ v7 = .int .i64 (i : Int) ∧ v6 = .int .i64 (part s sz (i - 1)) ∧ wi = wo) (fun _ v7 _ => 4 - (intOf v7).toNat)
        case atStart => exact ⟨1, by omega, by omega, rfl, by rw [e6.out], rfl⟩
        case round =>
          obtain ⟨i, i1, i2, rfl, rfl, rfl⟩ := hrel
          clear e6
          by_cases hi : i < sz
          · have his : i < s.size := by omega
            have hbi : byteAt s i = ((s[i]'his).toNat : Int) := dif_pos his
            have hc2 : (s[i]'his).toNat < 256 := (s[i]'his).toNat_lt
            have HPi : Hid (part s sz i = part s sz (i - 1) * 64 + ((s[i]'his).toNat : Int) - 128) := by
              show _ = _
              obtain ⟨j, rfl⟩ : ∃ j, i = j + 1 := ⟨i - 1, by omega⟩
              rw [← hbi]
              rfl
            have hpb := part_bd s sz (i - 1) (by omega)
            obtain ⟨p, hp⟩ : ∃ p, part s sz (i - 1) = p := ⟨_, rfl⟩
            rw [hp] at hpb HPi ⊢
            clear hbi hp
            go_wp2
            exact ⟨⟨i + 1, by omega, by omega, by simp, by rw [Nat.add_sub_cancel, HPi.out], trivial⟩, by simp [intOf]; omega⟩
          · obtain rfl : i = sz := by omega
            have hpb := part_bd s i (i - 1) (by omega)
            obtain ⟨p, hp⟩ : ∃ p, part s i (i - 1) = p := ⟨_, rfl⟩
            rw [hp] at hpb ⊢
            have HP : Hid (part s i (i - 1) = p) := hp
            clear hp HP0 hb0 hc256
            by_cases pn : p < 0
            · have hh : ¬ hitS s i := fun h => by have := h.1.1; rw [HP.out] at this; omega
              have HNO : Hid (∀ j, 1 ≤ j → j < i + 1 → ¬ hitS s j) := fun j h1 h2 => by
                by_cases e : j = i
                · rw [e]; exact hh
                · exact hno j h1 (by omega)
              have HBB : Hid (Below w.heap.size w wr.drew) := hB.drew
              have t7 : ¬ (0 : Int) ≤ p := by omega
              clear hh hno hB HP
              go_wp2_with fail
              refine wp_region_L 15 rfl (by kernel_rfl) ?_
              refine wpL_one 0 rfl (by kernel_rfl) rfl ?_
              go_wp2
              show wpL _ _ _ _ _ _ _
              refine wpL_one 1 rfl (by kernel_rfl) rfl ?_
              go_wp2
              show wpL _ _ _ _ _ _ _
              refine wpL_one 2 rfl (by kernel_rfl) rfl ?_
              go_wp2
              show wpL _ _ _ _ _ _ _
              refine wpL_one 3 rfl (by kernel_rfl) rfl ?_
              go_wp2
              show wpL _ _ _ _ _ _ _
              refine wpL_one 4 rfl (by kernel_rfl) rfl ?_
              go_wp2
              show wpL _ _ _ _ _ _ _
              refine wpL_one 5 rfl (by kernel_rfl) rfl ?_
              go_wp2
              show wpL _ _ _ _ _ _ _
              refine wpL_one 6 rfl (by kernel_rfl) rfl ?_
              go_wp2
              show wpL _ _ _ _ _ _ _
              refine wpL_skip 7 rfl (by kernel_rfl) (by kernel_rfl) rfl (fun _ _ _ h => h) rfl ?_
              refine wpL_skip 10 rfl (by kernel_rfl) (by kernel_rfl) rfl (fun _ _ _ h => h) rfl ?_
              refine wpL_skip 11 rfl (by kernel_rfl) (by kernel_rfl) rfl (fun _ _ _ h => h) rfl ?_
              refine wpL_skip 12 rfl (by kernel_rfl) (by kernel_rfl) rfl (fun _ _ _ h => h) rfl ?_
              refine wpL_one 8 rfl (by kernel_rfl) rfl ?_
              go_wp2
              show wpL _ _ _ _ _ _ _
              refine wpL_one 9 rfl (by kernel_rfl) rfl ?_
              go_wp2
              show wpL _ _ _ _ _ _ _
              refine wpL_one 13 rfl (by kernel_rfl) rfl ?_
              go_wp2
              show wpL _ _ _ _ _ _ _
              refine wpL_one 14 rfl (by kernel_rfl) rfl ?_
              go_wp2
              show wpL _ _ _ _ _ _ _
              refine wpL_done (by kernel_rfl) ?_
              go_wp2
              exact ⟨⟨i + 1, by omega, by omega, by omega, congrArg (Value.int .i64) (by omega), HNO.out, HBB.out⟩, by simp [intOf]; omega⟩
            have t7 : (0 : Int) ≤ p := by omega
            by_cases hch : charZ p
            · by_cases heq : strOfNums ((wrN (chrZ p)).map Int.ofNat) = s.extract 0 i
              · have HC : Hid (Calls Tryz.prog 100 #[.int .i64 p] wr.drew fun e w' => e = .returned (.bool true) ∧ w' = wr.drew) := by
                  have := char_any p wr.drew
                  rwa [decide_eq_true hch] at this
                have HW : Hid _ := write_str p wr.drew
                obtain ⟨X, HX⟩ : ∃ X, Hid (strOfNums ((wrN (chrZ p)).map Int.ofNat) = X) := ⟨_, rfl⟩
                rw [HX.out] at HW
                have hxy : X = s.extract 0 2 := by rw [← HX.out, heq, show i = 2 by omega]
                have HH : Hid (hitS s i) := ⟨by rw [HP.out]; exact hch, by rw [HP.out]; exact heq⟩
                have HNO : Hid (∀ j, 1 ≤ j → j < i → ¬ hitS s j) := hno
                have HBB : Hid (Below w.heap.size w wr.drew) := hB.drew
                clear hno hB hch heq
                go_wp2_with fail
                refine wp_region_L 15 rfl (by kernel_rfl) ?_
                refine wpL_one 0 rfl (by kernel_rfl) rfl ?_
                go_wp2
                show wpL _ _ _ _ _ _ _
                refine wpL_one 1 rfl (by kernel_rfl) rfl ?_
                go_wp2
                show wpL _ _ _ _ _ _ _
                refine wpL_one 2 rfl (by kernel_rfl) rfl ?_
                go_wp2
                show wpL _ _ _ _ _ _ _
                refine wpL_one 3 rfl (by kernel_rfl) rfl ?_
                go_wp2
                show wpL _ _ _ _ _ _ _
                refine wpL_one 4 rfl (by kernel_rfl) rfl ?_
                go_wp2_with fail
                refine Calls.mono HC.out ?_
                rintro e w1 ⟨rfl, rfl⟩
                clear HC
                go_wp2
                show wpL _ _ _ _ _ _ _
                refine wpL_one 5 rfl (by kernel_rfl) rfl ?_
                go_wp2
                show wpL _ _ _ _ _ _ _
                refine wpL_one 6 rfl (by kernel_rfl) rfl ?_
                go_wp2
                show wpL _ _ _ _ _ _ _
                refine wpL_free 7 (v := ?_) rfl (by kernel_rfl) (by kernel_rfl) rfl (fun _ _ _ h => h) rfl (by intro wx; go_simp <;> rfl) ?_
                refine wpL_free 10 (v := ?_) rfl (by kernel_rfl) (by kernel_rfl) rfl (fun _ _ _ h => h) rfl (by intro wx; go_simp <;> rfl) ?_
                refine wpL_free 11 (v := ?_) rfl (by kernel_rfl) (by kernel_rfl) rfl (fun _ _ _ h => h) rfl (by intro wx; go_simp <;> rfl) ?_
                refine wpL_free 12 (v := ?_) rfl (by kernel_rfl) (by kernel_rfl) rfl (fun _ _ _ h => h) rfl (by intro wx; go_simp <;> rfl) ?_
                refine wpL_one 8 rfl (by kernel_rfl) rfl ?_
                go_wp2_with fail
                refine Calls.mono HW.out ?_
                rintro e w2 ⟨B, K, rfl, hcv, b2⟩
                clear HW
                have HB2 : Hid (Below w.heap.size w w2) := HBB.out.trans (b2.mono HBB.out.size)
                clear b2
                go_wp2
                show wpL _ _ _ _ _ _ _
                refine wpL_one 9 rfl (by kernel_rfl) rfl ?_
                go_wp2
                show wpL _ _ _ _ _ _ _
                refine wpL_one 13 rfl (by kernel_rfl) rfl ?_
                go_wp2
                show wpL _ _ _ _ _ _ _
                refine wpL_one 14 rfl (by kernel_rfl) rfl ?_
                go_wp2
                show wpL _ _ _ _ _ _ _
                refine wpL_done (by kernel_rfl) ?_
                go_wp2
                go_ret3
                refine ⟨HB2.out, .inl ⟨i, by omega, by omega, by omega, HNO.out, HH.out, ?_⟩⟩
                rw [HP.out]
                rw [t3]
                rfl
              · have HC : Hid (Calls Tryz.prog 100 #[.int .i64 p] wr.drew fun e w' => e = .returned (.bool true) ∧ w' = wr.drew) := by
                  have := char_any p wr.drew
                  rwa [decide_eq_true hch] at this
                have HW : Hid _ := write_str p wr.drew
                obtain ⟨X, HX⟩ : ∃ X, Hid (strOfNums ((wrN (chrZ p)).map Int.ofNat) = X) := ⟨_, rfl⟩
                rw [HX.out] at HW
                have hxy : (X.toList == (s.extract 0 2).toList) = false := toList_ne (by rw [← HX.out, ← show i = 2 by omega]; exact heq)
                have hh : ¬ hitS s i := fun h => heq (by have := h.2; rwa [HP.out] at this)
                have HNO : Hid (∀ j, 1 ≤ j → j < i + 1 → ¬ hitS s j) := fun j h1 h2 => by
                  by_cases e : j = i
                  · rw [e]; exact hh
                  · exact hno j h1 (by omega)
                clear hh
                have HBB : Hid (Below w.heap.size w wr.drew) := hB.drew
                clear hno hB hch heq
                go_wp2_with fail
                refine wp_region_L 15 rfl (by kernel_rfl) ?_
                refine wpL_one 0 rfl (by kernel_rfl) rfl ?_
                go_wp2
                show wpL _ _ _ _ _ _ _
                refine wpL_one 1 rfl (by kernel_rfl) rfl ?_
                go_wp2
                show wpL _ _ _ _ _ _ _
                refine wpL_one 2 rfl (by kernel_rfl) rfl ?_
                go_wp2
                show wpL _ _ _ _ _ _ _
                refine wpL_one 3 rfl (by kernel_rfl) rfl ?_
                go_wp2
                show wpL _ _ _ _ _ _ _
                refine wpL_one 4 rfl (by kernel_rfl) rfl ?_
                go_wp2_with fail
                refine Calls.mono HC.out ?_
                rintro e w1 ⟨rfl, rfl⟩
                clear HC
                go_wp2
                show wpL _ _ _ _ _ _ _
                refine wpL_one 5 rfl (by kernel_rfl) rfl ?_
                go_wp2
                show wpL _ _ _ _ _ _ _
                refine wpL_one 6 rfl (by kernel_rfl) rfl ?_
                go_wp2
                show wpL _ _ _ _ _ _ _
                refine wpL_free 7 (v := ?_) rfl (by kernel_rfl) (by kernel_rfl) rfl (fun _ _ _ h => h) rfl (by intro wx; go_simp <;> rfl) ?_
                refine wpL_free 10 (v := ?_) rfl (by kernel_rfl) (by kernel_rfl) rfl (fun _ _ _ h => h) rfl (by intro wx; go_simp <;> rfl) ?_
                refine wpL_free 11 (v := ?_) rfl (by kernel_rfl) (by kernel_rfl) rfl (fun _ _ _ h => h) rfl (by intro wx; go_simp <;> rfl) ?_
                refine wpL_free 12 (v := ?_) rfl (by kernel_rfl) (by kernel_rfl) rfl (fun _ _ _ h => h) rfl (by intro wx; go_simp <;> rfl) ?_
                refine wpL_one 8 rfl (by kernel_rfl) rfl ?_
                go_wp2_with fail
                refine Calls.mono HW.out ?_
                rintro e w2 ⟨B, K, rfl, hcv, b2⟩
                clear HW
                have HB2 : Hid (Below w.heap.size w w2) := HBB.out.trans (b2.mono HBB.out.size)
                clear b2
                go_wp2
                show wpL _ _ _ _ _ _ _
                refine wpL_one 9 rfl (by kernel_rfl) rfl ?_
                go_wp2
                show wpL _ _ _ _ _ _ _
                refine wpL_one 13 rfl (by kernel_rfl) rfl ?_
                go_wp2
                show wpL _ _ _ _ _ _ _
                refine wpL_one 14 rfl (by kernel_rfl) rfl ?_
                go_wp2
                show wpL _ _ _ _ _ _ _
                refine wpL_done (by kernel_rfl) ?_
                go_wp2
                exact ⟨⟨i + 1, by omega, by omega, by omega, congrArg (Value.int .i64) (by omega), HNO.out, HB2.out⟩, by simp [intOf]; omega⟩
            · have hh : ¬ hitS s i := fun h => hch (by have := h.1; rwa [HP.out] at this)
              have HNO : Hid (∀ j, 1 ≤ j → j < i + 1 → ¬ hitS s j) := fun j h1 h2 => by
                by_cases e : j = i
                · rw [e]; exact hh
                · exact hno j h1 (by omega)
              have HBB : Hid (Below w.heap.size w wr.drew) := hB.drew
              have HC : Hid (Calls Tryz.prog 100 #[.int .i64 p] wr.drew fun e w' => e = .returned (.bool false) ∧ w' = wr.drew) := by
                have := char_any p wr.drew
                rwa [decide_eq_false hch] at this
              clear hh hno hB HP hch
              go_wp2_with fail
              refine wp_region_L 15 rfl (by kernel_rfl) ?_
              refine wpL_one 0 rfl (by kernel_rfl) rfl ?_
              go_wp2
              show wpL _ _ _ _ _ _ _
              refine wpL_one 1 rfl (by kernel_rfl) rfl ?_
              go_wp2
              show wpL _ _ _ _ _ _ _
              refine wpL_one 2 rfl (by kernel_rfl) rfl ?_
              go_wp2
              show wpL _ _ _ _ _ _ _
              refine wpL_one 3 rfl (by kernel_rfl) rfl ?_
              go_wp2
              show wpL _ _ _ _ _ _ _
              refine wpL_one 4 rfl (by kernel_rfl) rfl ?_
              go_wp2_with fail
              refine Calls.mono HC.out ?_
              rintro e w1 ⟨rfl, rfl⟩
              clear HC
              go_wp2
              show wpL _ _ _ _ _ _ _
              refine wpL_one 5 rfl (by kernel_rfl) rfl ?_
              go_wp2
              show wpL _ _ _ _ _ _ _
              refine wpL_one 6 rfl (by kernel_rfl) rfl ?_
              go_wp2
              show wpL _ _ _ _ _ _ _
              refine wpL_skip 7 rfl (by kernel_rfl) (by kernel_rfl) rfl (fun _ _ _ h => h) rfl ?_
              refine wpL_skip 10 rfl (by kernel_rfl) (by kernel_rfl) rfl (fun _ _ _ h => h) rfl ?_
              refine wpL_skip 11 rfl (by kernel_rfl) (by kernel_rfl) rfl (fun _ _ _ h => h) rfl ?_
              refine wpL_skip 12 rfl (by kernel_rfl) (by kernel_rfl) rfl (fun _ _ _ h => h) rfl ?_
              refine wpL_one 8 rfl (by kernel_rfl) rfl ?_
              go_wp2
              show wpL _ _ _ _ _ _ _
              refine wpL_one 9 rfl (by kernel_rfl) rfl ?_
              go_wp2
              show wpL _ _ _ _ _ _ _
              refine wpL_one 13 rfl (by kernel_rfl) rfl ?_
              go_wp2
              show wpL _ _ _ _ _ _ _
              refine wpL_one 14 rfl (by kernel_rfl) rfl ?_
              go_wp2
              show wpL _ _ _ _ _ _ _
              refine wpL_done (by kernel_rfl) ?_
              go_wp2
              exact ⟨⟨i + 1, by omega, by omega, by omega, congrArg (Value.int .i64) (by omega), HNO.out, HBB.out⟩, by simp [intOf]; omega⟩
      · have t3 : (sz : Int) = 3 := by omega
        have e6 : Hid (part s sz 0 = ((s[0]'hs).toNat : Int) - 224) := by show _ = _; rw [HP0.out, q]; simp [baseS]
        clear q
        obtain ⟨wo, hwo⟩ : ∃ wo, wo = wr := ⟨_, rfl⟩
        subst hwo
        go_wp2_with fail
        go_loopw [6, 7] (fun v6 v7 wi => ∃ i : Nat, 1 ≤ i ∧ i ≤ sz ∧ v7 = .int .i64 (i : Int) ∧ v6 = .int .i64 (part s sz (i - 1)) ∧ wi = wo) (fun _ v7 _ => 4 - (intOf v7).toNat)
        case atStart => exact ⟨1, by omega, by omega, rfl, by rw [e6.out], rfl⟩
        case round =>
          obtain ⟨i, i1, i2, rfl, rfl, rfl⟩ := hrel
          clear e6
          by_cases hi : i < sz
          · have his : i < s.size := by omega
            have hbi : byteAt s i = ((s[i]'his).toNat : Int) := dif_pos his
            have hc2 : (s[i]'his).toNat < 256 := (s[i]'his).toNat_lt
            have HPi : Hid (part s sz i = part s sz (i - 1) * 64 + ((s[i]'his).toNat : Int) - 128) := by
              show _ = _
              obtain ⟨j, rfl⟩ : ∃ j, i = j + 1 := ⟨i - 1, by omega⟩
              rw [← hbi]
              rfl
            have hpb := part_bd s sz (i - 1) (by omega)
            obtain ⟨p, hp⟩ : ∃ p, part s sz (i - 1) = p := ⟨_, rfl⟩
            rw [hp] at hpb HPi ⊢
            clear hbi hp
            go_wp2
            exact ⟨⟨i + 1, by omega, by omega, by simp, by rw [Nat.add_sub_cancel, HPi.out], trivial⟩, by simp [intOf]; omega⟩
          · obtain rfl : i = sz := by omega
            have hpb := part_bd s i (i - 1) (by omega)
            obtain ⟨p, hp⟩ : ∃ p, part s i (i - 1) = p := ⟨_, rfl⟩
            rw [hp] at hpb ⊢
            have HP : Hid (part s i (i - 1) = p) := hp
            clear hp HP0 hb0 hc256
            by_cases pn : p < 0
            · have hh : ¬ hitS s i := fun h => by have := h.1.1; rw [HP.out] at this; omega
              have HNO : Hid (∀ j, 1 ≤ j → j < i + 1 → ¬ hitS s j) := fun j h1 h2 => by
                by_cases e : j = i
                · rw [e]; exact hh
                · exact hno j h1 (by omega)
              have HBB : Hid (Below w.heap.size w wr.drew) := hB.drew
              have t7 : ¬ (0 : Int) ≤ p := by omega
              clear hh hno hB HP
              go_wp2_with fail
              refine wp_region_L 15 rfl (by kernel_rfl) ?_
              refine wpL_one 0 rfl (by kernel_rfl) rfl ?_
              go_wp2
              show wpL _ _ _ _ _ _ _
              refine wpL_one 1 rfl (by kernel_rfl) rfl ?_
              go_wp2
              show wpL _ _ _ _ _ _ _
              refine wpL_one 2 rfl (by kernel_rfl) rfl ?_
              go_wp2
              show wpL _ _ _ _ _ _ _
              refine wpL_one 3 rfl (by kernel_rfl) rfl ?_
              go_wp2
              show wpL _ _ _ _ _ _ _
              refine wpL_one 4 rfl (by kernel_rfl) rfl ?_
              go_wp2
              show wpL _ _ _ _ _ _ _
              refine wpL_one 5 rfl (by kernel_rfl) rfl ?_
              go_wp2
              show wpL _ _ _ _ _ _ _
              refine wpL_one 6 rfl (by kernel_rfl) rfl ?_
              go_wp2
              show wpL _ _ _ _ _ _ _
              refine wpL_skip 7 rfl (by kernel_rfl) (by kernel_rfl) rfl (fun _ _ _ h => h) rfl ?_
              refine wpL_skip 10 rfl (by kernel_rfl) (by kernel_rfl) rfl (fun _ _ _ h => h) rfl ?_
              refine wpL_skip 11 rfl (by kernel_rfl) (by kernel_rfl) rfl (fun _ _ _ h => h) rfl ?_
              refine wpL_skip 12 rfl (by kernel_rfl) (by kernel_rfl) rfl (fun _ _ _ h => h) rfl ?_
              refine wpL_one 8 rfl (by kernel_rfl) rfl ?_
              go_wp2
              show wpL _ _ _ _ _ _ _
              refine wpL_one 9 rfl (by kernel_rfl) rfl ?_
              go_wp2
              show wpL _ _ _ _ _ _ _
              refine wpL_one 13 rfl (by kernel_rfl) rfl ?_
              go_wp2
              show wpL _ _ _ _ _ _ _
              refine wpL_one 14 rfl (by kernel_rfl) rfl ?_
              go_wp2
              show wpL _ _ _ _ _ _ _
              refine wpL_done (by kernel_rfl) ?_
              go_wp2
              exact ⟨⟨i + 1, by omega, by omega, by omega, congrArg (Value.int .i64) (by omega), HNO.out, HBB.out⟩, by simp [intOf]; omega⟩
            have t7 : (0 : Int) ≤ p := by omega
            by_cases hch : charZ p
            · by_cases heq : strOfNums ((wrN (chrZ p)).map Int.ofNat) = s.extract 0 i
              · have HC : Hid (Calls Tryz.prog 100 #[.int .i64 p] wr.drew fun e w' => e = .returned (.bool true) ∧ w' = wr.drew) := by
                  have := char_any p wr.drew
                  rwa [decide_eq_true hch] at this
                have HW : Hid _ := write_str p wr.drew
                obtain ⟨X, HX⟩ : ∃ X, Hid (strOfNums ((wrN (chrZ p)).map Int.ofNat) = X) := ⟨_, rfl⟩
                rw [HX.out] at HW
                have hxy : X = s.extract 0 3 := by rw [← HX.out, heq, show i = 3 by omega]
                have HH : Hid (hitS s i) := ⟨by rw [HP.out]; exact hch, by rw [HP.out]; exact heq⟩
                have HNO : Hid (∀ j, 1 ≤ j → j < i → ¬ hitS s j) := hno
                have HBB : Hid (Below w.heap.size w wr.drew) := hB.drew
                clear hno hB hch heq
                go_wp2_with fail
                refine wp_region_L 15 rfl (by kernel_rfl) ?_
                refine wpL_one 0 rfl (by kernel_rfl) rfl ?_
                go_wp2
                show wpL _ _ _ _ _ _ _
                refine wpL_one 1 rfl (by kernel_rfl) rfl ?_
                go_wp2
                show wpL _ _ _ _ _ _ _
                refine wpL_one 2 rfl (by kernel_rfl) rfl ?_
                go_wp2
                show wpL _ _ _ _ _ _ _
                refine wpL_one 3 rfl (by kernel_rfl) rfl ?_
                go_wp2
                show wpL _ _ _ _ _ _ _
                refine wpL_one 4 rfl (by kernel_rfl) rfl ?_
                go_wp2_with fail
                refine Calls.mono HC.out ?_
                rintro e w1 ⟨rfl, rfl⟩
                clear HC
                go_wp2
                show wpL _ _ _ _ _ _ _
                refine wpL_one 5 rfl (by kernel_rfl) rfl ?_
                go_wp2
                show wpL _ _ _ _ _ _ _
                refine wpL_one 6 rfl (by kernel_rfl) rfl ?_
                go_wp2
                show wpL _ _ _ _ _ _ _
                refine wpL_free 7 (v := ?_) rfl (by kernel_rfl) (by kernel_rfl) rfl (fun _ _ _ h => h) rfl (by intro wx; go_simp <;> rfl) ?_
                refine wpL_free 10 (v := ?_) rfl (by kernel_rfl) (by kernel_rfl) rfl (fun _ _ _ h => h) rfl (by intro wx; go_simp <;> rfl) ?_
                refine wpL_free 11 (v := ?_) rfl (by kernel_rfl) (by kernel_rfl) rfl (fun _ _ _ h => h) rfl (by intro wx; go_simp <;> rfl) ?_
                refine wpL_free 12 (v := ?_) rfl (by kernel_rfl) (by kernel_rfl) rfl (fun _ _ _ h => h) rfl (by intro wx; go_simp <;> rfl) ?_
                refine wpL_one 8 rfl (by kernel_rfl) rfl ?_
                go_wp2_with fail
                refine Calls.mono HW.out ?_
                rintro e w2 ⟨B, K, rfl, hcv, b2⟩
                clear HW
                have HB2 : Hid (Below w.heap.size w w2) := HBB.out.trans (b2.mono HBB.out.size)
                clear b2
                go_wp2
                show wpL _ _ _ _ _ _ _
                refine wpL_one 9 rfl (by kernel_rfl) rfl ?_
                go_wp2
                show wpL _ _ _ _ _ _ _
                refine wpL_one 13 rfl (by kernel_rfl) rfl ?_
                go_wp2
                show wpL _ _ _ _ _ _ _
                refine wpL_one 14 rfl (by kernel_rfl) rfl ?_
                go_wp2
                show wpL _ _ _ _ _ _ _
                refine wpL_done (by kernel_rfl) ?_
                go_wp2
                go_ret3
                refine ⟨HB2.out, .inl ⟨i, by omega, by omega, by omega, HNO.out, HH.out, ?_⟩⟩
                rw [HP.out]
                rw [t3]
                rfl
              · have HC : Hid (Calls Tryz.prog 100 #[.int .i64 p] wr.drew fun e w' => e = .returned (.bool true) ∧ w' = wr.drew) := by
                  have := char_any p wr.drew
                  rwa [decide_eq_true hch] at this
                have HW : Hid _ := write_str p wr.drew
                obtain ⟨X, HX⟩ : ∃ X, Hid (strOfNums ((wrN (chrZ p)).map Int.ofNat) = X) := ⟨_, rfl⟩
                rw [HX.out] at HW
                have hxy : (X.toList == (s.extract 0 3).toList) = false := toList_ne (by rw [← HX.out, ← show i = 3 by omega]; exact heq)
                have hh : ¬ hitS s i := fun h => heq (by have := h.2; rwa [HP.out] at this)
                have HNO : Hid (∀ j, 1 ≤ j → j < i + 1 → ¬ hitS s j) := fun j h1 h2 => by
                  by_cases e : j = i
                  · rw [e]; exact hh
                  · exact hno j h1 (by omega)
                clear hh
                have HBB : Hid (Below w.heap.size w wr.drew) := hB.drew
                clear hno hB hch heq
                go_wp2_with fail
                refine wp_region_L 15 rfl (by kernel_rfl) ?_
                refine wpL_one 0 rfl (by kernel_rfl) rfl ?_
                go_wp2
                show wpL _ _ _ _ _ _ _
                refine wpL_one 1 rfl (by kernel_rfl) rfl ?_
                go_wp2
                show wpL _ _ _ _ _ _ _
                refine wpL_one 2 rfl (by kernel_rfl) rfl ?_
                go_wp2
                show wpL _ _ _ _ _ _ _
                refine wpL_one 3 rfl (by kernel_rfl) rfl ?_
                go_wp2
                show wpL _ _ _ _ _ _ _
                refine wpL_one 4 rfl (by kernel_rfl) rfl ?_
                go_wp2_with fail
                refine Calls.mono HC.out ?_
                rintro e w1 ⟨rfl, rfl⟩
                clear HC
                go_wp2
                show wpL _ _ _ _ _ _ _
                refine wpL_one 5 rfl (by kernel_rfl) rfl ?_
                go_wp2
                show wpL _ _ _ _ _ _ _
                refine wpL_one 6 rfl (by kernel_rfl) rfl ?_
                go_wp2
                show wpL _ _ _ _ _ _ _
                refine wpL_free 7 (v := ?_) rfl (by kernel_rfl) (by kernel_rfl) rfl (fun _ _ _ h => h) rfl (by intro wx; go_simp <;> rfl) ?_
                refine wpL_free 10 (v := ?_) rfl (by kernel_rfl) (by kernel_rfl) rfl (fun _ _ _ h => h) rfl (by intro wx; go_simp <;> rfl) ?_
                refine wpL_free 11 (v := ?_) rfl (by kernel_rfl) (by kernel_rfl) rfl (fun _ _ _ h => h) rfl (by intro wx; go_simp <;> rfl) ?_
                refine wpL_free 12 (v := ?_) rfl (by kernel_rfl) (by kernel_rfl) rfl (fun _ _ _ h => h) rfl (by intro wx; go_simp <;> rfl) ?_
                refine wpL_one 8 rfl (by kernel_rfl) rfl ?_
                go_wp2_with fail
                refine Calls.mono HW.out ?_
                rintro e w2 ⟨B, K, rfl, hcv, b2⟩
                clear HW
                have HB2 : Hid (Below w.heap.size w w2) := HBB.out.trans (b2.mono HBB.out.size)
                clear b2
                go_wp2
                show wpL _ _ _ _ _ _ _
                refine wpL_one 9 rfl (by kernel_rfl) rfl ?_
                go_wp2
                show wpL _ _ _ _ _ _ _
                refine wpL_one 13 rfl (by kernel_rfl) rfl ?_
                go_wp2
                show wpL _ _ _ _ _ _ _
                refine wpL_one 14 rfl (by kernel_rfl) rfl ?_
                go_wp2
                show wpL _ _ _ _ _ _ _
                refine wpL_done (by kernel_rfl) ?_
                go_wp2
                exact ⟨⟨i + 1, by omega, by omega, by omega, congrArg (Value.int .i64) (by omega), HNO.out, HB2.out⟩, by simp [intOf]; omega⟩
            · have hh : ¬ hitS s i := fun h => hch (by have := h.1; rwa [HP.out] at this)
              have HNO : Hid (∀ j, 1 ≤ j → j < i + 1 → ¬ hitS s j) := fun j h1 h2 => by
                by_cases e : j = i
                · rw [e]; exact hh
                · exact hno j h1 (by omega)
              have HBB : Hid (Below w.heap.size w wr.drew) := hB.drew
              have HC : Hid (Calls Tryz.prog 100 #[.int .i64 p] wr.drew fun e w' => e = .returned (.bool false) ∧ w' = wr.drew) := by
                have := char_any p wr.drew
                rwa [decide_eq_false hch] at this
              clear hh hno hB HP hch
              go_wp2_with fail
              refine wp_region_L 15 rfl (by kernel_rfl) ?_
              refine wpL_one 0 rfl (by kernel_rfl) rfl ?_
              go_wp2
              show wpL _ _ _ _ _ _ _
              refine wpL_one 1 rfl (by kernel_rfl) rfl ?_
              go_wp2
              show wpL _ _ _ _ _ _ _
              refine wpL_one 2 rfl (by kernel_rfl) rfl ?_
              go_wp2
              show wpL _ _ _ _ _ _ _
              refine wpL_one 3 rfl (by kernel_rfl) rfl ?_
              go_wp2
              show wpL _ _ _ _ _ _ _
              refine wpL_one 4 rfl (by kernel_rfl) rfl ?_
              go_wp2_with fail
              refine Calls.mono HC.out ?_
              rintro e w1 ⟨rfl, rfl⟩
              clear HC
              go_wp2
              show wpL _ _ _ _ _ _ _
              refine wpL_one 5 rfl (by kernel_rfl) rfl ?_
              go_wp2
              show wpL _ _ _ _ _ _ _
              refine wpL_one 6 rfl (by kernel_rfl) rfl ?_
              go_wp2
              show wpL _ _ _ _ _ _ _
              refine wpL_skip 7 rfl (by kernel_rfl) (by kernel_rfl) rfl (fun _ _ _ h => h) rfl ?_
              refine wpL_skip 10 rfl (by kernel_rfl) (by kernel_rfl) rfl (fun _ _ _ h => h) rfl ?_
              refine wpL_skip 11 rfl (by kernel_rfl) (by kernel_rfl) rfl (fun _ _ _ h => h) rfl ?_
              refine wpL_skip 12 rfl (by kernel_rfl) (by kernel_rfl) rfl (fun _ _ _ h => h) rfl ?_
              refine wpL_one 8 rfl (by kernel_rfl) rfl ?_
              go_wp2
              show wpL _ _ _ _ _ _ _
              refine wpL_one 9 rfl (by kernel_rfl) rfl ?_
              go_wp2
              show wpL _ _ _ _ _ _ _
              refine wpL_one 13 rfl (by kernel_rfl) rfl ?_
              go_wp2
              show wpL _ _ _ _ _ _ _
              refine wpL_one 14 rfl (by kernel_rfl) rfl ?_
              go_wp2
              show wpL _ _ _ _ _ _ _
              refine wpL_done (by kernel_rfl) ?_
              go_wp2
              exact ⟨⟨i + 1, by omega, by omega, by omega, congrArg (Value.int .i64) (by omega), HNO.out, HBB.out⟩, by simp [intOf]; omega⟩
      · have t3 : (sz : Int) = 4 := by omega
        have e6 : Hid (part s sz 0 = ((s[0]'hs).toNat : Int) - 240) := by show _ = _; rw [HP0.out, q]; simp [baseS]
        clear q
        obtain ⟨wo, hwo⟩ : ∃ wo, wo = wr := ⟨_, rfl⟩
        subst hwo
        go_wp2_with fail
        go_loopw [6, 7] (fun v6 v7 wi => ∃ i : Nat, 1 ≤ i ∧ i ≤ sz ∧ v7 = .int .i64 (i : Int) ∧ v6 = .int .i64 (part s sz (i - 1)) ∧ wi = wo) (fun _ v7 _ => 4 - (intOf v7).toNat)
        case atStart => exact ⟨1, by omega, by omega, rfl, by rw [e6.out], rfl⟩
        case round =>
          obtain ⟨i, i1, i2, rfl, rfl, rfl⟩ := hrel
          clear e6
          by_cases hi : i < sz
          · have his : i < s.size := by omega
            have hbi : byteAt s i = ((s[i]'his).toNat : Int) := dif_pos his
            have hc2 : (s[i]'his).toNat < 256 := (s[i]'his).toNat_lt
            have HPi : Hid (part s sz i = part s sz (i - 1) * 64 + ((s[i]'his).toNat : Int) - 128) := by
              show _ = _
              obtain ⟨j, rfl⟩ : ∃ j, i = j + 1 := ⟨i - 1, by omega⟩
              rw [← hbi]
              rfl
            have hpb := part_bd s sz (i - 1) (by omega)
            obtain ⟨p, hp⟩ : ∃ p, part s sz (i - 1) = p := ⟨_, rfl⟩
            rw [hp] at hpb HPi ⊢
            clear hbi hp
            go_wp2
            exact ⟨⟨i + 1, by omega, by omega, by simp, by rw [Nat.add_sub_cancel, HPi.out], trivial⟩, by simp [intOf]; omega⟩
          · obtain rfl : i = sz := by omega
            have hpb := part_bd s i (i - 1) (by omega)
            obtain ⟨p, hp⟩ : ∃ p, part s i (i - 1) = p := ⟨_, rfl⟩
            rw [hp] at hpb ⊢
            have HP : Hid (part s i (i - 1) = p) := hp
            clear hp HP0 hb0 hc256
            by_cases pn : p < 0
            · have hh : ¬ hitS s i := fun h => by have := h.1.1; rw [HP.out] at this; omega
              have HNO : Hid (∀ j, 1 ≤ j → j < i + 1 → ¬ hitS s j) := fun j h1 h2 => by
                by_cases e : j = i
                · rw [e]; exact hh
                · exact hno j h1 (by omega)
              have HBB : Hid (Below w.heap.size w wr.drew) := hB.drew
              have t7 : ¬ (0 : Int) ≤ p := by omega
              clear hh hno hB HP
              go_wp2_with fail
              refine wp_region_L 15 rfl (by kernel_rfl) ?_
              refine wpL_one 0 rfl (by kernel_rfl) rfl ?_
              go_wp2
              show wpL _ _ _ _ _ _ _
              refine wpL_one 1 rfl (by kernel_rfl) rfl ?_
              go_wp2
              show wpL _ _ _ _ _ _ _
              refine wpL_one 2 rfl (by kernel_rfl) rfl ?_
              go_wp2
              show wpL _ _ _ _ _ _ _
              refine wpL_one 3 rfl (by kernel_rfl) rfl ?_
              go_wp2
              show wpL _ _ _ _ _ _ _
              refine wpL_one 4 rfl (by kernel_rfl) rfl ?_
              go_wp2
              show wpL _ _ _ _ _ _ _
              refine wpL_one 5 rfl (by kernel_rfl) rfl ?_
              go_wp2
              show wpL _ _ _ _ _ _ _
              refine wpL_one 6 rfl (by kernel_rfl) rfl ?_
              go_wp2
              show wpL _ _ _ _ _ _ _
              refine wpL_skip 7 rfl (by kernel_rfl) (by kernel_rfl) rfl (fun _ _ _ h => h) rfl ?_
              refine wpL_skip 10 rfl (by kernel_rfl) (by kernel_rfl) rfl (fun _ _ _ h => h) rfl ?_
              refine wpL_skip 11 rfl (by kernel_rfl) (by kernel_rfl) rfl (fun _ _ _ h => h) rfl ?_
              refine wpL_skip 12 rfl (by kernel_rfl) (by kernel_rfl) rfl (fun _ _ _ h => h) rfl ?_
              refine wpL_one 8 rfl (by kernel_rfl) rfl ?_
              go_wp2
              show wpL _ _ _ _ _ _ _
              refine wpL_one 9 rfl (by kernel_rfl) rfl ?_
              go_wp2
              show wpL _ _ _ _ _ _ _
              refine wpL_one 13 rfl (by kernel_rfl) rfl ?_
              go_wp2
              show wpL _ _ _ _ _ _ _
              refine wpL_one 14 rfl (by kernel_rfl) rfl ?_
              go_wp2
              show wpL _ _ _ _ _ _ _
              refine wpL_done (by kernel_rfl) ?_
              go_wp2
              exact ⟨⟨i + 1, by omega, by omega, by omega, congrArg (Value.int .i64) (by omega), HNO.out, HBB.out⟩, by simp [intOf]; omega⟩
            have t7 : (0 : Int) ≤ p := by omega
            by_cases hch : charZ p
            · by_cases heq : strOfNums ((wrN (chrZ p)).map Int.ofNat) = s.extract 0 i
              · have HC : Hid (Calls Tryz.prog 100 #[.int .i64 p] wr.drew fun e w' => e = .returned (.bool true) ∧ w' = wr.drew) := by
                  have := char_any p wr.drew
                  rwa [decide_eq_true hch] at this
                have HW : Hid _ := write_str p wr.drew
                obtain ⟨X, HX⟩ : ∃ X, Hid (strOfNums ((wrN (chrZ p)).map Int.ofNat) = X) := ⟨_, rfl⟩
                rw [HX.out] at HW
                have hxy : X = s.extract 0 4 := by rw [← HX.out, heq, show i = 4 by omega]
                have HH : Hid (hitS s i) := ⟨by rw [HP.out]; exact hch, by rw [HP.out]; exact heq⟩
                have HNO : Hid (∀ j, 1 ≤ j → j < i → ¬ hitS s j) := hno
                have HBB : Hid (Below w.heap.size w wr.drew) := hB.drew
                clear hno hB hch heq
                go_wp2_with fail
                refine wp_region_L 15 rfl (by kernel_rfl) ?_
                refine wpL_one 0 rfl (by kernel_rfl) rfl ?_
                go_wp2
                show wpL _ _ _ _ _ _ _
                refine wpL_one 1 rfl (by kernel_rfl) rfl ?_
                go_wp2
                show wpL _ _ _ _ _ _ _
                refine wpL_one 2 rfl (by kernel_rfl) rfl ?_
                go_wp2
                show wpL _ _ _ _ _ _ _
                refine wpL_one 3 rfl (by kernel_rfl) rfl ?_
                go_wp2
                show wpL _ _ _ _ _ _ _
                refine wpL_one 4 rfl (by kernel_rfl) rfl ?_
                go_wp2_with fail
                refine Calls.mono HC.out ?_
                rintro e w1 ⟨rfl, rfl⟩
                clear HC
                go_wp2
                show wpL _ _ _ _ _ _ _
                refine wpL_one 5 rfl (by kernel_rfl) rfl ?_
                go_wp2
                show wpL _ _ _ _ _ _ _
                refine wpL_one 6 rfl (by kernel_rfl) rfl ?_
                go_wp2
                show wpL _ _ _ _ _ _ _
                refine wpL_free 7 (v := ?_) rfl (by kernel_rfl) (by kernel_rfl) rfl (fun _ _ _ h => h) rfl (by intro wx; go_simp <;> rfl) ?_
                refine wpL_free 10 (v := ?_) rfl (by kernel_rfl) (by kernel_rfl) rfl (fun _ _ _ h => h) rfl (by intro wx; go_simp <;> rfl) ?_
                refine wpL_free 11 (v := ?_) rfl (by kernel_rfl) (by kernel_rfl) rfl (fun _ _ _ h => h) rfl (by intro wx; go_simp <;> rfl) ?_
                refine wpL_free 12 (v := ?_) rfl (by kernel_rfl) (by kernel_rfl) rfl (fun _ _ _ h => h) rfl (by intro wx; go_simp <;> rfl) ?_
                refine wpL_one 8 rfl (by kernel_rfl) rfl ?_
                go_wp2_with fail
                refine Calls.mono HW.out ?_
                rintro e w2 ⟨B, K, rfl, hcv, b2⟩
                clear HW
                have HB2 : Hid (Below w.heap.size w w2) := HBB.out.trans (b2.mono HBB.out.size)
                clear b2
                go_wp2
                show wpL _ _ _ _ _ _ _
                refine wpL_one 9 rfl (by kernel_rfl) rfl ?_
                go_wp2
                show wpL _ _ _ _ _ _ _
                refine wpL_one 13 rfl (by kernel_rfl) rfl ?_
                go_wp2
                show wpL _ _ _ _ _ _ _
                refine wpL_one 14 rfl (by kernel_rfl) rfl ?_
                go_wp2
                show wpL _ _ _ _ _ _ _
                refine wpL_done (by kernel_rfl) ?_
                go_wp2
                go_ret3
                refine ⟨HB2.out, .inl ⟨i, by omega, by omega, by omega, HNO.out, HH.out, ?_⟩⟩
                rw [HP.out]
                rw [t3]
                rfl
              · have HC : Hid (Calls Tryz.prog 100 #[.int .i64 p] wr.drew fun e w' => e = .returned (.bool true) ∧ w' = wr.drew) := by
                  have := char_any p wr.drew
                  rwa [decide_eq_true hch] at this
                have HW : Hid _ := write_str p wr.drew
                obtain ⟨X, HX⟩ : ∃ X, Hid (strOfNums ((wrN (chrZ p)).map Int.ofNat) = X) := ⟨_, rfl⟩
                rw [HX.out] at HW
                have hxy : (X.toList == (s.extract 0 4).toList) = false := toList_ne (by rw [← HX.out, ← show i = 4 by omega]; exact heq)
                have hh : ¬ hitS s i := fun h => heq (by have := h.2; rwa [HP.out] at this)
                have HNO : Hid (∀ j, 1 ≤ j → j < i + 1 → ¬ hitS s j) := fun j h1 h2 => by
                  by_cases e : j = i
                  · rw [e]; exact hh
                  · exact hno j h1 (by omega)
                clear hh
                have HBB : Hid (Below w.heap.size w wr.drew) := hB.drew
                clear hno hB hch heq
                go_wp2_with fail
                refine wp_region_L 15 rfl (by kernel_rfl) ?_
                refine wpL_one 0 rfl (by kernel_rfl) rfl ?_
                go_wp2
                show wpL _ _ _ _ _ _ _
                refine wpL_one 1 rfl (by kernel_rfl) rfl ?_
                go_wp2
                show wpL _ _ _ _ _ _ _
                refine wpL_one 2 rfl (by kernel_rfl) rfl ?_
                go_wp2
                show wpL _ _ _ _ _ _ _
                refine wpL_one 3 rfl (by kernel_rfl) rfl ?_
                go_wp2
                show wpL _ _ _ _ _ _ _
                refine wpL_one 4 rfl (by kernel_rfl) rfl ?_
                go_wp2_with fail
                refine Calls.mono HC.out ?_
                rintro e w1 ⟨rfl, rfl⟩
                clear HC
                go_wp2
                show wpL _ _ _ _ _ _ _
                refine wpL_one 5 rfl (by kernel_rfl) rfl ?_
                go_wp2
                show wpL _ _ _ _ _ _ _
                refine wpL_one 6 rfl (by kernel_rfl) rfl ?_
                go_wp2
                show wpL _ _ _ _ _ _ _
                refine wpL_free 7 (v := ?_) rfl (by kernel_rfl) (by kernel_rfl) rfl (fun _ _ _ h => h) rfl (by intro wx; go_simp <;> rfl) ?_
                refine wpL_free 10 (v := ?_) rfl (by kernel_rfl) (by kernel_rfl) rfl (fun _ _ _ h => h) rfl (by intro wx; go_simp <;> rfl) ?_
                refine wpL_free 11 (v := ?_) rfl (by kernel_rfl) (by kernel_rfl) rfl (fun _ _ _ h => h) rfl (by intro wx; go_simp <;> rfl) ?_
                refine wpL_free 12 (v := ?_) rfl (by kernel_rfl) (by kernel_rfl) rfl (fun _ _ _ h => h) rfl (by intro wx; go_simp <;> rfl) ?_
                refine wpL_one 8 rfl (by kernel_rfl) rfl ?_
                go_wp2_with fail
                refine Calls.mono HW.out ?_
                rintro e w2 ⟨B, K, rfl, hcv, b2⟩
                clear HW
                have HB2 : Hid (Below w.heap.size w w2) := HBB.out.trans (b2.mono HBB.out.size)
                clear b2
                go_wp2
                show wpL _ _ _ _ _ _ _
                refine wpL_one 9 rfl (by kernel_rfl) rfl ?_
                go_wp2
                show wpL _ _ _ _ _ _ _
                refine wpL_one 13 rfl (by kernel_rfl) rfl ?_
                go_wp2
                show wpL _ _ _ _ _ _ _
                refine wpL_one 14 rfl (by kernel_rfl) rfl ?_
                go_wp2
                show wpL _ _ _ _ _ _ _
                refine wpL_done (by kernel_rfl) ?_
                go_wp2
                exact ⟨⟨i + 1, by omega, by omega, by omega, congrArg (Value.int .i64) (by omega), HNO.out, HB2.out⟩, by simp [intOf]; omega⟩
            · have hh : ¬ hitS s i := fun h => hch (by have := h.1; rwa [HP.out] at this)
              have HNO : Hid (∀ j, 1 ≤ j → j < i + 1 → ¬ hitS s j) := fun j h1 h2 => by
                by_cases e : j = i
                · rw [e]; exact hh
                · exact hno j h1 (by omega)
              have HBB : Hid (Below w.heap.size w wr.drew) := hB.drew
              have HC : Hid (Calls Tryz.prog 100 #[.int .i64 p] wr.drew fun e w' => e = .returned (.bool false) ∧ w' = wr.drew) := by
                have := char_any p wr.drew
                rwa [decide_eq_false hch] at this
              clear hh hno hB HP hch
              go_wp2_with fail
              refine wp_region_L 15 rfl (by kernel_rfl) ?_
              refine wpL_one 0 rfl (by kernel_rfl) rfl ?_
              go_wp2
              show wpL _ _ _ _ _ _ _
              refine wpL_one 1 rfl (by kernel_rfl) rfl ?_
              go_wp2
              show wpL _ _ _ _ _ _ _
              refine wpL_one 2 rfl (by kernel_rfl) rfl ?_
              go_wp2
              show wpL _ _ _ _ _ _ _
              refine wpL_one 3 rfl (by kernel_rfl) rfl ?_
              go_wp2
              show wpL _ _ _ _ _ _ _
              refine wpL_one 4 rfl (by kernel_rfl) rfl ?_
              go_wp2_with fail
              refine Calls.mono HC.out ?_
              rintro e w1 ⟨rfl, rfl⟩
              clear HC
              go_wp2
              show wpL _ _ _ _ _ _ _
              refine wpL_one 5 rfl (by kernel_rfl) rfl ?_
              go_wp2
              show wpL _ _ _ _ _ _ _
              refine wpL_one 6 rfl (by kernel_rfl) rfl ?_
              go_wp2
              show wpL _ _ _ _ _ _ _
              refine wpL_skip 7 rfl (by kernel_rfl) (by kernel_rfl) rfl (fun _ _ _ h => h) rfl ?_
              refine wpL_skip 10 rfl (by kernel_rfl) (by kernel_rfl) rfl (fun _ _ _ h => h) rfl ?_
              refine wpL_skip 11 rfl (by kernel_rfl) (by kernel_rfl) rfl (fun _ _ _ h => h) rfl ?_
              refine wpL_skip 12 rfl (by kernel_rfl) (by kernel_rfl) rfl (fun _ _ _ h => h) rfl ?_
              refine wpL_one 8 rfl (by kernel_rfl) rfl ?_
              go_wp2
              show wpL _ _ _ _ _ _ _
              refine wpL_one 9 rfl (by kernel_rfl) rfl ?_
              go_wp2
              show wpL _ _ _ _ _ _ _
              refine wpL_one 13 rfl (by kernel_rfl) rfl ?_
              go_wp2
              show wpL _ _ _ _ _ _ _
              refine wpL_one 14 rfl (by kernel_rfl) rfl ?_
              go_wp2
              show wpL _ _ _ _ _ _ _
              refine wpL_done (by kernel_rfl) ?_
              go_wp2
              exact ⟨⟨i + 1, by omega, by omega, by omega, congrArg (Value.int .i64) (by omega), HNO.out, HBB.out⟩, by simp [intOf]; omega⟩
      · have t3 : (sz : Int) = 1 := by omega
        have e6 : Hid (part s sz 0 = ((s[0]'hs).toNat : Int)) := by show _ = _; rw [HP0.out, q]; simp [baseS]
        clear q
        obtain ⟨wo, hwo⟩ : ∃ wo, wo = wr := ⟨_, rfl⟩
        subst hwo
        go_wp2_with fail
        go_loopw [6, 7] (fun v6 v7 wi => ∃ i : Nat, 1 ≤ i ∧ i ≤ sz ∧ v7 = .int .i64 (i : Int) ∧ v6 = .int .i64 (part s sz (i - 1)) ∧ wi = wo) (fun _ v7 _ => 4 - (intOf v7).toNat)
        case atStart => exact ⟨1, by omega, by omega, rfl, by rw [e6.out], rfl⟩
        case round =>
          obtain ⟨i, i1, i2, rfl, rfl, rfl⟩ := hrel
          clear e6
          by_cases hi : i < sz
          · omega
          · obtain rfl : i = sz := by omega
            have hpb := part_bd s i (i - 1) (by omega)
            obtain ⟨p, hp⟩ : ∃ p, part s i (i - 1) = p := ⟨_, rfl⟩
            rw [hp] at hpb ⊢
            have HP : Hid (part s i (i - 1) = p) := hp
            clear hp HP0 hb0 hc256
            by_cases pn : p < 0
            · have hh : ¬ hitS s i := fun h => by have := h.1.1; rw [HP.out] at this; omega
              have HNO : Hid (∀ j, 1 ≤ j → j < i + 1 → ¬ hitS s j) := fun j h1 h2 => by
                by_cases e : j = i
                · rw [e]; exact hh
                · exact hno j h1 (by omega)
              have HBB : Hid (Below w.heap.size w wr.drew) := hB.drew
              have t7 : ¬ (0 : Int) ≤ p := by omega
              clear hh hno hB HP
              go_wp2_with fail
              refine wp_region_L 15 rfl (by kernel_rfl) ?_
              refine wpL_one 0 rfl (by kernel_rfl) rfl ?_
              go_wp2
              show wpL _ _ _ _ _ _ _
              refine wpL_one 1 rfl (by kernel_rfl) rfl ?_
              go_wp2
              show wpL _ _ _ _ _ _ _
              refine wpL_one 2 rfl (by kernel_rfl) rfl ?_
              go_wp2
              show wpL _ _ _ _ _ _ _
              refine wpL_one 3 rfl (by kernel_rfl) rfl ?_
              go_wp2
              show wpL _ _ _ _ _ _ _
              refine wpL_one 4 rfl (by kernel_rfl) rfl ?_
              go_wp2
              show wpL _ _ _ _ _ _ _
              refine wpL_one 5 rfl (by kernel_rfl) rfl ?_
              go_wp2
              show wpL _ _ _ _ _ _ _
              refine wpL_one 6 rfl (by kernel_rfl) rfl ?_
              go_wp2
              show wpL _ _ _ _ _ _ _
              refine wpL_skip 7 rfl (by kernel_rfl) (by kernel_rfl) rfl (fun _ _ _ h => h) rfl ?_
              refine wpL_skip 10 rfl (by kernel_rfl) (by kernel_rfl) rfl (fun _ _ _ h => h) rfl ?_
              refine wpL_skip 11 rfl (by kernel_rfl) (by kernel_rfl) rfl (fun _ _ _ h => h) rfl ?_
              refine wpL_skip 12 rfl (by kernel_rfl) (by kernel_rfl) rfl (fun _ _ _ h => h) rfl ?_
              refine wpL_one 8 rfl (by kernel_rfl) rfl ?_
              go_wp2
              show wpL _ _ _ _ _ _ _
              refine wpL_one 9 rfl (by kernel_rfl) rfl ?_
              go_wp2
              show wpL _ _ _ _ _ _ _
              refine wpL_one 13 rfl (by kernel_rfl) rfl ?_
              go_wp2
              show wpL _ _ _ _ _ _ _
              refine wpL_one 14 rfl (by kernel_rfl) rfl ?_
              go_wp2
              show wpL _ _ _ _ _ _ _
              refine wpL_done (by kernel_rfl) ?_
              go_wp2
              exact ⟨⟨i + 1, by omega, by omega, by omega, congrArg (Value.int .i64) (by omega), HNO.out, HBB.out⟩, by simp [intOf]; omega⟩
            have t7 : (0 : Int) ≤ p := by omega
            by_cases hch : charZ p
            · by_cases heq : strOfNums ((wrN (chrZ p)).map Int.ofNat) = s.extract 0 i
              · have HC : Hid (Calls Tryz.prog 100 #[.int .i64 p] wr.drew fun e w' => e = .returned (.bool true) ∧ w' = wr.drew) := by
                  have := char_any p wr.drew
                  rwa [decide_eq_true hch] at this
                have HW : Hid _ := write_str p wr.drew
                obtain ⟨X, HX⟩ : ∃ X, Hid (strOfNums ((wrN (chrZ p)).map Int.ofNat) = X) := ⟨_, rfl⟩
                rw [HX.out] at HW
                have hxy : X = s.extract 0 1 := by rw [← HX.out, heq, show i = 1 by omega]
                have HH : Hid (hitS s i) := ⟨by rw [HP.out]; exact hch, by rw [HP.out]; exact heq⟩
                have HNO : Hid (∀ j, 1 ≤ j → j < i → ¬ hitS s j) := hno
                have HBB : Hid (Below w.heap.size w wr.drew) := hB.drew
                clear hno hB hch heq
                go_wp2_with fail
                refine wp_region_L 15 rfl (by kernel_rfl) ?_
                refine wpL_one 0 rfl (by kernel_rfl) rfl ?_
                go_wp2
                show wpL _ _ _ _ _ _ _
                refine wpL_one 1 rfl (by kernel_rfl) rfl ?_
                go_wp2
                show wpL _ _ _ _ _ _ _
                refine wpL_one 2 rfl (by kernel_rfl) rfl ?_
                go_wp2
                show wpL _ _ _ _ _ _ _
                refine wpL_one 3 rfl (by kernel_rfl) rfl ?_
                go_wp2
                show wpL _ _ _ _ _ _ _
                refine wpL_one 4 rfl (by kernel_rfl) rfl ?_
                go_wp2_with fail
                refine Calls.mono HC.out ?_
                rintro e w1 ⟨rfl, rfl⟩
                clear HC
                go_wp2
                show wpL _ _ _ _ _ _ _
                refine wpL_one 5 rfl (by kernel_rfl) rfl ?_
                go_wp2
                show wpL _ _ _ _ _ _ _
                refine wpL_one 6 rfl (by kernel_rfl) rfl ?_
                go_wp2
                show wpL _ _ _ _ _ _ _
                refine wpL_free 7 (v := ?_) rfl (by kernel_rfl) (by kernel_rfl) rfl (fun _ _ _ h => h) rfl (by intro wx; go_simp <;> rfl) ?_
                refine wpL_free 10 (v := ?_) rfl (by kernel_rfl) (by kernel_rfl) rfl (fun _ _ _ h => h) rfl (by intro wx; go_simp <;> rfl) ?_
                refine wpL_free 11 (v := ?_) rfl (by kernel_rfl) (by kernel_rfl) rfl (fun _ _ _ h => h) rfl (by intro wx; go_simp <;> rfl) ?_
                refine wpL_free 12 (v := ?_) rfl (by kernel_rfl) (by kernel_rfl) rfl (fun _ _ _ h => h) rfl (by intro wx; go_simp <;> rfl) ?_
                refine wpL_one 8 rfl (by kernel_rfl) rfl ?_
                go_wp2_with fail
                refine Calls.mono HW.out ?_
                rintro e w2 ⟨B, K, rfl, hcv, b2⟩
                clear HW
                have HB2 : Hid (Below w.heap.size w w2) := HBB.out.trans (b2.mono HBB.out.size)
                clear b2
                go_wp2
                show wpL _ _ _ _ _ _ _
                refine wpL_one 9 rfl (by kernel_rfl) rfl ?_
                go_wp2
                show wpL _ _ _ _ _ _ _
                refine wpL_one 13 rfl (by kernel_rfl) rfl ?_
                go_wp2
                show wpL _ _ _ _ _ _ _
                refine wpL_one 14 rfl (by kernel_rfl) rfl ?_
                go_wp2
                show wpL _ _ _ _ _ _ _
                refine wpL_done (by kernel_rfl) ?_
                go_wp2
                go_ret3
                refine ⟨HB2.out, .inl ⟨i, by omega, by omega, by omega, HNO.out, HH.out, ?_⟩⟩
                rw [HP.out]
                rw [t3]
                rfl
              · have HC : Hid (Calls Tryz.prog 100 #[.int .i64 p] wr.drew fun e w' => e = .returned (.bool true) ∧ w' = wr.drew) := by
                  have := char_any p wr.drew
                  rwa [decide_eq_true hch] at this
                have HW : Hid _ := write_str p wr.drew
                obtain ⟨X, HX⟩ : ∃ X, Hid (strOfNums ((wrN (chrZ p)).map Int.ofNat) = X) := ⟨_, rfl⟩
                rw [HX.out] at HW
                have hxy : (X.toList == (s.extract 0 1).toList) = false := toList_ne (by rw [← HX.out, ← show i = 1 by omega]; exact heq)
                have hh : ¬ hitS s i := fun h => heq (by have := h.2; rwa [HP.out] at this)
                have HNO : Hid (∀ j, 1 ≤ j → j < i + 1 → ¬ hitS s j) := fun j h1 h2 => by
                  by_cases e : j = i
                  · rw [e]; exact hh
                  · exact hno j h1 (by omega)
                clear hh
                have HBB : Hid (Below w.heap.size w wr.drew) := hB.drew
                clear hno hB hch heq
                go_wp2_with fail
                refine wp_region_L 15 rfl (by kernel_rfl) ?_
                refine wpL_one 0 rfl (by kernel_rfl) rfl ?_
                go_wp2
                show wpL _ _ _ _ _ _ _
                refine wpL_one 1 rfl (by kernel_rfl) rfl ?_
                go_wp2
                show wpL _ _ _ _ _ _ _
                refine wpL_one 2 rfl (by kernel_rfl) rfl ?_
                go_wp2
                show wpL _ _ _ _ _ _ _
                refine wpL_one 3 rfl (by kernel_rfl) rfl ?_
                go_wp2
                show wpL _ _ _ _ _ _ _
                refine wpL_one 4 rfl (by kernel_rfl) rfl ?_
                go_wp2_with fail
                refine Calls.mono HC.out ?_
                rintro e w1 ⟨rfl, rfl⟩
                clear HC
                go_wp2
                show wpL _ _ _ _ _ _ _
                refine wpL_one 5 rfl (by kernel_rfl) rfl ?_
                go_wp2
                show wpL _ _ _ _ _ _ _
                refine wpL_one 6 rfl (by kernel_rfl) rfl ?_
                go_wp2
                show wpL _ _ _ _ _ _ _
                refine wpL_free 7 (v := ?_) rfl (by kernel_rfl) (by kernel_rfl) rfl (fun _ _ _ h => h) rfl (by intro wx; go_simp <;> rfl) ?_
                refine wpL_free 10 (v := ?_) rfl (by kernel_rfl) (by kernel_rfl) rfl (fun _ _ _ h => h) rfl (by intro wx; go_simp <;> rfl) ?_
                refine wpL_free 11 (v := ?_) rfl (by kernel_rfl) (by kernel_rfl) rfl (fun _ _ _ h => h) rfl (by intro wx; go_simp <;> rfl) ?_
                refine wpL_free 12 (v := ?_) rfl (by kernel_rfl) (by kernel_rfl) rfl (fun _ _ _ h => h) rfl (by intro wx; go_simp <;> rfl) ?_
                refine wpL_one 8 rfl (by kernel_rfl) rfl ?_
                go_wp2_with fail
                refine Calls.mono HW.out ?_
                rintro e w2 ⟨B, K, rfl, hcv, b2⟩
                clear HW
                have HB2 : Hid (Below w.heap.size w w2) := HBB.out.trans (b2.mono HBB.out.size)
                clear b2
                go_wp2
                show wpL _ _ _ _ _ _ _
                refine wpL_one 9 rfl (by kernel_rfl) rfl ?_
                go_wp2
                show wpL _ _ _ _ _ _ _
                refine wpL_one 13 rfl (by kernel_rfl) rfl ?_
                go_wp2
                show wpL _ _ _ _ _ _ _
                refine wpL_one 14 rfl (by kernel_rfl) rfl ?_
                go_wp2
                show wpL _ _ _ _ _ _ _
                refine wpL_done (by kernel_rfl) ?_
                go_wp2
                exact ⟨⟨i + 1, by omega, by omega, by omega, congrArg (Value.int .i64) (by omega), HNO.out, HB2.out⟩, by simp [intOf]; omega⟩
            · have hh : ¬ hitS s i := fun h => hch (by have := h.1; rwa [HP.out] at this)
              have HNO : Hid (∀ j, 1 ≤ j → j < i + 1 → ¬ hitS s j) := fun j h1 h2 => by
                by_cases e : j = i
                · rw [e]; exact hh
                · exact hno j h1 (by omega)
              have HBB : Hid (Below w.heap.size w wr.drew) := hB.drew
              have HC : Hid (Calls Tryz.prog 100 #[.int .i64 p] wr.drew fun e w' => e = .returned (.bool false) ∧ w' = wr.drew) := by
                have := char_any p wr.drew
                rwa [decide_eq_false hch] at this
              clear hh hno hB HP hch
              go_wp2_with fail
              refine wp_region_L 15 rfl (by kernel_rfl) ?_
              refine wpL_one 0 rfl (by kernel_rfl) rfl ?_
              go_wp2
              show wpL _ _ _ _ _ _ _
              refine wpL_one 1 rfl (by kernel_rfl) rfl ?_
              go_wp2
              show wpL _ _ _ _ _ _ _
              refine wpL_one 2 rfl (by kernel_rfl) rfl ?_
              go_wp2
              show wpL _ _ _ _ _ _ _
              refine wpL_one 3 rfl (by kernel_rfl) rfl ?_
              go_wp2
              show wpL _ _ _ _ _ _ _
              refine wpL_one 4 rfl (by kernel_rfl) rfl ?_
              go_wp2_with fail
              refine Calls.mono HC.out ?_
              rintro e w1 ⟨rfl, rfl⟩
              clear HC
              go_wp2
              show wpL _ _ _ _ _ _ _
              refine wpL_one 5 rfl (by kernel_rfl) rfl ?_
              go_wp2
              show wpL _ _ _ _ _ _ _
              refine wpL_one 6 rfl (by kernel_rfl) rfl ?_
              go_wp2
              show wpL _ _ _ _ _ _ _
              refine wpL_skip 7 rfl (by kernel_rfl) (by kernel_rfl) rfl (fun _ _ _ h => h) rfl ?_
              refine wpL_skip 10 rfl (by kernel_rfl) (by kernel_rfl) rfl (fun _ _ _ h => h) rfl ?_
              refine wpL_skip 11 rfl (by kernel_rfl) (by kernel_rfl) rfl (fun _ _ _ h => h) rfl ?_
              refine wpL_skip 12 rfl (by kernel_rfl) (by kernel_rfl) rfl (fun _ _ _ h => h) rfl ?_
              refine wpL_one 8 rfl (by kernel_rfl) rfl ?_
              go_wp2
              show wpL _ _ _ _ _ _ _
              refine wpL_one 9 rfl (by kernel_rfl) rfl ?_
              go_wp2
              show wpL _ _ _ _ _ _ _
              refine wpL_one 13 rfl (by kernel_rfl) rfl ?_
              go_wp2
              show wpL _ _ _ _ _ _ _
              refine wpL_one 14 rfl (by kernel_rfl) rfl ?_
              go_wp2
              show wpL _ _ _ _ _ _ _
              refine wpL_done (by kernel_rfl) ?_
              go_wp2
              exact ⟨⟨i + 1, by omega, by omega, by omega, congrArg (Value.int .i64) (by omega), HNO.out, HBB.out⟩, by simp [intOf]; omega⟩
    · have HB : Hid _ := hB
      by_cases q4 : sz ≤ 4
      · have t1 : (sz : Int) ≤ 4 := by omega
        have t2 : ¬ (sz : Int) ≤ s.size := by omega
        have HNO : Hid (∀ j, 1 ≤ j → j ≤ 4 → j ≤ s.size → ¬ hitS s j) := fun j a b c => hno j a (by omega)
        clear hno hB hb0
        go_wp2
        go_ret3
        exact ⟨HB.out, .inr ⟨HNO.out, rfl⟩⟩
      · have t1 : ¬ (sz : Int) ≤ 4 := by omega
        have HNO : Hid (∀ j, 1 ≤ j → j ≤ 4 → j ≤ s.size → ¬ hitS s j) := fun j a b c => hno j a (by omega)
        clear hno hB hb0
        go_wp2
        go_ret3
        exact ⟨HB.out, .inr ⟨HNO.out, rfl⟩⟩
end Go.Proofs.YtgihginfegckcaaGreatDoor
/- utf: what the document's 'first' finds is what a range over a string finds. -/
namespace Go.Proofs.YtgihginfegckcaaGreatDoor
open Go.RowKit

theorem byteAt_nats (s : ByteArray) (j : Nat) (h : j < s.size) : byteAt s j = ((natsOf s).getD j 0 : Nat) := by
  unfold byteAt
  rw [dif_pos h]
  congr 1
  unfold natsOf
  have h' : j < s.data.toList.length := by simpa using h
  rw [List.getD_eq_getElem?_getD, List.getElem?_map, List.getElem?_eq_getElem h']
  rfl
theorem nats_take (s : ByteArray) (k : Nat) : natsOf (s.extract 0 k) = (natsOf s).take k := by
  unfold natsOf
  rw [ByteArray.data_extract, Array.toList_extract, List.extract_eq_take_drop]
  simp
theorem nats_inj {a b : ByteArray} (h : natsOf a = natsOf b) : a = b := by
  rw [← str_nats a, ← str_nats b, h]
theorem hitS_iff (s : ByteArray) (sz : Nat) (m : Int) (hm : part s sz (sz - 1) = m) : hitS s sz ↔ charZ m ∧ wrN m.toNat = (natsOf s).take sz := by
  unfold hitS
  rw [hm]
  constructor
  · rintro ⟨hc, he⟩
    refine ⟨hc, ?_⟩
    have e1 : chrZ m = m.toNat := if_pos hc
    have := congrArg natsOf he
    rw [e1, nats_take, nats_str (wrN_byte (by have := hc.2.1; omega))] at this
    exact this
  · rintro ⟨hc, he⟩
    refine ⟨hc, nats_inj ?_⟩
    have e1 : chrZ m = m.toNat := if_pos hc
    rw [e1, nats_take, nats_str (wrN_byte (by have := hc.2.1; omega)), he]
theorem take_one {l : List Nat} (h : 1 ≤ l.length) : l.take 1 = [l.getD 0 0] := by
  match l, h with
  | a :: r, _ => simp
theorem take_two {l : List Nat} (h : 2 ≤ l.length) : l.take 2 = [l.getD 0 0, l.getD 1 0] := by
  match l, h with
  | a :: b :: r, _ => simp
theorem take_three {l : List Nat} (h : 3 ≤ l.length) : l.take 3 = [l.getD 0 0, l.getD 1 0, l.getD 2 0] := by
  match l, h with
  | a :: b :: c :: r, _ => simp
theorem take_four {l : List Nat} (h : 4 ≤ l.length) : l.take 4 = [l.getD 0 0, l.getD 1 0, l.getD 2 0, l.getD 3 0] := by
  match l, h with
  | a :: b :: c :: d :: r, _ => simp
theorem getD_lt {l : List Nat} (h : Bys l) (j : Nat) : l.getD j 0 < 256 := by
  rw [List.getD_eq_getElem?_getD]
  by_cases hj : j < l.length
  · rw [List.getElem?_eq_getElem hj]
    exact h _ (List.getElem_mem hj)
  · rw [List.getElem?_eq_none (by omega)]
    simp

/-- What is asked at each size, and which number it is. -/
theorem hitS1 (s : ByteArray) (h : 1 ≤ s.size) : (hitS s 1 ↔ (natsOf s).getD 0 0 < 128) ∧ part s 1 0 = ((natsOf s).getD 0 0 : Nat) := by
  have hb := getD_lt (bys_nats s)
  have e : part s 1 0 = ((natsOf s).getD 0 0 : Nat) := by
    show byteAt s 0 - baseS 1 = _
    rw [byteAt_nats s 0 (by omega)]
    simp [baseS]
  refine ⟨?_, e⟩
  rw [hitS_iff s 1 _ e, take_one (by rw [natsOf_len]; exact h), Int.toNat_natCast]
  exact hit1 _ (hb 0)
theorem hitS2 (s : ByteArray) (h : 2 ≤ s.size) : (hitS s 2 ↔ ((natsOf s).getD 0 0 / 32 = 6 ∧ (natsOf s).getD 1 0 / 64 = 2 ∧ (natsOf s).getD 0 0 % 32 * 64 + (natsOf s).getD 1 0 % 64 ≥ 128)) ∧ part s 2 1 = (((natsOf s).getD 0 0 : Nat) - 192 : Int) * 64 + ((natsOf s).getD 1 0 : Nat) - 128 := by
  have hb := getD_lt (bys_nats s)
  have e : part s 2 1 = (((natsOf s).getD 0 0 : Nat) - 192 : Int) * 64 + ((natsOf s).getD 1 0 : Nat) - 128 := by
    show (byteAt s 0 - baseS 2) * 64 + byteAt s 1 - 128 = _
    rw [byteAt_nats s 0 (by omega), byteAt_nats s 1 (by omega)]
    simp [baseS]
  refine ⟨?_, e⟩
  rw [hitS_iff s 2 _ e, take_two (by rw [natsOf_len]; exact h)]
  exact hit2 _ _ (hb 1) rfl
theorem hitS3 (s : ByteArray) (h : 3 ≤ s.size) : (hitS s 3 ↔ ((natsOf s).getD 0 0 / 16 = 14 ∧ (natsOf s).getD 1 0 / 64 = 2 ∧ (natsOf s).getD 2 0 / 64 = 2 ∧ (natsOf s).getD 0 0 % 16 * 4096 + (natsOf s).getD 1 0 % 64 * 64 + (natsOf s).getD 2 0 % 64 ≥ 2048 ∧ ((natsOf s).getD 0 0 % 16 * 4096 + (natsOf s).getD 1 0 % 64 * 64 + (natsOf s).getD 2 0 % 64 < 55296 ∨ (57344 ≤ (natsOf s).getD 0 0 % 16 * 4096 + (natsOf s).getD 1 0 % 64 * 64 + (natsOf s).getD 2 0 % 64 ∧ (natsOf s).getD 0 0 % 16 * 4096 + (natsOf s).getD 1 0 % 64 * 64 + (natsOf s).getD 2 0 % 64 ≤ 1114111)))) ∧
    part s 3 2 = ((((natsOf s).getD 0 0 : Nat) - 224 : Int) * 64 + ((natsOf s).getD 1 0 : Nat) - 128) * 64 + ((natsOf s).getD 2 0 : Nat) - 128 := by
  have hb := getD_lt (bys_nats s)
  have e : part s 3 2 = ((((natsOf s).getD 0 0 : Nat) - 224 : Int) * 64 + ((natsOf s).getD 1 0 : Nat) - 128) * 64 + ((natsOf s).getD 2 0 : Nat) - 128 := by
    show ((byteAt s 0 - baseS 3) * 64 + byteAt s 1 - 128) * 64 + byteAt s 2 - 128 = _
    rw [byteAt_nats s 0 (by omega), byteAt_nats s 1 (by omega), byteAt_nats s 2 (by omega)]
    simp [baseS]
  refine ⟨?_, e⟩
  rw [hitS_iff s 3 _ e, take_three (by rw [natsOf_len]; exact h)]
  exact hit3 _ _ _ (hb 1) rfl
theorem hitS4 (s : ByteArray) (h : 4 ≤ s.size) : (hitS s 4 ↔ ((natsOf s).getD 0 0 / 8 = 30 ∧ (natsOf s).getD 1 0 / 64 = 2 ∧ (natsOf s).getD 2 0 / 64 = 2 ∧ (natsOf s).getD 3 0 / 64 = 2 ∧ (natsOf s).getD 0 0 % 8 * 262144 + (natsOf s).getD 1 0 % 64 * 4096 + (natsOf s).getD 2 0 % 64 * 64 + (natsOf s).getD 3 0 % 64 ≥ 65536 ∧ ((natsOf s).getD 0 0 % 8 * 262144 + (natsOf s).getD 1 0 % 64 * 4096 + (natsOf s).getD 2 0 % 64 * 64 + (natsOf s).getD 3 0 % 64 < 55296 ∨ (57344 ≤ (natsOf s).getD 0 0 % 8 * 262144 + (natsOf s).getD 1 0 % 64 * 4096 + (natsOf s).getD 2 0 % 64 * 64 + (natsOf s).getD 3 0 % 64 ∧ (natsOf s).getD 0 0 % 8 * 262144 + (natsOf s).getD 1 0 % 64 * 4096 + (natsOf s).getD 2 0 % 64 * 64 + (natsOf s).getD 3 0 % 64 ≤ 1114111)))) ∧
    part s 4 3 = (((((natsOf s).getD 0 0 : Nat) - 240 : Int) * 64 + ((natsOf s).getD 1 0 : Nat) - 128) * 64 + ((natsOf s).getD 2 0 : Nat) - 128) * 64 + ((natsOf s).getD 3 0 : Nat) - 128 := by
  have hb := getD_lt (bys_nats s)
  have e : part s 4 3 = (((((natsOf s).getD 0 0 : Nat) - 240 : Int) * 64 + ((natsOf s).getD 1 0 : Nat) - 128) * 64 + ((natsOf s).getD 2 0 : Nat) - 128) * 64 + ((natsOf s).getD 3 0 : Nat) - 128 := by
    show (((byteAt s 0 - baseS 4) * 64 + byteAt s 1 - 128) * 64 + byteAt s 2 - 128) * 64 + byteAt s 3 - 128 = _
    rw [byteAt_nats s 0 (by omega), byteAt_nats s 1 (by omega), byteAt_nats s 2 (by omega), byteAt_nats s 3 (by omega)]
    simp [baseS]
  refine ⟨?_, e⟩
  rw [hitS_iff s 4 _ e, take_four (by rw [natsOf_len]; exact h)]
  exact hit4 _ _ _ _ (hb 1) (hb 2) rfl

/-- The first size at which it is found is the range's. -/
theorem found_at (s : ByteArray) (sz : Nat) (h1 : 1 ≤ sz) (h4 : sz ≤ 4) (hs : sz ≤ s.size) (hno : ∀ j, 1 ≤ j → j < sz → ¬ hitS s j) (hh : hitS s sz) :
    decL (natsOf s) = ((part s sz (sz - 1)).toNat, sz) ∧ 0 ≤ part s sz (sz - 1) ∧ decL (natsOf s) ≠ (65533, 1) := by
  have hb := getD_lt (bys_nats s)
  have b0 := hb 0
  have b1 := hb 1
  have b2 := hb 2
  have b3 := hb 3
  have hlen := natsOf_len s
  have q1 := hitS1 s (by omega)
  unfold decL
  rw [hlen]
  rcases (by omega : sz = 1 ∨ sz = 2 ∨ sz = 3 ∨ sz = 4) with rfl | rfl | rfl | rfl
  · have g := q1.1.1 hh
    have e := q1.2
    rw [show (1 : Nat) - 1 = 0 from rfl, e]
    generalize (natsOf s).getD 0 0 = x0 at *
    unfold Lib.decodeN
    rw [if_pos g]
    refine ⟨by simp, by omega, ?_⟩
    intro h
    simp only [Prod.mk.injEq] at h
    omega
  · have n1 := mt q1.1.2 (hno 1 (by omega) (by omega))
    have q2 := hitS2 s (by omega)
    have g := q2.1.1 hh
    have e := q2.2
    rw [show (2 : Nat) - 1 = 1 from rfl, e]
    clear q1 q2 e hh hno
    generalize (natsOf s).getD 0 0 = x0 at *
    generalize (natsOf s).getD 1 0 = x1 at *
    unfold Lib.decodeN
    rw [if_neg n1, if_pos ⟨g.1, by omega, g.2.1⟩, if_pos g.2.2]
    refine ⟨by apply Prod.ext <;> simp only <;> omega, by omega, ?_⟩
    intro h
    simp only [Prod.mk.injEq] at h
    omega
  · have n1 := mt q1.1.2 (hno 1 (by omega) (by omega))
    have q3 := hitS3 s (by omega)
    have g := q3.1.1 hh
    have e := q3.2
    rw [show (3 : Nat) - 1 = 2 from rfl, e]
    clear q1 q3 e hh hno
    generalize (natsOf s).getD 0 0 = x0 at *
    generalize (natsOf s).getD 1 0 = x1 at *
    generalize (natsOf s).getD 2 0 = x2 at *
    obtain ⟨g0, g1, g2, g3, g4⟩ := g
    unfold Lib.decodeN
    rw [if_neg n1, if_neg (by omega), if_pos ⟨g0, ⟨by omega, g1⟩, by omega, g2⟩, if_pos ⟨g3, g4⟩]
    refine ⟨by apply Prod.ext <;> simp only <;> omega, by omega, ?_⟩
    intro h
    simp only [Prod.mk.injEq] at h
    omega
  · have n1 := mt q1.1.2 (hno 1 (by omega) (by omega))
    have q4 := hitS4 s (by omega)
    have g := q4.1.1 hh
    have e := q4.2
    rw [show (4 : Nat) - 1 = 3 from rfl, e]
    clear q1 q4 e hh hno
    generalize (natsOf s).getD 0 0 = x0 at *
    generalize (natsOf s).getD 1 0 = x1 at *
    generalize (natsOf s).getD 2 0 = x2 at *
    generalize (natsOf s).getD 3 0 = x3 at *
    obtain ⟨g0, g1, g2, g3, g4, g5⟩ := g
    unfold Lib.decodeN
    rw [if_neg n1, if_neg (by omega), if_neg (by omega), if_pos ⟨g0, ⟨by omega, g1⟩, ⟨by omega, g2⟩, by omega, g3⟩, if_pos ⟨g4, g5⟩]
    refine ⟨by apply Prod.ext <;> simp only <;> omega, by omega, ?_⟩
    intro h
    simp only [Prod.mk.injEq] at h
    omega
theorem found_not (s : ByteArray) (hs : 1 ≤ s.size) (hno : ∀ j, 1 ≤ j → j ≤ 4 → j ≤ s.size → ¬ hitS s j) : decL (natsOf s) = (65533, 1) := by
  have n1 := mt (hitS1 s hs).1.2 (hno 1 (by omega) (by omega) hs)
  unfold decL
  rw [natsOf_len]
  unfold Lib.decodeN
  rw [if_neg n1]
  split
  · rename_i c
    refine if_neg (fun h => ?_)
    exact hno 2 (by omega) (by omega) (by omega) ((hitS2 s (by omega)).1.2 ⟨c.1, c.2.2, h⟩)
  · split
    · rename_i c
      refine if_neg (fun h => ?_)
      exact hno 3 (by omega) (by omega) (by omega) ((hitS3 s (by omega)).1.2 ⟨c.1, c.2.1.2, c.2.2.2, h.1, h.2⟩)
    · split
      · rename_i c
        refine if_neg (fun h => ?_)
        exact hno 4 (by omega) (by omega) (by omega) ((hitS4 s (by omega)).1.2 ⟨c.1, c.2.1.2, c.2.2.1.2, c.2.2.2.2, h.1, h.2⟩)
      · rfl

theorem first_says : FirstSays := by
  intro s w hs hl
  refine (first_walk s hs hl w).mono ?_
  rintro e w' ⟨hb, ⟨sz, h1, h4, hsz, hno, hh, rfl⟩ | ⟨hno, rfl⟩⟩
  · obtain ⟨e1, e2, e3⟩ := found_at s sz h1 h4 hsz hno hh
    refine ⟨?_, hb⟩
    rw [decide_eq_true e3, e1]
    simp only
    rw [Int.toNat_of_nonneg e2]
  · have e1 := found_not s hs hno
    refine ⟨?_, hb⟩
    rw [decide_eq_false (by rw [e1]; simp), e1]
    rfl
end Go.Proofs.YtgihginfegckcaaGreatDoor
/- utf: the document's Xml and Cut, and the law's own ints. -/
namespace Go.Proofs.YtgihginfegckcaaGreatDoor
open Go.RowKit

set_option maxRecDepth 100000 in
set_option maxHeartbeats 4000000 in
theorem xml_any (s : ByteArray) (hl : s.size ≤ 140737488351232) (w : World) :
    Calls Tryz.prog 39 #[.string s] w fun e w' => e = .returned (.int .i64 (errX (xmlL (natsOf s)))) ∧ Below w.heap.size w w' := by
  obtain ⟨R, HR⟩ : ∃ R, Hid (xmlL (natsOf s) = R) := ⟨_, rfl⟩
  rw [HR.out]
  go_enter Tryz.func39, Tryz.ntmps39
  go_wp2_with fail
  go_loopw [0] (fun v0 wr => ∃ t : ByteArray, v0 = .string t ∧ t.size ≤ s.size ∧ Hid (xmlL (natsOf t) = R) ∧ Below w.heap.size w wr) (fun v0 _ => (strV v0).size)
  case atStart => exact ⟨s, rfl, Nat.le_refl _, HR, Below.refl _ _⟩
  case round =>
    obtain ⟨t, rfl, ht, HT, hB⟩ := hrel
    by_cases h0 : 0 < t.size
    · have HC : Hid _ := first_says t wr h0 (by omega)
      have hne : natsOf t ≠ [] := by
        intro h
        have := natsOf_len t
        rw [h] at this
        simp at this
        omega
      have hcl := decL_le (natsOf t)
      have hnl := dec_le hne
      rw [natsOf_len] at hnl
      have hn1 := (dec_size (natsOf t)).1
      have hbad : decL (natsOf t) = (65533, 1) → R = false := fun e => HT.out.symm.trans (xmlL_bad hne e)
      have hnot : okX (decL (natsOf t)).1 = false → R = false := fun e => HT.out.symm.trans (xmlL_not hne e)
      have hstep : decL (natsOf t) ≠ (65533, 1) → okX (decL (natsOf t)).1 = true → xmlL (natsOf (t.extract (decL (natsOf t)).2 t.size)) = R := fun h1 h2 => by
        rw [natsOf_drop, ← xmlL_step hne h1 h2]
        exact HT.out
      obtain ⟨D, hD⟩ : ∃ D, decL (natsOf t) = D := ⟨_, rfl⟩
      rw [hD] at HC hcl hnl hn1 hbad hnot hstep
      obtain ⟨c, n⟩ := D
      simp only at HC hcl hnl hn1 hnot hstep
      have hsx : (t.extract n t.size).size = t.size - n := by rw [ByteArray.size_extract]; omega
      have hsx2 : (t.extract n t.size).size ≤ s.size := by omega
      have hcz : (c : Int) ≤ 1114111 := by omega
      go_wp2_with fail
      refine Calls.mono HC.out ?_
      rintro e w1 ⟨rfl, hb1⟩
      clear HC hD hne
      have HB1 : Hid (Below w.heap.size w w1) := hB.trans (hb1.mono hB.size)
      clear hB hb1
      by_cases hd : (c, n) = (65533, 1)
      · have e : decide ((c, n) ≠ (65533, 1)) = false := by simp [hd]
        rw [e]
        have hRf := hbad hd
        clear hbad hnot hstep e hd
        subst hRf
        clear HT HR
        go_wp2
        go_ret
        exact ⟨rfl, HB1.out⟩
      have e : decide ((c, n) ≠ (65533, 1)) = true := by simp [hd]
      rw [e]
      clear e
      by_cases k9 : c = 9
      · subst k9
        have HN : Hid _ := hstep hd (by decide)
        clear hbad hnot hstep hd
        clear HT HR
        go_wp2
        exact ⟨⟨_, rfl, hsx2, HN, HB1.out⟩, by simp only [strV]; omega⟩
      by_cases k10 : c = 10
      · subst k10
        have HN : Hid _ := hstep hd (by decide)
        clear hbad hnot hstep hd
        clear HT HR
        go_wp2
        exact ⟨⟨_, rfl, hsx2, HN, HB1.out⟩, by simp only [strV]; omega⟩
      by_cases k13 : c = 13
      · subst k13
        have HN : Hid _ := hstep hd (by decide)
        clear hbad hnot hstep hd
        clear HT HR
        go_wp2
        exact ⟨⟨_, rfl, hsx2, HN, HB1.out⟩, by simp only [strV]; omega⟩
      by_cases k65534 : c = 65534
      · subst k65534
        have hRf := hnot (by decide)
        clear hbad hnot hstep hd
        subst hRf
        clear HT HR
        go_wp2
        go_ret
        exact ⟨rfl, HB1.out⟩
      by_cases k65535 : c = 65535
      · subst k65535
        have hRf := hnot (by decide)
        clear hbad hnot hstep hd
        subst hRf
        clear HT HR
        go_wp2
        go_ret
        exact ⟨rfl, HB1.out⟩
      have z1 : ¬ (c : Int) = 9 := by omega
      have z2 : ¬ (c : Int) = 10 := by omega
      have z3 : ¬ (c : Int) = 13 := by omega
      have z4 : ¬ (c : Int) = 65534 := by omega
      have z5 : ¬ (c : Int) = 65535 := by omega
      by_cases k32 : 32 ≤ c
      · have z6 : ¬ (c : Int) < 32 := by omega
        have z7 : ((c : Int) == 65534) = false := by simp; omega
        have z8 : ((c : Int) == 65535) = false := by simp; omega
        have HN : Hid _ := hstep hd (decide_eq_true (by omega))
        clear hbad hnot hstep hd
        clear HT HR
        go_wp2
        exact ⟨⟨_, rfl, hsx2, HN, HB1.out⟩, by simp only [strV]; omega⟩
      · have z6 : (c : Int) < 32 := by omega
        have hRf := hnot (decide_eq_false (by omega))
        clear hbad hnot hstep hd
        subst hRf
        clear HT HR
        go_wp2
        go_ret
        exact ⟨rfl, HB1.out⟩
    · have hR : R = true := by
        rw [← HT.out]
        have : natsOf t = [] := List.eq_nil_of_length_eq_zero (by rw [natsOf_len]; omega)
        rw [this]
        rfl
      subst hR
      have HB : Hid (Below w.heap.size w wr) := hB
      have e0 : (t.size : Int) = 0 := by omega
      clear hB HT HR
      go_wp2
      go_ret
      exact ⟨rfl, HB.out⟩
end Go.Proofs.YtgihginfegckcaaGreatDoor
/- The document's SheetName and Right. -/
namespace Go.Proofs.YtgihginfegckcaaGreatDoor
open Go.RowKit

theorem index_neg (l : List UInt8) (c : UInt8) : Lib.indexByte l c < 0 ↔ ∀ j : Nat, l[j]? ≠ some c := by
  have hge := Lib.indexByte_ge l c
  constructor
  · intro h j
    exact Lib.indexByte_none (by omega) j
  · intro h
    by_cases h0 : Lib.indexByte l c < 0
    · exact h0
    · obtain ⟨i, hi⟩ : ∃ i : Nat, Lib.indexByte l c = i := ⟨(Lib.indexByte l c).toNat, by omega⟩
      exact absurd (Lib.indexByte_some hi).1 (h i)
set_option maxRecDepth 100000 in
set_option maxHeartbeats 2000000 in
theorem refName_any (s : ByteArray) (w : World) :
    Calls Tryz.prog 129 #[.string s] w fun e w' => e = .returned (.bool (nameS s.data.toList)) ∧ Below w.heap.size w w' := by
  obtain ⟨r, hr⟩ : ∃ r, nameS s.data.toList = r := ⟨_, rfl⟩
  rw [hr]
  have hlen : s.data.toList.length = s.size := by simp
  have H : Hid ((decide (s.data.toList ≠ []) && decide (s.data.toList.length ≤ 31) && s.data.toList.all okC && decide (firstC s.data.toList ≠ 39) && decide (lastC s.data.toList ≠ 39)) = r) := by unfold nameS at hr; exact hr
  clear hr
  by_cases h0 : s.size = 0
  · have hz : s.data.toList = [] := by
      cases h : s.data.toList with
      | nil => rfl
      | cons a b => rw [h] at hlen; simp at hlen; omega
    have e : r = false := by rw [← H.out, hz]; rfl
    subst e
    have t0 : ((s.size : Int) == 0) = true := by rw [h0]; rfl
    clear hlen h0
    go_enter Tryz.func129, Tryz.ntmps129
    go_wp2
    go_ret
    exact ⟨rfl, Below.refl _ _⟩
  have t0 : ((s.size : Int) == 0) = false := by simpa using h0
  by_cases hbig : 31 < s.size
  · have e : r = false := by rw [← H.out, hlen]; simp; omega
    subst e
    have t1 : (31 : Int) < (s.size : Int) := by omega
    clear hlen
    go_enter Tryz.func129, Tryz.ntmps129
    go_wp2
    go_ret
    exact ⟨rfl, Below.refl _ _⟩
  have t1 : ¬ ((31 : Int) < (s.size : Int)) := by omega
  have h1 : 0 < s.size := by omega
  have hls : s.size - 1 < s.size := by omega
  have H2 : Hid ((s.data.toList.all okC && decide (s[0].toNat ≠ 39) && decide (s[s.size - 1].toNat ≠ 39)) = r) := by
    have := H.out
    rw [hlen, firstC_eq s h1, lastC_eq s hls, show decide (s.data.toList ≠ []) = true from decide_eq_true (fun e => by rw [e] at hlen; simp at hlen; omega), show decide (s.size ≤ 31) = true from decide_eq_true (by omega)] at this
    show _ = _
    rw [← this]; simp
  have HLn : Hid (s.data.toList.length = s.size) := hlen
  clear H hlen
  have e1 : wrap64 ((s.size : Int) - 1) = ((s.size - 1 : Nat) : Int) := by rw [wrap64_id _ (by omega)]; omega
  by_cases c1 : s[0].toNat = 39
  · have d1 : ((s[0].toNat : Int) == 39) = true := by rw [c1]; rfl
    obtain rfl : r = false := by rw [← H2.out]; simp [c1]
    clear H2 c1 HLn h0
    go_enter Tryz.func129, Tryz.ntmps129
    go_wp2
    go_ret
    exact ⟨rfl, Below.refl _ _⟩
  have d1 : ((s[0].toNat : Int) == 39) = false := by simp; omega
  by_cases c2 : s[s.size - 1].toNat = 39
  · have d2 : ((s[s.size - 1].toNat : Int) == 39) = true := by rw [c2]; rfl
    obtain rfl : r = false := by rw [← H2.out]; simp [c2]
    clear H2 c1 c2 HLn h0
    go_enter Tryz.func129, Tryz.ntmps129
    go_wp2
    go_ret
    exact ⟨rfl, Below.refl _ _⟩
  have d2 : ((s[s.size - 1].toNat : Int) == 39) = false := by simp; omega
  have H3 : Hid (s.data.toList.all okC = r) := by have := H2.out; show _ = _; rw [← this]; simp [c1, c2]
  clear H2 c1 c2 h0
  go_enter Tryz.func129, Tryz.ntmps129
  go_wp2
  have HBs : Hid ((⟨#[58, 92, 47, 63, 42, 91, 93]⟩ : ByteArray).size = 7 ∧ (⟨#[58, 92, 47, 63, 42, 91, 93]⟩ : ByteArray).data.toList = barred) := ⟨rfl, rfl⟩
  generalize (⟨#[58, 92, 47, 63, 42, 91, 93]⟩ : ByteArray) = B at HBs ⊢
  have hB7 : B.size = 7 := HBs.out.1
  have hBi : B.size ≤ 7 := by omega
  have hBj : 7 ≤ B.size := by omega
  clear hB7
  go_loopw [4, 5] (fun v4 _ wr => ∃ k : Nat, k ≤ s.size ∧ v4 = .int .i64 (k : Int) ∧ Hid ((s.data.toList.take k).all okC = true) ∧ Hid (Below w.heap.size w wr)) (fun v4 _ _ => s.size - (intOf v4).toNat)
  case atStart => exact ⟨0, Nat.zero_le _, rfl, by show _ = _; simp, Below.refl _ _⟩
  case round =>
    obtain ⟨k, hk, rfl, HA, HW⟩ := hrel
    by_cases hlt : k < s.size
    · have HT : Hid ((s.data.toList.take (k + 1)).all okC = okC s[k]) := by
        have := HA.out
        show _ = _
        rw [take_snocB s k hlt, List.all_append, this]
        simp
      have HM : Hid (s[k] ∈ s.data.toList) := by show _ ∈ _; exact List.getElem_mem (by simpa using hlt)
      have HN : Hid (okC s[k] = false → r = false) := by
        intro hf
        rw [← H3.out]
        exact List.all_eq_false.2 ⟨_, HM.out, by rw [hf]; simp⟩
      have HO : Hid (okC s[k] = (decide (32 ≤ s[k].toNat) && decide (s[k].toNat ≤ 126) && decide (Lib.indexByte barred s[k] < 0))) := rfl
      by_cases c1 : 32 ≤ s[k].toNat
      rotate_left
      · have f1 : (s[k].toNat : Int) < 32 := by omega
        obtain rfl : r = false := HN.out (by rw [HO.out]; simp [c1])
        clear c1 HA HT HM HN HO
        go_wp2
        go_ret
        exact ⟨rfl, HW.out⟩
      have f1 : ¬ ((s[k].toNat : Int) < 32) := by omega
      by_cases c2 : s[k].toNat ≤ 126
      rotate_left
      · have f2 : (126 : Int) < (s[k].toNat : Int) := by omega
        obtain rfl : r = false := HN.out (by rw [HO.out]; simp [c2])
        clear c1 c2 HA HT HM HN HO
        go_wp2
        go_ret
        exact ⟨rfl, HW.out⟩
      have f2 : ¬ ((126 : Int) < (s[k].toNat : Int)) := by omega
      have HC : Hid (okC s[k] = decide (Lib.indexByte barred s[k] < 0)) := by have := HO.out; show _ = _; rw [this]; simp [c1, c2]
      clear HO c1 c2 HA HM
      obtain ⟨wo, hwo⟩ : ∃ wo, wo = wr := ⟨_, rfl⟩
      go_wp2_with fail
      go_loopw [5] (fun v5 wx => ∃ j : Nat, j ≤ B.size ∧ v5 = .int .i64 (j : Int) ∧ Hid (∀ i, i < j → barred[i]? ≠ some s[k]) ∧ Hid (Below w.heap.size w wx)) (fun v5 _ => B.size - (intOf v5).toNat)
      case atStart => exact ⟨0, Nat.zero_le _, rfl, fun i hi => by omega, HW⟩
      case round =>
        obtain ⟨j, hj, rfl, HJ, HW2⟩ := hrel
        by_cases hjl : j < B.size
        · have HBj : Hid (barred[j]? = some B[j]) := by
            have := HBs.out.2
            show _ = _
            rw [← this, List.getElem?_eq_getElem (by simpa using hjl)]
            rfl
          by_cases ce : s[k].toNat = B[j].toNat
          · have g1 : ((s[k].toNat : Int) == (B[j].toNat : Int)) = true := by rw [ce]; simp
            obtain rfl : r = false := HN.out (by
              rw [HC.out]
              refine decide_eq_false (fun h => (index_neg _ _).1 h j ?_)
              rw [HBj.out, UInt8.toNat_inj.1 ce])
            clear HN HT HC HJ ce HBj
            go_wp2_with fail
            go_quiet (fail)
            go_wp2
            go_ret
            exact ⟨rfl, below_drewN HW2.out _⟩
          · have g1 : ((s[k].toNat : Int) == (B[j].toNat : Int)) = false := by simp; omega
            have HJ2 : Hid (∀ i, i < j + 1 → barred[i]? ≠ some s[k]) := by
              intro i hi
              by_cases hij : i = j
              · rw [hij, HBj.out]
                intro h
                exact ce (by rw [Option.some.inj h])
              · exact HJ.out i (by omega)
            clear HN HT HC HJ ce HBj
            go_wp2_with fail
            go_quiet (fail)
            go_wp2
            go_roundw
            case rel => exact ⟨j + 1, by omega, by go_num, HJ2, below_drewN HW2.out _⟩
            case measure => simp [intOf]; omega
        · have g2 : ¬ ((j : Int) < (B.size : Int)) := by omega
          have HR : Hid ((s.data.toList.take (k + 1)).all okC = true) := by
            have := HT.out
            show _ = _
            rw [this, HC.out]
            refine decide_eq_true ((index_neg _ _).2 (fun i => ?_))
            by_cases hi : i < j
            · exact HJ.out i hi
            · rw [List.getElem?_eq_none (by
                have h7 : barred.length = 7 := rfl
                omega)]
              simp
          clear HN HT HC HJ
          go_wp2
          go_roundw
          case rel => exact ⟨k + 1, by omega, by go_num, HR, HW2⟩
          case measure => simp [intOf]; omega
    · have t2 : ¬ ((k : Int) < (s.size : Int)) := by omega
      obtain rfl : r = true := by
        have := HA.out
        rw [List.take_of_length_le (by have := HLn.out; omega)] at this
        rw [← H3.out]; exact this
      clear HA H3
      go_wp2
      go_ret
      exact ⟨rfl, HW.out⟩
end Go.Proofs.YtgihginfegckcaaGreatDoor
