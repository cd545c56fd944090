import Derived.Test.YtgihginfegckcaaGreatDoorCzWpcM
import Derived.Test.YtgihginfegckcaaGreatDoorCzWpcM
import Derived.Test.YtgihginfegckcaaGreatDoorCzWpcM
import Derived.Test.YtgihginfegckcaaGreatDoorCzWpcM
import Derived.Test.YtgihginfegckcaaGreatDoorCzWpcM
import Derived.Test.YtgihginfegckcaaGreatDoorCzWpcM
import Derived.Test.YtgihginfegckcaaGreatDoorCzWpcM
import Derived.Test.YtgihginfegckcaaGreatDoorMnu
import Derived.Test.YtgihginfegckcaaGreatDoorDzRpw
import Derived.Test.YtgihginfegckcaaGreatDoorMwdM
import Derived.Test.YtgihginfegckcaaGreatDoorCzRppM
/- lex's document: a token, whole. -/
namespace Go.Proofs.YtgihginfegckcaaGreatDoor
open Go.RowKit

theorem refC_holds : RefC := fun l W hl => refParse_all l (by omega) W
theorem qd_no {l : List UInt8} {i : Nat} {c : UInt8} (hi : i < l.length) (hc : atB l i = c) (hc0 : c ≠ 0) (hl : l.length ≤ 1000000) (h : quotedN (l.drop i) = 0) (W : World) :
    Hid (Calls Tryz.prog 38 #[.string (bs l), .int .i64 (i : Int)] W fun e w' => e = .returned (.tuple #[.string (bs []), .int .i64 ((0 : Nat) : Int), .bool false]) ∧ Below W.heap.size W w') := by
  have := qd_any l i hi (by rw [hc]; exact hc0) hl W
  rw [restQ_quoted hi, if_pos h] at this
  exact this
theorem qd_yes {l : List UInt8} {i : Nat} {c : UInt8} (hi : i < l.length) (hc : atB l i = c) (hc0 : c ≠ 0) (hl : l.length ≤ 1000000) (h : quotedN (l.drop i) ≠ 0) (W : World) :
    Hid (Calls Tryz.prog 38 #[.string (bs l), .int .i64 (i : Int)] W fun e w' => e = .returned (.tuple #[.string (bs (undQ c (l.drop (i + 1)))), .int .i64 ((i + quotedN (l.drop i) : Nat) : Int), .bool true]) ∧ Below W.heap.size W w') := by
  have := qd_any l i hi (by rw [hc]; exact hc0) hl W
  rw [restQ_quoted hi, if_neg h, hc] at this
  unfold qdV at this
  rw [if_neg (by omega), decide_eq_false (by omega)] at this
  exact this
theorem one_any (l : List UInt8) (i : Nat) (hi : i < l.length) (hl : l.length ≤ 1000000) (w : World) :
    Calls Tryz.prog 22 #[.string (bs l), .int .i64 (i : Int)] w fun e w' => OneP i (oneR (l.drop i)) e ∧ Below w.heap.size w w' := by
  have hi2 : i < (bs l).size := by rw [bs_size]; exact hi
  have hsz : (bs l).size ≤ 1000000 := by rw [bs_size]; exact hl
  have hsl := bs_size l
  obtain ⟨a, ha⟩ : ∃ a, atB l i = a := ⟨_, rfl⟩
  have hgb : (bs l)[i]'hi2 = a := (atB_bs hi2).trans ha
  have hg : (((bs l)[i]'hi2).toNat : Int) = (a.toNat : Int) := by rw [hgb]
  have hdr : l.drop i = a :: l.drop (i + 1) := by rw [drop_at hi, ha]
  have A35 : ∀ b, digL.contains a = b → ∀ W, Hid (Calls Tryz.prog 35 #[.int .u8 (a.toNat : Int)] W fun e w' => e = .returned (.bool b) ∧ w' = W) := by rintro b rfl W; exact dig_any a W
  have A43 : ∀ b, ltrL.contains a = b → ∀ W, Hid (Calls Tryz.prog 43 #[.int .u8 (a.toNat : Int)] W fun e w' => e = .returned (.bool b) ∧ w' = W) := by rintro b rfl W; exact ltr_any a W
  have hone : ∀ r, oneR (l.drop i) = r → oneR (a :: l.drop (i + 1)) = r := fun r h => by rw [← hdr]; exact h
  cases hd : digL.contains a
  rotate_left
  · have e : oneR (l.drop i) = numberR (l.drop i) := by rw [hdr]; unfold oneR; simp only; rw [if_pos hd]
    rw [e]
    have hF := numF_le (Nat.le_of_lt hi)
    have hk := numF_eq (Nat.le_of_lt hi)
    have hcv : cutL l i (numF l i) = (l.drop i).take (numN (l.drop i)) := by rw [hk, cut_take]
    have h37 : ∀ W, Hid (Calls Tryz.prog 37 #[.string (bs ((l.drop i).take (numN (l.drop i))))] W fun e w' => e = .returned (.tuple #[.agg #[.int .i64 (decT ((l.drop i).take (numN (l.drop i)))).1, .int .i64 (decT ((l.drop i).take (numN (l.drop i)))).2.1], .int .i64 (decT ((l.drop i).take (numN (l.drop i)))).2.2]) ∧ Below W.heap.size W w') := fun W => by
      rw [← decPv_eq]; exact rparse_any _ W
    refine Calls.mono (on_D l i a w hi2 hg (numF l i) _ _ _ _ hF.1 (by omega) (by rw [bs_cut, hcv]) (A35 _ hd) (fun W => num_any l i hl (Nat.le_of_lt hi) W) h37) ?_
    rintro _ w' ⟨rfl, hB⟩
    exact ⟨⟨_, _, rfl, fun _ => ⟨rfl, hk⟩⟩, hB⟩
  · by_cases h34 : a = 34
    · have t34 : ((a.toNat : Int) == 34) = true := by rw [h34]; rfl
      have e : oneR (l.drop i) = textR (l.drop i) := by rw [hdr]; unfold oneR; simp only [hd, Bool.false_eq_true, if_false]; rw [if_pos h34]
      rw [e]
      unfold textR
      by_cases h0 : quotedN (l.drop i) = 0
      · rw [if_pos h0]
        refine Calls.mono (on_Q0 l i a w hi2 hg _ _ (A35 _ hd) t34 (qd_no hi ha (by rw [h34]; decide) hl h0)) ?_
        rintro _ w' ⟨rfl, hB⟩
        exact ⟨⟨_, _, rfl, fun h => by cases h⟩, hB⟩
      · rw [if_neg h0]
        have hU : innerL (l.drop i) = undQ a (l.drop (i + 1)) := by
          rw [hdr, h34]
          cases hq : qEnd 34 (l.drop (i + 1)) with
          | none => rw [hdr, h34] at h0; unfold quotedN at h0; exact absurd (by simp only [hq]) h0
          | some k => exact inner_und hq
        rw [hU]
        have h38 := qd_yes hi ha (by rw [h34]; decide) hl h0
        by_cases hT : 255 < (undQ a (l.drop (i + 1))).length
        · rw [if_pos hT]
          refine Calls.mono (on_Q1 l i a w hi2 hg _ _ (A35 _ hd) t34 h38 (by rw [bs_size]; exact hT)) ?_
          rintro _ w' ⟨rfl, hB⟩
          exact ⟨⟨_, _, rfl, fun h => by cases h⟩, hB⟩
        · rw [if_neg hT]
          refine Calls.mono (on_Q2 l i a w hi2 hg _ _ _ (A35 _ hd) t34 h38 (by rw [bs_size]; omega) (fun W => xml_any _ (by rw [bs_size]; omega) W)) ?_
          rintro _ w' ⟨rfl, hB⟩
          exact ⟨⟨_, _, rfl, fun _ => ⟨rfl, rfl⟩⟩, hB⟩
    · have t34 : ((a.toNat : Int) == 34) = false := tb (n := 34) (by omega) (decide_eq_false h34)
      by_cases h39 : a = 39
      · have t39 : ((a.toNat : Int) == 39) = true := by rw [h39]; rfl
        have e : oneR (l.drop i) = onSheetR (l.drop i) (quotedN (l.drop i)) := by rw [hdr]; unfold oneR; simp only [hd, Bool.false_eq_true, if_false]; rw [if_neg h34, if_pos h39]
        rw [e]
        have KB : OneP i (Tk.zero, 0, 40) (tokR Tk.zero 0 40) := ⟨_, _, rfl, fun h => by cases h⟩
        by_cases h0 : quotedN (l.drop i) = 0
        · have e2 : onSheetR (l.drop i) (quotedN (l.drop i)) = (Tk.zero, 0, 40) := by
            rw [h0]; unfold onSheetR
            rw [List.drop_zero, pre_at l i 33 (by decide), ha, h39]; rfl
          rw [e2]
          refine Calls.mono (on_A0 l i a w hi2 hg _ _ (A35 _ hd) t34 t39 (qd_no hi ha (by rw [h39]; decide) hl h0)) ?_
          rintro _ w' ⟨rfl, hB⟩
          exact ⟨KB, hB⟩
        · have h38 := qd_yes hi ha (by rw [h39]; decide) hl h0
          have hbd := quotedN_bd (l.drop i)
          simp only [List.length_drop] at hbd
          obtain ⟨n, hn⟩ : ∃ n, quotedN (l.drop i) = n := ⟨_, rfl⟩
          rw [hn] at h38 hbd h0 ⊢
          have h40 : ∀ W, Hid (Calls Tryz.prog 40 #[.string (bs l), .int .i64 ((i + n : Nat) : Int)] W fun e w' => e = .returned (.int .u8 ((atB l (i + n)).toNat : Int)) ∧ w' = W) := fun W => atx_any l (i + n) W
          have hp := pre_at l (i + n) 33 (by decide)
          rw [← List.drop_drop] at hp
          by_cases h33 : atB l (i + n) = 33
          · rw [decide_eq_true h33] at hp
            have tz : (((atB l (i + n)).toNat : Int) != 33) = false := by rw [h33]; rfl
            have hkl : i + n < l.length := by
              by_cases h : i + n < l.length
              · exact h
              · rw [atB_ge (by omega)] at h33; cases h33
            refine Calls.mono (on_A2 l i a w hi2 hg _ _ _ _ _ _ (by omega) (A35 _ hd) t34 t39 h38 h40 tz (by rintro v rfl W; exact while_c l (i + n + 1) (by omega) (by omega) W) (fun W => sheet_tok refC_holds l i n (by omega) hl hp W)) ?_
            rintro _ w' ⟨rfl, hB⟩
            exact ⟨sheet_oneP hp, hB⟩
          · rw [decide_eq_false h33] at hp
            have tz : (((atB l (i + n)).toNat : Int) != 33) = true := by have h := tb (n := 33) (by omega) (decide_eq_false h33); rw [bne, show ((33 : Int)) = ((33 : Nat) : Int) from rfl, h]; rfl
            have e2 : onSheetR (l.drop i) n = (Tk.zero, 0, 40) := by unfold onSheetR; rw [hp]; rfl
            rw [e2]
            refine Calls.mono (on_A1 l i a w hi2 hg _ _ _ (A35 _ hd) t34 t39 h38 h40 tz) ?_
            rintro _ w' ⟨rfl, hB⟩
            exact ⟨KB, hB⟩
      · have t39 : ((a.toNat : Int) == 39) = false := tb (n := 39) (by omega) (decide_eq_false h39)
        have hbg := bgn_T a
        cases h43 : ltrL.contains a
        rotate_left
        · have e : oneR (l.drop i) = runR (l.drop i) := by
            rw [hdr]; unfold oneR; simp only [hd, Bool.false_eq_true, if_false]
            rw [if_neg h34, if_neg h39, if_pos (by rw [hbg, h43]; rfl)]
          rw [e]
          exact on_W1 l i a w hi2 hg _ (A35 _ hd) t34 t39 (A43 _ h43) (fun W => wordX_any refC_holds l i hi hl W)
        · by_cases h36 : a = 36
          · have e : oneR (l.drop i) = runR (l.drop i) := by
              rw [hdr]; unfold oneR; simp only [hd, Bool.false_eq_true, if_false]
              rw [if_neg h34, if_neg h39, if_pos (by rw [hbg, h36]; rfl)]
            rw [e]
            subst h36
            exact on_W2 l i w hi2 hg _ (A35 _ hd) (A43 _ h43) (fun W => wordX_any refC_holds l i hi hl W)
          · have t36 : ((a.toNat : Int) == 36) = false := tb (n := 36) (by omega) (decide_eq_false h36)
            have hb0 : bgnL.contains a = false := by
              rw [hbg, h43, Bool.false_or]
              exact decide_eq_false (fun h => h36 (UInt8.toNat_inj.1 h))
            have e : oneR (l.drop i) = if Lib.hasPrefix (l.drop i) lostL then (⟨6, 0, [], 0, 0, Rf.zero⟩, 5, 0) else match markR (l.drop i) with
                | some m => ((⟨5, 0, m, 0, 0, Rf.zero⟩ : Tk), m.length, (0 : Int))
                | none => (Tk.zero, 0, 40) := by
              rw [hdr]; unfold oneR; simp only [hd, hb0, Bool.false_eq_true, if_false]
              rw [if_neg h34, if_neg h39]
              rfl
            rw [e]
            by_cases h5 : i + 5 ≤ l.length
            · have hpc := pre_cut l lostL i
              rw [show lostL.length = 5 from rfl] at hpc
              have hbe := bs_eq (cutL l i (i + 5)) lostL
              rw [show (bs lostL).toList = [35, 82, 69, 70, 33] by rw [bs_toList]; rfl] at hbe
              by_cases hx : cutL l i (i + 5) = lostL
              · rw [decide_eq_true hx] at hpc
                rw [hpc]
                refine Calls.mono (on_B l i a w hi2 hg hsz _ rfl (by rw [bs_cut, hx]; rfl) (A35 _ hd) t34 t39 (A43 _ h43) t36 (by omega)) ?_
                rintro _ w' ⟨rfl, hB⟩
                exact ⟨⟨_, _, rfl, fun _ => ⟨rfl, rfl⟩⟩, hB⟩
              · rw [decide_eq_false hx] at hpc hbe
                rw [hpc]
                exact on_M2 l i a w hi2 hg hsz _ _ rfl (bs_cut l i (i + 5)) _ (A35 _ hd) t34 t39 (A43 _ h43) t36 (by omega) hbe (fun W => mk_any l i hi hl W)
            · have hp : Lib.hasPrefix (l.drop i) lostL = false := pre_short h5 (Nat.le_of_lt hi)
              rw [hp]
              exact on_M1 l i a w hi2 hg _ (A35 _ hd) t34 t39 (A43 _ h43) t36 (by omega) (fun W => mk_any l i hi hl W)
end Go.Proofs.YtgihginfegckcaaGreatDoor
