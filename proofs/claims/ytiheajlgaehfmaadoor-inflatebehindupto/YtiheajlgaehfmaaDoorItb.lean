/- The document's tables: Lit, Dist, FixedLit, FixedDist. -/
import Derived.Test.YtiheajlgaehfmaaDoorIsp
import Derived.Test.YtiheajlgaehfmaaDoorApp
import Derived.Test.YtiheajlgaehfmaaDoorAps
import Derived.Maps.AppendAt
namespace Go.Proofs.YtiheajlgaehfmaaDoor
open Go.RowKit

def tabRes : Option (Nat × Nat) → Value
  | none => .tuple #[.int .i64 0, .int .i64 0, .bool false]
  | some (b, x) => .tuple #[.int .i64 (b : Int), .int .i64 (x : Int), .bool true]

theorem litBits_le (s : Nat) (h : s ≤ 284) : litBits s ≤ 5 := by
  unfold litBits
  split <;> omega
theorem litBase_le (k : Nat) (h : k ≤ 28) : litBase k ≤ 3 + 32 * k := by
  induction k with
  | zero => simp [litBase]
  | succ k ih =>
    have := litBits_le (257 + k) (by omega)
    have h2 : 2 ^ litBits (257 + k) ≤ 2 ^ 5 := Nat.pow_le_pow_right (by omega) this
    rw [litBase]
    have := ih (by omega)
    omega
theorem distBits_le (s : Nat) (h : s ≤ 29) : distBits s ≤ 13 := by
  unfold distBits
  split <;> omega
theorem distBase_le (k : Nat) (h : k ≤ 29) : distBase k ≤ 1 + 8192 * k := by
  induction k with
  | zero => simp [distBase]
  | succ k ih =>
    have := distBits_le k (by omega)
    have h2 : 2 ^ distBits k ≤ 2 ^ 13 := Nat.pow_le_pow_right (by omega) this
    rw [distBase]
    have := ih (by omega)
    omega

set_option maxHeartbeats 400000 in
theorem litBits_any (s : Nat) (h1 : 257 ≤ s) (h2 : s ≤ 285) (w : World) : Calls Tryd.prog 26 #[.int .i64 (s : Int)] w fun e w' => e = .returned (.int .i64 (litBits s : Int)) ∧ w' = w := by
  by_cases h : s < 265
  · have HE : Hid (litBits s = 0) := by show _ = _; rw [litBits, if_pos h]
    have t : (s : Int) < 265 := by omega
    go_enter Tryd.func26, Tryd.ntmps26
    go_wp2
    go_ret
    exact ⟨by rw [HE.out]; rfl, rfl⟩
  · have HE : Hid (litBits s = (s - 261) / 4) := by show _ = _; rw [litBits, if_neg h]
    have t : ¬ (s : Int) < 265 := by omega
    go_enter Tryd.func26, Tryd.ntmps26
    go_wp2
    go_ret
    refine ⟨?_, rfl⟩
    rw [HE.out, show (((s - 261) / 4 : Nat) : Int) = ((s : Int) - 261) / 4 by omega]
    rfl
set_option maxHeartbeats 400000 in
theorem distBits_any (s : Nat) (h2 : s ≤ 29) (w : World) : Calls Tryd.prog 27 #[.int .i64 (s : Int)] w fun e w' => e = .returned (.int .i64 (distBits s : Int)) ∧ w' = w := by
  by_cases h : s < 4
  · have HE : Hid (distBits s = 0) := by show _ = _; rw [distBits, if_pos h]
    have t : (s : Int) < 4 := by omega
    go_enter Tryd.func27, Tryd.ntmps27
    go_wp2
    go_ret
    exact ⟨by rw [HE.out]; rfl, rfl⟩
  · have HE : Hid (distBits s = s / 2 - 1) := by show _ = _; rw [distBits, if_neg h]
    have t : ¬ (s : Int) < 4 := by omega
    go_enter Tryd.func27, Tryd.ntmps27
    go_wp2
    go_ret
    refine ⟨?_, rfl⟩
    rw [HE.out, show ((s / 2 - 1 : Nat) : Int) = (s : Int) / 2 - 1 by omega]
    rfl

set_option maxRecDepth 100000 in
set_option maxHeartbeats 1000000 in
theorem lit_r (r : Value) (sym : Int) (HR : Hid (tabRes (litS sym) = r)) (w : World) : Calls Tryd.prog 12 #[.int .i64 sym] w fun e w' => e = .returned r ∧ w' = w := by
  by_cases h : sym < 257 ∨ 285 < sym
  · have ER : Hid (r = .tuple #[.int .i64 0, .int .i64 0, .bool false]) := by
      show _ = _
      rw [← HR.out, litS, if_pos h]
      rfl
    rcases h with h | h
    · go_enter Tryd.func12, Tryd.ntmps12
      go_wp2
      exact bodyPost_ret (v := r) (by rw [ER.out]; simp [results, Tryd.f12, go_sem]) rfl ⟨rfl, rfl⟩
    · have t1 : ¬ sym < 257 := by omega
      go_enter Tryd.func12, Tryd.ntmps12
      go_wp2
      exact bodyPost_ret (v := r) (by rw [ER.out]; simp [results, Tryd.f12, go_sem]) rfl ⟨rfl, rfl⟩
  · have t1 : ¬ sym < 257 := by omega
    have t2 : ¬ 285 < sym := by omega
    obtain ⟨s, rfl⟩ := Int.eq_ofNat_of_zero_le (show 0 ≤ sym by omega)
    by_cases h5 : (s : Int) = 285
    · have ER : Hid (r = .tuple #[.int .i64 258, .int .i64 0, .bool true]) := by
        show _ = _
        rw [← HR.out, litS, if_neg h, if_pos h5]
        rfl
      have t3 : ((s : Int) == 285) = true := by simpa using h5
      clear h5
      go_enter Tryd.func12, Tryd.ntmps12
      go_wp2
      exact bodyPost_ret (v := r) (by rw [ER.out]; simp [results, Tryd.f12, go_sem]) rfl ⟨rfl, rfl⟩
    · have ER : Hid (r = .tuple #[.int .i64 (litBase (s - 257) : Int), .int .i64 (litBits s : Int), .bool true]) := by
        show _ = _
        rw [← HR.out, litS, if_neg h, if_neg h5]
        rfl
      have t3 : ((s : Int) == 285) = false := by simpa using h5
      have hs : s ≤ 284 := by omega
      have hs1 : 257 ≤ s := by omega
      go_enter Tryd.func12, Tryd.ntmps12
      go_wp2
      go_loop [5, 6] (fun v5 v6 => ∃ k : Nat, k ≤ s - 257 ∧ v6 = .int .i64 ((257 + k : Nat) : Int) ∧ v5 = .int .i64 (litBase k : Int)) (fun _ v6 => s - (intOf v6).toNat)
      case atStart => exact ⟨0, by omega, rfl, rfl⟩
      case round =>
        obtain ⟨k, hk, rfl, rfl⟩ := hrel
        by_cases hlt : k < s - 257
        · have t4 : (((257 + k : Nat) : Int)) < (s : Int) := by omega
          have hcall := litBits_any (257 + k) (by omega) (by omega) w
          have hb := litBits_le (257 + k) (by omega)
          have hbs := litBase_le k (by omega)
          have HN : Hid (litBase (k + 1) = litBase k + 2 ^ litBits (257 + k)) := rfl
          have HP : Hid (2 ^ litBits (257 + k) ≤ 2 ^ 5) := Nat.pow_le_pow_right (by omega) hb
          generalize litBits (257 + k) = q at hcall hb HN HP
          generalize litBase k = bk at hbs HN
          have hp : (2 : Int) ^ q ≤ 32 := by
            have := HP.out
            exact_mod_cast this
          have hp0 : 0 ≤ (2 : Int) ^ q := Int.pow_nonneg (by omega)
          have HV : Hid (((litBase (k + 1) : Nat) : Int) = (bk : Int) + 2 ^ q) := by
            show _ = _
            rw [HN.out]
            push_cast
            rfl
          have HC : Hid _ := hcall
          clear hcall HN HP
          go_wp2_with (go_at_call 26; refine Calls.mono HC.out ?_; rintro e w' ⟨rfl, rfl⟩)
          refine ⟨⟨k + 1, by omega, ?_, ?_⟩, ?_⟩
          · congr 1
          · rw [HV.out]
          · simp [intOf]; omega
        · obtain rfl : k = s - 257 := by omega
          have t4 : ¬ (((257 + (s - 257) : Nat) : Int)) < (s : Int) := by omega
          have HC : Hid _ := litBits_any s (by omega) (by omega) w
          go_wp2_with (go_at_call 26; refine Calls.mono HC.out ?_; rintro e w' ⟨rfl, rfl⟩)
          exact bodyPost_ret (v := r) (by rw [ER.out]; simp [results, Tryd.f12, go_sem]) rfl ⟨rfl, rfl⟩

set_option maxRecDepth 100000 in
set_option maxHeartbeats 1000000 in
theorem dist_r (r : Value) (sym : Int) (HR : Hid (tabRes (distS sym) = r)) (w : World) : Calls Tryd.prog 14 #[.int .i64 sym] w fun e w' => e = .returned r ∧ w' = w := by
  by_cases h : sym < 0 ∨ 29 < sym
  · have ER : Hid (r = .tuple #[.int .i64 0, .int .i64 0, .bool false]) := by
      show _ = _
      rw [← HR.out, distS, if_pos h]
      rfl
    rcases h with h | h
    · go_enter Tryd.func14, Tryd.ntmps14
      go_wp2
      exact bodyPost_ret (v := r) (by rw [ER.out]; simp [results, Tryd.f14, go_sem]) rfl ⟨rfl, rfl⟩
    · have t1 : ¬ sym < 0 := by omega
      go_enter Tryd.func14, Tryd.ntmps14
      go_wp2
      exact bodyPost_ret (v := r) (by rw [ER.out]; simp [results, Tryd.f14, go_sem]) rfl ⟨rfl, rfl⟩
  · have t1 : ¬ sym < 0 := by omega
    have t2 : ¬ 29 < sym := by omega
    obtain ⟨s, rfl⟩ := Int.eq_ofNat_of_zero_le (show 0 ≤ sym by omega)
    have ER : Hid (r = .tuple #[.int .i64 (distBase s : Int), .int .i64 (distBits s : Int), .bool true]) := by
      show _ = _
      rw [← HR.out, distS, if_neg h]
      rfl
    have hs : s ≤ 29 := by omega
    go_enter Tryd.func14, Tryd.ntmps14
    go_wp2
    go_loop [5, 6] (fun v5 v6 => ∃ k : Nat, k ≤ s ∧ v6 = .int .i64 (k : Int) ∧ v5 = .int .i64 (distBase k : Int)) (fun _ v6 => s - (intOf v6).toNat)
    case atStart => exact ⟨0, by omega, rfl, rfl⟩
    case round =>
      obtain ⟨k, hk, rfl, rfl⟩ := hrel
      by_cases hlt : k < s
      · have hcall := distBits_any k (by omega) w
        have hb := distBits_le k (by omega)
        have hbs := distBase_le k (by omega)
        have HN : Hid (distBase (k + 1) = distBase k + 2 ^ distBits k) := rfl
        have HP : Hid (2 ^ distBits k ≤ 2 ^ 13) := Nat.pow_le_pow_right (by omega) hb
        generalize distBits k = q at hcall hb HN HP
        generalize distBase k = bk at hbs HN
        have hp : (2 : Int) ^ q ≤ 8192 := by
          have := HP.out
          exact_mod_cast this
        have hp0 : 0 ≤ (2 : Int) ^ q := Int.pow_nonneg (by omega)
        have HV : Hid (((distBase (k + 1) : Nat) : Int) = (bk : Int) + 2 ^ q) := by
          show _ = _
          rw [HN.out]
          push_cast
          rfl
        have HC : Hid _ := hcall
        clear hcall HN HP
        go_wp2_with (go_at_call 27; refine Calls.mono HC.out ?_; rintro e w' ⟨rfl, rfl⟩)
        refine ⟨⟨k + 1, by omega, ?_, ?_⟩, ?_⟩
        · congr 1
        · rw [HV.out]
        · simp [intOf]; omega
      · obtain rfl : k = s := by omega
        have HC : Hid _ := distBits_any k (by omega) w
        go_wp2_with (go_at_call 27; refine Calls.mono HC.out ?_; rintro e w' ⟨rfl, rfl⟩)
        exact bodyPost_ret (v := r) (by rw [ER.out]; simp [results, Tryd.f14, go_sem]) rfl ⟨rfl, rfl⟩

theorem upto_fix (k : Nat) : upto fixLitAt (k + 1) = upto fixLitAt k ++ [fixLitAt k] := upto_succ _ _
set_option maxRecDepth 100000 in
set_option maxHeartbeats 2000000 in
theorem fixedLit_any (w : World) : Calls Tryd.prog 17 #[] w fun e w' => ∃ g c, e = .returned (.slice g 288 c) ∧ w'.ownsRow w.heap.size 3 1 (.slice g 288 c) 288 (fixLit.map (Value.int .i64)) ∧ Below w.heap.size w w' := by
  obtain ⟨i0, hi0, hz0, hz1, hz2⟩ := info_parts Tryd.info3
  go_enter Tryd.func17, Tryd.ntmps17
  go_wp2_with fail
  go_loopw [1, 2] (fun v1 v2 wr => ∃ k : Nat, k ≤ 288 ∧ v2 = .int .i64 (k : Int) ∧ wr.ownsRow w.heap.size 3 1 v1 k ((upto fixLitAt k).map (Value.int .i64)) ∧ Below w.heap.size w wr) (fun _ v2 _ => 288 - (intOf v2).toNat)
  case atStart => exact ⟨0, by omega, rfl, World.ownsRow_nil _ _ _ _, Below.refl _ _⟩
  case round =>
    obtain ⟨k, hk, rfl, hO, hB⟩ := hrel
    by_cases hlt : k < 288
    · obtain ⟨gu, cu, rfl⟩ := owns_form hO
      have hsz := hB.size
      have HF : Hid (∀ (o : Obj) (v' : Value) (w3 : World), w3.ownsRow w.heap.size 3 1 v' (k + 1) ((upto fixLitAt k).map (Value.int .i64) ++ [.int .i64 (fixLitAt k)]) → (wr.alloc o).grownBy w3 (Value.slice gu k cu).ownBlock →
          w3.ownsRow w.heap.size 3 1 v' (k + 1) ((upto fixLitAt (k + 1)).map (Value.int .i64)) ∧ Below w.heap.size w w3) := by
        intro o v' w3 h1 h2
        refine ⟨by rw [upto_fix]; simpa using h1, (hB.alloc hsz o).grown h2 (by rw [World.size_alloc]; omega) (fun r e => (hO.lt r e).1)⟩
      have hfa : fixLitAt k = if 256 ≤ k ∧ k < 280 then 7 else if 144 ≤ k ∧ k < 256 then 9 else 8 := rfl
      by_cases a1 : k < 144
      · have e : fixLitAt k = 8 := by rw [hfa, if_neg (by omega), if_neg (by omega)]
        rw [e] at HF
        have t1 : ¬ (144 : Int) ≤ k := by omega
        have t2 : ¬ (256 : Int) ≤ k := by omega
        clear hfa e
        go_wp2_with (at_builtin; refine wpList_append_own2 _ rfl (.tmp 20) (.tmp 22) 32 rfl w.heap.size 3 i0 (.int .i64 0) 1 8 Tryd.underlying32 hi0 hz0 hz1 hz2 rfl (by decide) _ _ _ rfl (hO.alloc _) ⟨wr.heap.size, 0, none⟩ 1 1 [.int .i64 8] rfl rfl (cell_one_new _ _ _) (by simp [Value.oneCell']) (by unfold maxLen; omega) (by omega) (by simp; omega) ?_)
        intro v' w3 hown' hgrow _
        have HG : Hid _ := HF.out _ v' w3 hown' hgrow
        go_wp2
        exact ⟨⟨k + 1, by omega, by simp, HG.out.1, HG.out.2⟩, by simp [intOf]; omega⟩
      · by_cases a2 : k < 256
        · have e : fixLitAt k = 9 := by rw [hfa, if_neg (by omega), if_pos (by omega)]
          rw [e] at HF
          have t1 : (144 : Int) ≤ k := by omega
          have t2 : ¬ (256 : Int) ≤ k := by omega
          have t3 : (k : Int) < 256 := by omega
          clear hfa e
          go_wp2_with (at_builtin; refine wpList_append_own2 _ rfl (.tmp 20) (.tmp 22) 32 rfl w.heap.size 3 i0 (.int .i64 0) 1 8 Tryd.underlying32 hi0 hz0 hz1 hz2 rfl (by decide) _ _ _ rfl (hO.alloc _) ⟨wr.heap.size, 0, none⟩ 1 1 [.int .i64 9] rfl rfl (cell_one_new _ _ _) (by simp [Value.oneCell']) (by unfold maxLen; omega) (by omega) (by simp; omega) ?_)
          intro v' w3 hown' hgrow _
          have HG : Hid _ := HF.out _ v' w3 hown' hgrow
          go_wp2
          exact ⟨⟨k + 1, by omega, by simp, HG.out.1, HG.out.2⟩, by simp [intOf]; omega⟩
        · by_cases a3 : k < 280
          · have e : fixLitAt k = 7 := by rw [hfa, if_pos (by omega)]
            rw [e] at HF
            have t1 : (144 : Int) ≤ k := by omega
            have t2 : (256 : Int) ≤ k := by omega
            have t3 : ¬ (k : Int) < 256 := by omega
            have t4 : (k : Int) < 280 := by omega
            clear hfa e
            go_wp2_with (at_builtin; refine wpList_append_own2 _ rfl (.tmp 20) (.tmp 22) 32 rfl w.heap.size 3 i0 (.int .i64 0) 1 8 Tryd.underlying32 hi0 hz0 hz1 hz2 rfl (by decide) _ _ _ rfl (hO.alloc _) ⟨wr.heap.size, 0, none⟩ 1 1 [.int .i64 7] rfl rfl (cell_one_new _ _ _) (by simp [Value.oneCell']) (by unfold maxLen; omega) (by omega) (by simp; omega) ?_)
            intro v' w3 hown' hgrow _
            have HG : Hid _ := HF.out _ v' w3 hown' hgrow
            go_wp2
            exact ⟨⟨k + 1, by omega, by simp, HG.out.1, HG.out.2⟩, by simp [intOf]; omega⟩
          · have e : fixLitAt k = 8 := by rw [hfa, if_neg (by omega), if_neg (by omega)]
            rw [e] at HF
            have t1 : (144 : Int) ≤ k := by omega
            have t2 : (256 : Int) ≤ k := by omega
            have t3 : ¬ (k : Int) < 256 := by omega
            have t4 : ¬ (k : Int) < 280 := by omega
            clear hfa e
            go_wp2_with (at_builtin; refine wpList_append_own2 _ rfl (.tmp 20) (.tmp 22) 32 rfl w.heap.size 3 i0 (.int .i64 0) 1 8 Tryd.underlying32 hi0 hz0 hz1 hz2 rfl (by decide) _ _ _ rfl (hO.alloc _) ⟨wr.heap.size, 0, none⟩ 1 1 [.int .i64 8] rfl rfl (cell_one_new _ _ _) (by simp [Value.oneCell']) (by unfold maxLen; omega) (by omega) (by simp; omega) ?_)
            intro v' w3 hown' hgrow _
            have HG : Hid _ := HF.out _ v' w3 hown' hgrow
            go_wp2
            exact ⟨⟨k + 1, by omega, by simp, HG.out.1, HG.out.2⟩, by simp [intOf]; omega⟩
    · obtain rfl : k = 288 := by omega
      obtain ⟨gu, cu, rfl⟩ := owns_form hO
      go_wp2
      go_ret
      exact ⟨gu, cu, rfl, hO, hB⟩
set_option maxRecDepth 100000 in
set_option maxHeartbeats 2000000 in
theorem fixedDist_any (w : World) : Calls Tryd.prog 19 #[] w fun e w' => ∃ g c, e = .returned (.slice g 32 c) ∧ w'.ownsRow w.heap.size 3 1 (.slice g 32 c) 32 (fixDist.map (Value.int .i64)) ∧ Below w.heap.size w w' := by
  obtain ⟨i0, hi0, hz0, hz1, hz2⟩ := info_parts Tryd.info3
  go_enter Tryd.func19, Tryd.ntmps19
  go_wp2_with fail
  go_loopw [1, 2] (fun v1 v2 wr => ∃ k : Nat, k ≤ 32 ∧ v2 = .int .i64 (k : Int) ∧ wr.ownsRow w.heap.size 3 1 v1 k ((upto (fun _ => (5 : Int)) k).map (Value.int .i64)) ∧ Below w.heap.size w wr) (fun _ v2 _ => 32 - (intOf v2).toNat)
  case atStart => exact ⟨0, by omega, rfl, World.ownsRow_nil _ _ _ _, Below.refl _ _⟩
  case round =>
    obtain ⟨k, hk, rfl, hO, hB⟩ := hrel
    by_cases hlt : k < 32
    · obtain ⟨gu, cu, rfl⟩ := owns_form hO
      have hsz := hB.size
      have HF : Hid (∀ (o : Obj) (v' : Value) (w3 : World), w3.ownsRow w.heap.size 3 1 v' (k + 1) ((upto (fun _ => (5 : Int)) k).map (Value.int .i64) ++ [.int .i64 5]) → (wr.alloc o).grownBy w3 (Value.slice gu k cu).ownBlock →
          w3.ownsRow w.heap.size 3 1 v' (k + 1) ((upto (fun _ => (5 : Int)) (k + 1)).map (Value.int .i64)) ∧ Below w.heap.size w w3) := by
        intro o v' w3 h1 h2
        refine ⟨by rw [upto_succ]; simpa using h1, (hB.alloc hsz o).grown h2 (by rw [World.size_alloc]; omega) (fun r e => (hO.lt r e).1)⟩
      go_wp2_with (at_builtin; refine wpList_append_own2 _ rfl (.tmp 7) (.tmp 8) 32 rfl w.heap.size 3 i0 (.int .i64 0) 1 8 Tryd.underlying32 hi0 hz0 hz1 hz2 rfl (by decide) _ _ _ rfl (hO.alloc _) ⟨wr.heap.size, 0, none⟩ 1 1 [.int .i64 5] rfl rfl (cell_one_new _ _ _) (by simp [Value.oneCell']) (by unfold maxLen; omega) (by omega) (by simp; omega) ?_)
      intro v' w3 hown' hgrow _
      have HG : Hid _ := HF.out _ v' w3 hown' hgrow
      go_wp2
      exact ⟨⟨k + 1, by omega, by simp, HG.out.1, HG.out.2⟩, by simp [intOf]; omega⟩
    · obtain rfl : k = 32 := by omega
      obtain ⟨gu, cu, rfl⟩ := owns_form hO
      go_wp2
      go_ret
      exact ⟨gu, cu, rfl, hO, hB⟩
end Go.Proofs.YtiheajlgaehfmaaDoor
