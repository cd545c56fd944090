import Derived.Test.YtnhflnpjepiceaaGreatDoorWbsM
import Derived.Test.YtnhflnpjepiceaaGreatDoorCox
import Derived.Test.YtnhflnpjepiceaaGreatDoorMem
/- The digits of 0.005, one by one. -/
namespace Go.Proofs.YtnhflnpjepiceaaGreatDoor
open Go.RowKit Go.Shelf

attribute [local go_sem] Oper.semAt_some

end Go.Proofs.YtnhflnpjepiceaaGreatDoor
/- Print of 0.005. -/
namespace Go.Proofs.YtnhflnpjepiceaaGreatDoor
open Go.RowKit Go.Shelf

attribute [local go_sem] Oper.semAt_some

def outB : List (Int × Int) → List Int
  | [] => []
  | x :: xs => (if x.1 = -1 then [46] else []) ++ [x.2] ++ outB xs
end Go.Proofs.YtnhflnpjepiceaaGreatDoor
/- alive: the chapter's examples. -/
namespace Go.Proofs.YtnhflnpjepiceaaGreatDoor
open Go.RowKit

theorem w0 : within 0 := ⟨by decide, by decide⟩
end Go.Proofs.YtnhflnpjepiceaaGreatDoor
/- Right, of any Dec. -/
namespace Go.Proofs.YtnhflnpjepiceaaGreatDoor
open Go.RowKit

/-- A Dec is right. -/
def rightB (p q : Int) : Bool := if p = 0 then decide (q = 0) else decide (-18 ≤ q ∧ q ≤ 18) && (decide (p % 10 ≠ 0) || decide (q = 18))
theorem tmod_dec (p : Int) : decide (p % 10 ≠ 0) = (Int.tmod p 10 != 0) := by
  have h : p % 10 = 0 ↔ Int.tmod p 10 = 0 := ⟨fun h => Int.tmod_eq_zero_of_dvd (Int.dvd_of_emod_eq_zero h), fun h => Int.emod_eq_zero_of_dvd (Int.dvd_of_tmod_eq_zero h)⟩
  by_cases h1 : Int.tmod p 10 = 0
  · rw [decide_eq_false (by simpa using h.2 h1), h1]; rfl
  · rw [decide_eq_true (show p % 10 ≠ 0 from fun e => h1 (h.1 e))]; simp [h1]
theorem tmod_wrap (p : Int) : wrap64 (Int.tmod p 10) = Int.tmod p 10 := by
  have e1 := Int.natAbs_tmod p 10
  have e2 : (Int.tmod p 10).natAbs < 10 := by rw [e1]; exact Nat.mod_lt _ (by decide)
  unfold wrap64; omega
set_option maxRecDepth 100000 in
set_option maxHeartbeats 400000 in
theorem right_any (p q : Int) (hp : I64 p) (w : World) : Calls Tryz.prog 43 #[.agg #[.int .i64 p, .int .i64 q]] w fun r w' => r = .returned (.bool (rightB p q)) ∧ Below w.heap.size w w' := by
  have hb0 : ∀ o, Below w.heap.size w (w.alloc o) := fun o => (Below.refl _ w).alloc (Nat.le_refl _) _
  have hp1 := hp.1
  have hp2 := hp.2
  unfold rightB
  by_cases h0 : p = 0
  · subst h0
    rw [if_pos rfl]
    clear hp hp1 hp2
    by_cases hq : q = 0
    · subst hq
      go_enter Tryz.func43, Tryz.ntmps43
      go_wp2
      go_ret
      exact ⟨rfl, hb0 _⟩
    · have hq2 : (q == 0) = false := by simpa using hq
      rw [decide_eq_false hq]
      go_enter Tryz.func43, Tryz.ntmps43
      go_wp2
      go_ret
      exact ⟨by first | rfl | simp [hq2], hb0 _⟩
  · rw [if_neg h0, tmod_dec]
    have HI : ∀ b, decide (-18 ≤ q ∧ q ≤ 18) = b → Hid (decide (-18 ≤ q ∧ q ≤ 18) = b) := fun _ h => h
    have ht := tmod_wrap p
    clear hp
    cases hw : decide (-18 ≤ q ∧ q ≤ 18) with
    | false =>
      have HI := HI _ hw
      clear hw
      go_enter Tryz.func43, Tryz.ntmps43
      go_wp2_with (go_at_call 86; refine (within_any _ _).mono ?_; rintro _ w10 ⟨rfl, hw10⟩; rw [hw10, HI.out]; clear hw10 w10)
      go_ret
      exact ⟨rfl, hb0 _⟩
    | true =>
      have HI := HI _ hw
      clear hw
      by_cases h1 : Int.tmod p 10 = 0
      · by_cases h2 : q = 18
        · subst h2
          rw [h1]
          go_enter Tryz.func43, Tryz.ntmps43
          go_wp2_with (go_at_call 86; refine (within_any _ _).mono ?_; rintro _ w10 ⟨rfl, hw10⟩; rw [hw10, HI.out]; clear hw10 w10)
          go_ret
          exact ⟨by first | rfl | simp, hb0 _⟩
        · have h3 : (q == 18) = false := by simpa using h2
          rw [h1, decide_eq_false h2]
          go_enter Tryz.func43, Tryz.ntmps43
          go_wp2_with (go_at_call 86; refine (within_any _ _).mono ?_; rintro _ w10 ⟨rfl, hw10⟩; rw [hw10, HI.out]; clear hw10 w10)
          go_ret
          exact ⟨by first | rfl | simp [h3], hb0 _⟩
      · have h3 : (Int.tmod p 10 != 0) = true := by simpa using h1
        have h4 : (wrap64 (Int.tmod p 10) != 0) = true := by rw [ht]; exact h3
        rw [h3]
        go_enter Tryz.func43, Tryz.ntmps43
        go_wp2_with (go_at_call 86; refine (within_any _ _).mono ?_; rintro _ w10 ⟨rfl, hw10⟩; rw [hw10, HI.out]; clear hw10 w10)
        go_ret
        exact ⟨by first | rfl | simp, hb0 _⟩
end Go.Proofs.YtnhflnpjepiceaaGreatDoor
/- DecLaws: what its calls answer, and its walk. -/
namespace Go.Proofs.YtnhflnpjepiceaaGreatDoor
open Go.RowKit

def Rt (p q : Int) : Prop := p % 10 ≠ 0 ∨ (q = 18 ∧ p ≠ 0) ∨ (p = 0 ∧ q = 0)
theorem tell_rt {c e C E : Int} (h : tell c e = some (C, E)) : Rt C E := by
  obtain ⟨_, _, _, _, h5, h6, _⟩ := tell_some h
  unfold Rt
  by_cases h0 : C = 0
  · have hc := h6.2 h0
    subst hc
    have : (C, E) = (0, 0) := by simpa [tell, tellW_zero] using h.symm
    cases this
    exact .inr (.inr ⟨rfl, rfl⟩)
  · omega
theorem right_rt {p q : Int} (hq : within q) (hr : Rt p q) : rightB p q = true := by
  unfold rightB
  have h1 : -18 ≤ q ∧ q ≤ 18 := hq
  unfold Rt at hr
  by_cases h0 : p = 0
  · rw [if_pos h0]; exact decide_eq_true (by omega)
  · rw [if_neg h0, decide_eq_true h1]
    by_cases h2 : p % 10 ≠ 0
    · rw [decide_eq_true h2]; rfl
    · rw [decide_eq_true (show q = 18 by omega)]; simp
theorem VW_dec' (c e : Int) (he : within e) : V (-18) (sc (decW c e)) (decW c e).e = V (-18) c e := sc_dec (-18) c e he.1
end Go.Proofs.YtnhflnpjepiceaaGreatDoor
/- Cmp and Sign of any Decs, told by the numbers' signs. -/
namespace Go.Proofs.YtnhflnpjepiceaaGreatDoor
open Go.RowKit

set_option maxRecDepth 100000 in
set_option maxHeartbeats 1200000 in
theorem cmp_bad (c e c2 e2 : Int) (hc : I64 c) (hb : ¬ (within e ∧ within e2)) (w : World) : Calls Tryz.prog 79 #[dv c e, dv c2 e2] w fun r w' => r = .returned (.int .i64 0) ∧ Below w.heap.size w w' := by
  have hT : ∀ K W, Row W K 23 #[.int .i64 c, .int .i64 e, .int .i64 c2, .int .i64 e2] → Calls Tryz.prog 94 #[.slice (some ⟨K, 0, none⟩) 2 2] W fun r w' => Below W.heap.size W w' ∧ r = .returned (.tuple #[.slice none 0 0, .int .i64 1]) := fun K W hK => by
    by_cases he : within e
    · exact taken2_bad2 c e c2 e2 K W hc he (fun h => hb ⟨he, h⟩) hK
    · exact taken2_bad1 c e c2 e2 K W he hK
  clear hc hb
  unfold dv
  go_enter Tryz.func79, Tryz.ntmps79
  go_wp2_with fail
  obtain ⟨_, _, hK, _⟩ := three_rows w _ _ _ _ 23 23 23 (Below.refl _ (((w.alloc (.cells #[.int .i64 c, .int .i64 e] 23)).alloc (.cells #[.int .i64 c2, .int .i64 e2] 23)).alloc (.cells #[.int .i64 c, .int .i64 e, .int .i64 c2, .int .i64 e2] 23)))
  refine (hT _ _ hK).mono ?_
  rintro _ w1 ⟨h1, rfl⟩
  obtain ⟨_, _, _, hB⟩ := three_rows w w1 _ _ _ _ _ _ h1
  clear h1 hT hK
  go_wp2
  go_ret
  exact ⟨rfl, hB⟩
theorem pcmp_any (c e d f : Int) (hc : I64 c) (hd : I64 d) (w : World) : Calls Tryz.prog 79 #[.agg #[.int .i64 c, .int .i64 e], .agg #[.int .i64 d, .int .i64 f]] w fun r w' => r = .returned (.int .i64 (if (-18 ≤ e ∧ e ≤ 18) ∧ (-18 ≤ f ∧ f ≤ 18) then (V (-18) c e - V (-18) d f).sign else 0)) ∧ Below w.heap.size w w' := by
  by_cases h : (-18 ≤ e ∧ e ≤ 18) ∧ (-18 ≤ f ∧ f ≤ 18)
  · rw [if_pos h]
    have h1 : within e := h.1
    have h2 : within f := h.2
    have := cmp_ok c e d f hc h1 hd h2 w
    rw [cmp_eq _ _ (sh_dec c e h1.1 h1.2 hc.1 hc.2) (sh_dec d f h2.1 h2.2 hd.1 hd.2)] at this
    unfold VW at this
    rw [VW_dec' c e h1, VW_dec' d f h2] at this
    exact this
  · rw [if_neg h]
    exact cmp_bad c e d f hc h w
end Go.Proofs.YtnhflnpjepiceaaGreatDoor
