import Derived.Test.YtnblbakjfpfipaaGreatDoorRws
import Derived.Test.YtnblbakjfpfipaaGreatDoorCox
/- A column's letters, the last one first. -/
namespace Go.Proofs.YtnblbakjfpfipaaGreatDoor
open Go.RowKit Go.Shelf

attribute [local go_sem] Oper.semAt_some

/-- The letters of a column, the last one first. -/
def backL (n : Nat) : List Nat := if h : n = 0 then [] else (65 + (n - 1) % 26) :: backL ((n - 1) / 26)
termination_by n
decreasing_by omega
theorem backL_pos (n : Nat) (h : n ≠ 0) : backL n = (65 + (n - 1) % 26) :: backL ((n - 1) / 26) := by
  conv => lhs; unfold backL
  rw [dif_neg h]
theorem backL_zero : backL 0 = [] := by unfold backL; rfl
theorem backL_len (n : Nat) (h : n ≤ 64) (h1 : 1 ≤ n) : (∃ a, backL n = [a]) ∨ ∃ a b, backL n = [a, b] := by
  rw [backL_pos n (by omega)]
  by_cases h2 : (n - 1) / 26 = 0
  · left; rw [h2, backL_zero]; exact ⟨_, rfl⟩
  · right
    rw [backL_pos _ h2, show ((n - 1) / 26 - 1) / 26 = 0 by omega, backL_zero]
    exact ⟨_, _, rfl⟩
theorem backL_two (n : Nat) (h : n ≤ 64) : (backL n).length ≤ 2 := by
  by_cases h0 : n = 0
  · rw [h0, backL_zero]; simp
  · rcases backL_len n h (by omega) with ⟨a, e⟩ | ⟨a, b, e⟩ <;> rw [e] <;> simp
def encB (x : Nat) : Array Value := #[.int .u8 (x : Int)]
set_option maxRecDepth 100000 in
set_option maxHeartbeats 1000000 in
theorem letters_in (n : Nat) (hn : 3 ≤ n) (DB col : Nat) (hcol : col ≤ 64) (w : World) (hDB : Row w DB 3 #[.int .i64 (col : Int)]) :
    SeqOwn Fence.wide n Tryz.prog 55 #[.pointer (some ⟨DB, 0, none⟩)] encB (fun _ => False) (fun k => k = DB) (fun pre x => pre.length ≤ 1 ∧ 65 ≤ x ∧ x ≤ 90) (fun xs => xs = backL col) w := by
  intro l J W hW hJ hO hY ⟨own0, h0⟩
  have hR0 : Row W DB 3 #[.int .i64 (col : Int)] := hDB.below hW hDB.lt
  have c0 := hR0.cell (i := 0) (v := .int .i64 (col : Int)) rfl
  refine callsIn_of_wp Tryz.func55 rfl trivial ?_ rfl
  simp only [Tryz.ntmps55, List.size_toArray, List.length_cons, List.length_nil, Nat.reduceAdd, Nat.reduceSub, Array.replicate_succ, Array.replicate_zero, List.push_toArray, List.append_toArray, List.nil_append, List.cons_append]
  gi_wp2
  gi_loopw [3] (fun v wr => ∃ (m : Nat) (pre : List Nat), m ≤ 64 ∧ v = .int .i64 (m : Int) ∧ Hid (backL col = pre ++ backL m) ∧ ∃ own, J pre own wr) (fun v _ => (intOf v).toNat)
  case atStart => exact ⟨col, [], hcol, rfl, rfl, own0, h0⟩
  case round =>
    obtain ⟨m, pre, hm, rfl, HP, own, hJs⟩ := hrel
    clear h0 c0
    by_cases h0 : m = 0
    · subst h0
      clear hY
      gi_wp2
      go_end0
      exact ⟨⟨_, rfl⟩, _, own, by have := HP.out; rw [this, backL_zero]; simp, hJs⟩
    · have hm0 : (0 : Int) < (m : Int) := by omega
      have HE : Hid (backL col = (pre ++ [65 + (m - 1) % 26]) ++ backL ((m - 1) / 26)) := by have := HP.out; show _ = _; rw [this, backL_pos m h0]; simp
      obtain ⟨fn, tmps, assign, body, hy, hR⟩ := hY _ (65 + (m - 1) % 26) own wr hJs ⟨by
        have h2 := backL_two col hcol
        rw [HE.out] at h2
        simp at h2
        omega, by omega, by omega⟩
      simp only [encB] at hy
      rw [show ((65 + (m - 1) % 26 : Nat) : Int) = 65 + ((m : Int) - 1) % 26 by omega] at hy
      have HQ : Hid (((m : Int) - 1) / 26 = (((m - 1) / 26 : Nat) : Int)) := by show _ = _; omega
      clear hY
      gi_wp2
      refine ⟨fun _ => by omega, hR.mono ?_⟩
      rintro e W3 ⟨rfl, ⟨own', hJ3⟩, hk3⟩
      gi_wp2
      go_roundw
      case rel => exact ⟨(m - 1) / 26, _, by omega, by rw [HQ.out], HE, own', hJ3⟩
      case measure => simp [intOf]; omega
end Go.Proofs.YtnblbakjfpfipaaGreatDoor
