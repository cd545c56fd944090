/- found: the reference that a text is written for. -/
import Derived.Test.YtnblbakjfpfipaaGreatDoorWrp
import Derived.Test.YtnblbakjfpfipaaGreatDoorWco
import Derived.Lib.AtoiErrMem
namespace Go.Proofs.YtnblbakjfpfipaaGreatDoor
open Go.RowKit

/-- The number that digits are. -/
def rowN (l : List UInt8) : Nat := l.foldl (fun a b => a * 10 + (b.toNat - 48)) 0
theorem decFrom_all : ∀ (l : List UInt8) (acc : Nat), (∀ b ∈ l, 48 ≤ b.toNat ∧ b.toNat ≤ 57) → Lib.decFrom acc l = some (l.foldl (fun a b => a * 10 + (b.toNat - 48)) acc)
  | [], acc, _ => rfl
  | b :: l, acc, h => by
    have hb := h b (by simp)
    unfold Lib.decFrom Lib.digitVal
    rw [if_pos hb]
    exact decFrom_all l _ (fun c hc => h c (by simp [hc]))
theorem dig_bounds {b : UInt8} (h : digL.contains b = true) : 48 ≤ b.toNat ∧ b.toNat ≤ 57 := by
  simp [digL] at h
  rcases h with rfl | rfl | rfl | rfl | rfl | rfl | rfl | rfl | rfl | rfl <;> decide
theorem ahead_mem {l cs : List UInt8} {b : UInt8} (h : b ∈ aheadL l cs) : cs.contains b = true := by
  unfold aheadL at h
  induction l with
  | nil => simp at h
  | cons a l ih =>
    rw [List.takeWhile_cons] at h
    split at h
    · rcases List.mem_cons.1 h with rfl | h
      · assumption
      · exact ih h
    · simp at h
theorem atoi_dig {l : List UInt8} (h0 : l ≠ []) (h : ∀ b ∈ l, 48 ≤ b.toNat ∧ b.toNat ≤ 57) : Lib.atoi l = some ((rowN l : Nat) : Int) := by
  cases l with
  | nil => exact absurd rfl h0
  | cons b r =>
    have hb := h b (by simp)
    show (if (b == 45) = true then (Lib.decNat r).map (fun (m : Nat) => -(m : Int)) else if (b == 43) = true then (Lib.decNat r).map (fun (m : Nat) => (m : Int)) else (Lib.decNat (b :: r)).map (fun (m : Nat) => (m : Int))) = _
    rw [if_neg (by intro e; rw [beq_iff_eq.1 e] at hb; exact absurd hb (by decide)), if_neg (by intro e; rw [beq_iff_eq.1 e] at hb; exact absurd hb (by decide))]
    unfold Lib.decNat
    rw [if_neg (by simp), decFrom_all _ 0 h]
    rfl
/-- The reference that is written; none: there is no such column or row. -/
def foundR (s : ByteArray) (p : Pl) : Option Rf := if (colOf p.letters).isSome && rowB (rowN p.digits) then some ⟨s, ((colOf p.letters).getD 0 : Nat), (rowN p.digits : Nat), p.ac, p.ar⟩ else none

set_option maxRecDepth 100000 in
set_option maxHeartbeats 2000000 in
theorem found_raw (s : ByteArray) (L D : List UInt8) (ac ar : Bool) (hL : L.length ≤ 3) (hD : D.length ≤ 7) (n : Int) (hn : Lib.atoi D = some n) (w : World) :
    Calls Tryz.prog 42 #[.agg #[.string s, .string (bs L), .string (bs D), .bool ac, .bool ar]] w fun e w' => e = .returned (.tuple #[if (colOf L).isSome && rowB n then .agg #[.string s, .int .i64 ((colOf L).getD 0 : Nat), .int .i64 n, .bool ac, .bool ar] else .agg #[.string .empty, .int .i64 0, .int .i64 0, .bool false, .bool false], .bool ((colOf L).isSome && rowB n)]) ∧ Below w.heap.size w w' := by
  have HC : ∀ W, Hid _ := fun W => col_any L (by omega) W
  have HA : ∀ W, Hid _ := fun W => Tryz.strconv_Atoi (bs D) n (by rw [bs_size]; omega) hn W
  have HR : ∀ W, Hid _ := fun W => row_any n W
  clear hn hL hD
  generalize colOf L = o at HC ⊢
  generalize rowB n = q at HR ⊢
  go_enter Tryz.func42, Tryz.ntmps42
  go_wp2_with fail
  refine Calls.mono (HC _).out ?_
  rintro _ w1 ⟨rfl, rfl⟩
  go_wp2_with fail
  refine Calls.mono (HA _).out ?_
  rintro _ w1 ⟨rfl, t, hw1⟩
  obtain ⟨hA, hZ, hB⟩ := two_rows w w1 _ _ _ _ (by rw [hw1]; exact Lib.bytesWorld_below _ _ _)
  clear hw1 HC HA
  obtain ⟨c0, c1, c2, c3, c4⟩ := hA.five
  obtain ⟨d0, d1, d2, d3, d4⟩ := hZ.five
  have z1 := hA.frozen
  have z2 := hZ.frozen
  cases o with
  | none =>
    clear HR
    go_wp2
    refine bodyPost_ret (ret_two rfl (g := w.heap.size + 1) rfl rfl (load23 (Row.set5 hZ _ _ _ _ _) rfl)) rfl ⟨rfl, ?_⟩
    exact below_set5 hB (by omega) _ _ _ _ _
  | some c =>
    go_wp2_with fail
    refine Calls.mono (HR _).out ?_
    rintro _ w0 ⟨rfl, rfl⟩
    clear HR
    cases q
    · go_wp2
      refine bodyPost_ret (ret_two rfl (g := w.heap.size + 1) rfl rfl (load23 (Row.set5 hZ _ _ _ _ _) rfl)) rfl ⟨rfl, ?_⟩
      exact below_set5 hB (by omega) _ _ _ _ _
    · go_wp2
      refine bodyPost_ret (ret_two rfl (g := w.heap.size + 1) rfl rfl (load23 (Row.set5 hZ _ _ _ _ _) rfl)) rfl ⟨rfl, ?_⟩
      exact below_set5 hB (by omega) _ _ _ _ _
theorem found_any (s : ByteArray) (l : List UInt8) (h : (placeP l).ok = true) (w : World) :
    Calls Tryz.prog 42 #[wrV s (placeP l)] w fun e w' => e = .returned (.tuple #[((foundR s (placeP l)).getD Rf.zero).v, .bool (foundR s (placeP l)).isSome]) ∧ Below w.heap.size w w' := by
  have h2 : lettersOk (placeP l).letters = true ∧ digitsOk (placeP l).digits = true := by
    unfold Pl.ok at h
    simp only [Bool.and_eq_true] at h
    exact h.1
  have hd0 : (placeP l).digits ≠ [] := by
    intro e
    have := h2.2
    rw [e] at this
    exact absurd this (by decide)
  have hd7 : (placeP l).digits.length ≤ 7 := by
    have := h2.2
    unfold digitsOk at this
    simp only [Bool.and_eq_true, decide_eq_true_eq] at this
    exact this.1.2
  have hl3 : (placeP l).letters.length ≤ 3 := by
    have := h2.1
    unfold lettersOk at this
    simp only [Bool.and_eq_true, decide_eq_true_eq] at this
    exact this.2
  have hn := atoi_dig hd0 (fun b hb => dig_bounds (ahead_mem (l := Lib.trimPrefix (behindL (Lib.trimPrefix l [36]) capL) [36]) (cs := digL) hb))
  generalize placeP l = p at *
  obtain ⟨L, D, R, ac, ar⟩ := p
  refine (found_raw s L D ac ar hl3 hd7 _ hn w).mono ?_
  rintro e w' ⟨rfl, hB⟩
  refine ⟨?_, hB⟩
  unfold foundR
  simp only
  cases ((colOf L).isSome && rowB ((rowN D : Nat) : Int)) <;> rfl
end Go.Proofs.YtnblbakjfpfipaaGreatDoor
