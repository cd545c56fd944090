import Derived.Test.YtnblbakjfpfipaaGreatDoorWal
import Derived.BigGuardPart
/- CellsThere, walked. -/
namespace Go.Proofs.YtnblbakjfpfipaaGreatDoor
open Go.RowKit

theorem undef_bool {b : Bool} (h : some undef = some (Value.bool b)) : False := by unfold undef at h; simp at h
theorem stood23 : Tryz.prog.stoodInHeld 23 = false := by kernel_rfl
theorem fields23 : Tryz.prog.underlying 23 = some (.struct (Tryz.prog.fieldsOf 23)) := by kernel_rfl
set_option maxRecDepth 100000 in
theorem eq23 (s s2 : ByteArray) (c c2 r r2 : Int) (a a2 b b2 : Bool) (W : World) : (binOp .eql 23 (.agg #[.string s, .int .i64 c, .int .i64 r, .bool a, .bool b]) (.agg #[.string s2, .int .i64 c2, .int .i64 r2, .bool a2, .bool b2])).run Tryz.prog W = .ok (.bool ((s.toList == s2.toList) && (c == c2) && (r == r2) && (a == a2) && (b == b2))) W := by
  rw [run_eql_struct, run_equalIn_agg _ _ _ _ _ fields23 stood23]
  have h : (Op.eqFields 9999 #[.string s, .int .i64 c, .int .i64 r, .bool a, .bool b] #[.string s2, .int .i64 c2, .int .i64 r2, .bool a2, .bool b2] (Tryz.prog.fieldsOf 23).toList).run Tryz.prog W = .ok ((s.toList == s2.toList) && (c == c2) && (r == r2) && (a == a2) && (b == b2)) W := by
    go_simp
    split
    · split
      · split
        · split
          · split <;> simp_all
          · simp_all
        · simp_all
      · simp_all
    · simp_all
  rw [h]
  rfl
theorem same23 (s : ByteArray) (c r : Int) (a b : Bool) (W : World) : (binOp .eql 23 (.agg #[.string s, .int .i64 c, .int .i64 r, .bool a, .bool b]) (.agg #[.string s, .int .i64 c, .int .i64 r, .bool a, .bool b])).run Tryz.prog W = .ok (.bool true) W := by
  rw [eq23]; simp
theorem farB_iff (n b m : Int) : farB n b m = true ↔ 1 ≤ n + b ∧ n + b ≤ m := by simp [farB]
theorem shiftR_some {x y : Rf} {dc dr : Int} (h : shiftR x dc dr = some y) : rightB x = true ∧ rightB y = true ∧ y.s = x.s ∧ y.ac = x.ac ∧ y.ar = x.ar ∧ y.c = x.c + (if x.ac then 0 else dc) ∧ y.r = x.r + (if x.ar then 0 else dr) := by
  unfold shiftR at h
  by_cases hc : (rightB x && farB x.c (if x.ac then 0 else dc) 64 && farB x.r (if x.ar then 0 else dr) 512) = true
  · rw [if_pos hc] at h
    simp only [Bool.and_eq_true, farB_iff] at hc
    obtain ⟨⟨h1, h2, h3⟩, h4, h5⟩ := hc
    cases h
    refine ⟨h1, ?_, rfl, rfl, rfl, rfl, rfl⟩
    unfold rightB at h1 ⊢
    simp only [Bool.and_eq_true] at h1 ⊢
    refine ⟨⟨?_, ?_⟩, h1.2⟩
    · simp [colB]; exact ⟨h2, h3⟩
    · simp [rowB]; exact ⟨h4, h5⟩
  · rw [if_neg hc] at h
    cases h
theorem shiftR_back {x y : Rf} {dc dr ec er : Int} (h : shiftR x dc dr = some y) (he : x.ac = false → ec = -dc) (hf : x.ar = false → er = -dr) : shiftR y ec er = some x := by
  obtain ⟨h1, h2, h3, h4, h5, h6, h7⟩ := shiftR_some h
  have hb := rightB_bounds h1
  obtain ⟨s, c, r, ac, ar⟩ := x
  obtain ⟨s2, c2, r2, ac2, ar2⟩ := y
  simp only at *
  subst h3 h4 h5
  unfold shiftR
  rw [h2]
  simp only [Bool.true_and]
  have e1 : c2 + (if ac2 = true then 0 else ec) = c := by cases ac2 <;> simp_all <;> omega
  have e2 : r2 + (if ar2 = true then 0 else er) = r := by cases ar2 <;> simp_all <;> omega
  have f1 : farB c2 (if ac2 = true then 0 else ec) 64 = true := (farB_iff _ _ _).2 (by omega)
  have f2 : farB r2 (if ar2 = true then 0 else er) 512 = true := (farB_iff _ _ _).2 (by omega)
  rw [f1, f2, e1, e2]
  rfl

end Go.Proofs.YtnblbakjfpfipaaGreatDoor
