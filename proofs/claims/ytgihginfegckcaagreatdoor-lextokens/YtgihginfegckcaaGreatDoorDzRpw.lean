import Derived.Test.YtgihginfegckcaaGreatDoorDzRpz
/- The document's Parse, of any text. -/
namespace Go.Proofs.YtgihginfegckcaaGreatDoor
open Go.RowKit

theorem trim_place (l : List UInt8) : PzAt l (if Lib.hasPrefix l [45] then 1 else 0) (Lib.trimPrefix l [45]) := by
  unfold Lib.trimPrefix
  cases l with
  | nil => exact ⟨Nat.le_refl _, rfl⟩
  | cons a r =>
    rw [has_cons]
    by_cases h : a = 45
    · subst h
      exact ⟨by rw [bs_size]; simp, rfl⟩
    · rw [show (a == 45) = false by simpa using h]
      exact ⟨Nat.zero_le _, rfl⟩
set_option maxRecDepth 100000 in
theorem rparse_long (l : List UInt8) (hl : 255 < (bs l).size) (w : World) : Calls Tryz.prog 37 #[.string (bs l)] w fun r w' => r = .returned synV ∧ Below w.heap.size w w' := by
  have t1 : (255 : Int) < ((bs l).size : Int) := by omega
  have r0 := Row.new w 30 #[.int .i64 0, .int .i64 0]
  have b0 := (Below.refl _ w).alloc (Nat.le_refl _) (.cells #[.int .i64 0, .int .i64 0] 30)
  have zf := r0.frozen
  have zl := r0.lt
  obtain ⟨z0, z1⟩ := r0.duo
  have hZ0 := Row.set2 r0 (.int .i64 0) (.int .i64 0)
  have hB0 := below_set (below_set b0 (B := w.heap.size) 0 (.int .i64 0) (Nat.le_refl _)) (B := w.heap.size) 1 (.int .i64 0) (Nat.le_refl _)
  clear hl
  go_enter Tryz.func37, Tryz.ntmps37
  go_wp2
  first
  | exact bodyPost_ret (ret_two rfl (g := w.heap.size) rfl rfl (load30 r0 rfl)) rfl ⟨rfl, b0⟩
  | exact bodyPost_ret (ret_two rfl (g := w.heap.size) rfl rfl (load30 hZ0 rfl)) rfl ⟨rfl, hB0⟩
theorem rparse_any (l : List UInt8) (w : World) : Calls Tryz.prog 37 #[.string (bs l)] w fun r w' => r = .returned (decPv l) ∧ Below w.heap.size w w' := by
  by_cases h : 255 < (bs l).size
  · have e1 : decPv l = synV := by
      unfold decPv
      rw [bs_size] at h
      rw [decide_eq_true h]
      rfl
    rw [e1]
    exact rparse_long l h w
  · exact rparse_short l (by omega) w _ _ _ _ _ (partR (behindL (Lib.trimPrefix l [45]) digL)).1 (partR (behindL (Lib.trimPrefix l [45]) digL)).2.1 (partR (behindL (Lib.trimPrefix l [45]) digL)).2.2 rfl rfl rfl rfl (trim_place l) rfl rfl
end Go.Proofs.YtgihginfegckcaaGreatDoor
