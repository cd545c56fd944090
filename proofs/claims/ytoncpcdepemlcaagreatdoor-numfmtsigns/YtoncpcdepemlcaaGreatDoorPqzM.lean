import Derived.Test.YtoncpcdepemlcaaGreatDoorDpaM
import Derived.Test.YtoncpcdepemlcaaGreatDoorRtmM
/- Places in a text, for the document's Parse (pure; and its digit). -/
namespace Go.Proofs.YtoncpcdepemlcaaGreatDoor
open Go.RowKit

/-- Behind i signs of l stands x. -/
structure PzAt (l : List UInt8) (i : Nat) (x : List UInt8) : Prop where
  le : i ≤ (bs l).size
  eq : l.drop i = x
theorem PzAt.nil {l : List UInt8} {i : Nat} (h : PzAt l i []) : i = (bs l).size := by
  have h1 := h.le
  have h2 := congrArg List.length h.eq
  rw [bs_size] at *
  simp at h2
  omega
theorem PzAt.cons {l : List UInt8} {i : Nat} {a : UInt8} {r : List UInt8} (h : PzAt l i (a :: r)) : ∃ hi : i < (bs l).size, (bs l)[i] = a ∧ PzAt l (i + 1) r := by
  have h2 := congrArg List.length h.eq
  have hi : i < (bs l).size := by
    rw [bs_size]
    simp at h2
    omega
  have h3 := drop_step l i hi
  rw [h.eq] at h3
  injection h3 with h4 h5
  exact ⟨hi, h4.symm, ⟨hi, h5.symm⟩⟩
end Go.Proofs.YtoncpcdepemlcaaGreatDoor
/- A number's digits, place by place, and its text (pure). -/
namespace Go.Proofs.YtoncpcdepemlcaaGreatDoor

theorem tell_near (c e : Int) (hc : I64 c) (hc0 : c ≠ 0) (he : e < -100) : tell c e = none := by
  unfold I64 at hc
  cases h : tell c e with
  | none => rfl
  | some d =>
    exfalso
    obtain ⟨C, E⟩ := d
    obtain ⟨h1, _, _, _, _, h6, h7⟩ := tell_some h
    have h8 := congrArg Int.natAbs (h7 e (Int.le_refl _) (by omega))
    unfold V at h8
    rw [Int.natAbs_mul, Int.natAbs_mul, Int.natAbs_pow, Int.natAbs_pow, show (e - e).toNat = 0 by omega, Nat.pow_zero, Nat.mul_one, show (10 : Int).natAbs = 10 from rfl] at h8
    have hC : 1 ≤ C.natAbs := by
      have : C ≠ 0 := fun e => hc0 (h6.2 e)
      omega
    have h9 : 10 ^ 20 ≤ 10 ^ (E - e).toNat := Nat.pow_le_pow_right (by decide) (by omega)
    have h10 := Nat.mul_le_mul hC h9
    rw [h8, show 1 * 10 ^ 20 = 100000000000000000000 from rfl] at h10
    omega
end Go.Proofs.YtoncpcdepemlcaaGreatDoor
/- The document's Make. -/
namespace Go.Proofs.YtoncpcdepemlcaaGreatDoor
open Go.RowKit

set_option maxRecDepth 100000 in
set_option maxHeartbeats 2000000 in
theorem rmake_any (c e : Int) (hc : I64 c) (w : World) : Calls Tryz.prog 15 #[.int .i64 c, .int .i64 e] w fun r w' => r = .returned (decV (tell c e)) ∧ Below w.heap.size w w' := by
  have r0 := Row.new w 38 #[.int .i64 0, .int .i64 0]
  have b0 := (Below.refl _ w).alloc (Nat.le_refl _) (.cells #[.int .i64 0, .int .i64 0] 38)
  have zf := r0.frozen
  have zl := r0.lt
  obtain ⟨z0, z1⟩ := r0.duo
  have hZ0 := Row.set2 r0 (.int .i64 0) (.int .i64 0)
  have hB0 := below_set (below_set b0 (B := w.heap.size) 0 (.int .i64 0) (Nat.le_refl _)) (B := w.heap.size) 1 (.int .i64 0) (Nat.le_refl _)
  by_cases h0 : c = 0
  · subst h0
    rw [show tell 0 e = some (0, 0) by simp [tell, tellW_zero]]
    clear hc
    go_enter Tryz.func15, Tryz.ntmps15
    go_wp2
    first
    | exact bodyPost_ret (ret_two rfl (g := w.heap.size) rfl rfl (load23 r0 rfl)) rfl ⟨rfl, b0⟩
    | exact bodyPost_ret (ret_two rfl (g := w.heap.size) rfl rfl (load23 hZ0 rfl)) rfl ⟨rfl, hB0⟩
  · have g0 : (c == 0) = false := by simpa using h0
    by_cases hlo : e < -100
    · rw [tell_near c e hc h0 hlo]
      clear hc h0
      go_enter Tryz.func15, Tryz.ntmps15
      go_wp2
      first
      | exact bodyPost_ret (ret_two rfl (g := w.heap.size) rfl rfl (load23 r0 rfl)) rfl ⟨rfl, b0⟩
      | exact bodyPost_ret (ret_two rfl (g := w.heap.size) rfl rfl (load23 hZ0 rfl)) rfl ⟨rfl, hB0⟩
    · by_cases hhi : 100 < e
      · rw [tell_far c e h0 (by omega)]
        clear hc h0
        go_enter Tryz.func15, Tryz.ntmps15
        go_wp2
        first
        | exact bodyPost_ret (ret_two rfl (g := w.heap.size) rfl rfl (load23 r0 rfl)) rfl ⟨rfl, b0⟩
        | exact bodyPost_ret (ret_two rfl (g := w.heap.size) rfl rfl (load23 hZ0 rfl)) rfl ⟨rfl, hB0⟩
      · have HL : Hid ((digs c.natAbs).length ≤ 500) := Nat.le_trans (digs_len _ 19 (by unfold I64 at hc; omega)) (by decide)
        have HOF : ∀ V, Hid (Calls Tryz.prog 33 #[.int .i64 c] V _) := fun V => of_any c hc V
        obtain ⟨p, q, er, hdv⟩ := decV_form (tell c e)
        rw [hdv]
        have HDV : Hid (decV (tell c e) = .tuple #[.agg #[.int .i64 p, .int .i64 q], .int .i64 er]) := hdv
        clear hdv hc h0
        go_enter Tryz.func15, Tryz.ntmps15
        go_wp2_with fail
        refine Calls.mono (HOF _).out ?_
        rintro _ w2 ⟨v2, rfl, hV2, b2⟩
        obtain ⟨s2, rfl, hD2⟩ := hV2
        obtain ⟨_, a3, c3, rfl, _, _⟩ := id hD2
        have HTE : Hid (Calls Tryz.prog 32 #[.agg #[.bool (decide (c < 0)), .slice a3 (digs c.natAbs).length c3, .int .i64 e]] w2 _) := told_any' c e _ w2 ⟨_, rfl, hD2⟩ (by omega) (by omega) HL.out
        rw [HDV.out] at HTE
        have r2 := r0.below b2 r0.lt
        have hB2 := b0.trans (b2.mono b0.size)
        clear hD2 HOF hZ0 hB0 r0 b0 b2 z0 z1 zf zl
        obtain ⟨sg, HSG⟩ : ∃ sg, Hid (decide (c < 0) = sg) := ⟨_, rfl⟩
        obtain ⟨n3, HN3⟩ : ∃ n3, Hid ((digs c.natAbs).length = n3) := ⟨_, rfl⟩
        rw [HSG.out, HN3.out] at HTE
        unfold bv
        rw [HSG.out, HN3.out]
        go_wp2_with fail
        refine Calls.mono HTE.out ?_
        rintro _ w4 ⟨rfl, b4⟩
        have hZ4 := r2.below b4 r2.lt
        have hB4 := hB2.trans (b4.mono hB2.size)
        clear HTE b4
        obtain ⟨z0, z1⟩ := hZ4.duo
        have zf := hZ4.frozen
        have hZe := Row.set2 hZ4 (.int .i64 p) (.int .i64 q)
        have hBe := below_set (below_set hB4 (B := w.heap.size) 0 (.int .i64 p) (Nat.le_refl _)) (B := w.heap.size) 1 (.int .i64 q) (Nat.le_refl _)
        go_wp2
        exact bodyPost_ret (ret_two rfl (g := w.heap.size) rfl rfl (load23 hZe rfl)) rfl ⟨rfl, hBe⟩
end Go.Proofs.YtoncpcdepemlcaaGreatDoor
