/- The document's reader: Left, bit, Take. -/
import Derived.Test.YtjieeddjhbbllaaTake
import Derived.Test.YtjieeddjhbbllaaRd
namespace Go.Proofs.Ytjieeddjhbbllaa
open Go.RowKit

set_option maxHeartbeats 400000 in
theorem refLeft_any (R : Nat) (g : Option Addr) (len c pos : Nat) (w : World) (hl : len ≤ 140737488355328) (hp : pos ≤ 8 * len) (h2 : Two w R 38 (.slice g len c) (.int .i64 pos)) :
    Calls Try.prog 19 #[.pointer (some ⟨R, 0, none⟩)] w fun e w' => e = .returned (.int .i64 (8 * len - pos : Int)) ∧ ∃ n, w' = w.drewN n := by
  have c0 := h2.cell0
  have c1 := h2.cell1
  go_enter Try.func19, Try.ntmps19
  go_wp2
  go_quiet (fail)
  go_wp2
  go_ret
  exact ⟨rfl, _, rfl⟩

set_option maxHeartbeats 400000 in
theorem refBit_any (R b off c p : Nat) (v1 : Value) (zs : List Int) (w : World) (hl : zs.length ≤ 140737488355328) (hz : AreBytes zs) (h2 : Two w R 38 (.slice (some ⟨b, off, none⟩) zs.length c) v1) (hp : p < 8 * zs.length)
    (hc : ∀ j : Nat, j < zs.length → w.cell? ⟨b, off + j, none⟩ = some (.int .u8 (zs[j]?.getD 0))) :
    Calls Try.prog 49 #[.pointer (some ⟨R, 0, none⟩), .int .i64 p] w fun e w' => e = .returned (.int .u32 (bitAt zs p).1) ∧ w' = w := by
  have c0 := h2.cell0
  have hcx := hc (p / 8) (by omega)
  have hzp := hz (p / 8)
  clear hc hz
  go_enter Try.func49, Try.ntmps49
  go_wp2
  go_ret
  exact ⟨rfl, rfl⟩

set_option maxHeartbeats 400000 in
theorem refTake_arg (R : Nat) (n : Int) (w : World) (hn : n < 0 ∨ 32 < n) : Calls Try.prog 36 #[.pointer (some ⟨R, 0, none⟩), .int .i64 n] w fun e w' => e = .returned (.tuple #[.int .u32 0, .int .i64 1]) ∧ w' = w := by
  rcases hn with h | h
  · go_enter Try.func36, Try.ntmps36
    go_wp2
    go_ret2
    exact ⟨rfl, rfl⟩
  · have h' : ¬ n < 0 := by omega
    go_enter Try.func36, Try.ntmps36
    go_wp2
    go_ret2
    exact ⟨rfl, rfl⟩

set_option maxHeartbeats 400000 in
theorem refTake_end (R : Nat) (g : Option Addr) (len c pos : Nat) (n : Int) (w : World) (hl : len ≤ 140737488355328) (hp : pos ≤ 8 * len) (h2 : Two w R 38 (.slice g len c) (.int .i64 pos)) (h0 : 0 ≤ n) (h32 : n ≤ 32) (hn : (8 * len - pos : Int) < n) :
    Calls Try.prog 36 #[.pointer (some ⟨R, 0, none⟩), .int .i64 n] w fun e w' => e = .returned (.tuple #[.int .u32 0, .int .i64 10]) ∧ ∃ q, w' = w.drewN q := by
  have t1 : ¬ n < 0 := by omega
  have t2 : ¬ 32 < n := by omega
  go_enter Try.func36, Try.ntmps36
  go_wp2_with (go_at_call 19; refine (refLeft_any R g len c pos _ hl hp h2).mono ?_; rintro e w' ⟨rfl, q, rfl⟩)
  go_ret2
  exact ⟨rfl, _, rfl⟩

set_option maxHeartbeats 1000000 in
theorem refTake_any (D : Nat → Prop) (R : Nat) (g : Option Addr) (c pos n : Nat) (zs : List Int) (hz : AreBytes zs) (hl : zs.length ≤ 140737488351232) (w : World) (hDR : ¬ D R) (h2 : Two w R 38 (.slice g zs.length c) (.int .i64 pos))
    (hI : BytesIn D w (.slice g zs.length c) zs) (hn : n ≤ 32) (hp : pos + n ≤ 8 * zs.length) :
    Calls Try.prog 36 #[.pointer (some ⟨R, 0, none⟩), .int .i64 n] w fun e W' => e = .returned (.tuple #[.int .u32 (orFold (upto (bitF zs pos) n)), .int .i64 0]) ∧ Two W' R 38 (.slice g zs.length c) (.int .i64 ((pos + n : Nat) : Int)) ∧ Kept D w W' := by
  have t1 : ¬ (n : Int) < 0 := by omega
  have t2 : ¬ 32 < (n : Int) := by omega
  have t3 : ¬ (8 : Int) * zs.length - pos < n := by omega
  go_enter Try.func36, Try.ntmps36
  go_wp2_with (go_at_call 19; refine (refLeft_any R g zs.length c pos _ (by omega) (by omega) h2).mono ?_; rintro e wq ⟨rfl, q, hwq⟩; have hT : Two wq R 38 (.slice g zs.length c) (.int .i64 pos) := hwq ▸ h2.drewN q; have hKq : Kept D w wq := hwq ▸ ⟨rfl, rfl, rfl, Nat.le_refl _, fun _ _ => rfl⟩; clear hwq)
  have c1 := hT.cell1
  have f1 := hT.frozen 1
  go_loop [6, 7] (fun v i => ∃ k : Nat, k ≤ n ∧ i = .int .i64 k ∧ v = .int .u32 (orFold (upto (bitF zs pos) k))) (fun _ i => n - (intOf i).toNat)
  case atStart => exact ⟨0, by omega, rfl, rfl⟩
  case round =>
    obtain ⟨k, hk, rfl, rfl⟩ := hrel
    by_cases hlt : k < n
    · rcases hI with ⟨rfl, _⟩ | ⟨b, off, cap', e, hb, hc⟩
      · simp at hp; omega
      simp only [Value.slice.injEq, true_and] at e
      obtain ⟨rfl, rfl⟩ := e
      have hbit := refBit_any R b off c (pos + k) (.int .i64 pos) zs wq (by omega) hz hT (by omega) (fun j hj => (hKq.cell (p := ⟨b, off + j, none⟩) hb).trans (hc j hj))
      have HS : Hid (bits .or .u32 (orFold (upto (bitF zs pos) k) : Int) ((bitAt zs (pos + k)).1 * 2 ^ k % 4294967296) = (orFold (upto (bitF zs pos) (k + 1)) : Int)) := by
        show _ = _
        have h := orStep_walk (orFold (upto (bitF zs pos) k)) k _ (orFold_lt _) (bitAt zs (pos + k)).2.1
        rw [IntKind.wrap_u32', show min k 32 = k by omega] at h
        rw [h, upto_succ, orFold_snoc]
        rfl
      have hb2 := (bitAt zs (pos + k)).2
      generalize (bitAt zs (pos + k)).1 = B at hbit HS hb2
      rw [Int.natCast_add] at hbit
      clear hc hz
      go_wp2_with (go_at_call 49; refine hbit.mono ?_; rintro e w' ⟨rfl, rfl⟩)
      exact ⟨⟨k + 1, by omega, by go_num, by rw [HS.out]⟩, by simp [intOf]; omega⟩
    · obtain rfl : k = n := by omega
      go_wp2
      go_ret2
      exact ⟨rfl, hT.set1 _, hKq.setCell (p := ⟨R, 1, none⟩) hDR _⟩

end Go.Proofs.Ytjieeddjhbbllaa
