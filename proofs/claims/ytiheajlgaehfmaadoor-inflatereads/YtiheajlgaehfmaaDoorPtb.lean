import Derived.Test.YtiheajlgaehfmaaDoorRrtM
import Derived.Test.YtiheajlgaehfmaaDoorPstM
/- The program's tables: step, Lit, Dist. -/
namespace Go.Proofs.YtiheajlgaehfmaaDoor
open Go.RowKit

def stepB (n g : Nat) : Nat := if n < g then n else (g + n % g) * 2 ^ (n / g - 1)
def stepX (n g : Nat) : Nat := if n < g then 0 else n / g - 1
theorem ret2 {a b c d : Int} (h1 : a = b) (h2 : c = d) : (Value.tuple #[.int .i64 a, .int .i64 c]) = .tuple #[.int .i64 b, .int .i64 d] := by rw [h1, h2]
set_option maxHeartbeats 400000 in
theorem step_few (n g : Nat) (h : n < g) (w : World) : Calls Tryd.prog 25 #[.int .i64 (n : Int), .int .i64 (g : Int)] w fun e w' => e = .returned (.tuple #[.int .i64 (n : Int), .int .i64 0]) ∧ w' = w := by
  go_enter Tryd.func25, Tryd.ntmps25
  go_wp2
  go_ret2
  exact ⟨rfl, rfl⟩
theorem step2 (n : Nat) (h : n ≤ 32) : wrap64 ((2 + (n : Int) % 2) * 2 ^ (n / 2 - 1)) = (((2 + n % 2) * 2 ^ (n / 2 - 1) : Nat) : Int) := by
  have hb : ∀ n : Nat, n ≤ 32 → (2 + n % 2) * 2 ^ (n / 2 - 1) ≤ 1000000 := by decide
  have := hb n h
  have e : (2 + (n : Int) % 2) * 2 ^ (n / 2 - 1) = (((2 + n % 2) * 2 ^ (n / 2 - 1) : Nat) : Int) := by simp
  rw [e]
  exact wrap64_id _ ⟨by omega, by omega⟩
theorem step4 (n : Nat) (h : n ≤ 32) : wrap64 ((4 + (n : Int) % 4) * 2 ^ (n / 4 - 1)) = (((4 + n % 4) * 2 ^ (n / 4 - 1) : Nat) : Int) := by
  have hb : ∀ n : Nat, n ≤ 32 → (4 + n % 4) * 2 ^ (n / 4 - 1) ≤ 1000000 := by decide
  have := hb n h
  have e : (4 + (n : Int) % 4) * 2 ^ (n / 4 - 1) = (((4 + n % 4) * 2 ^ (n / 4 - 1) : Nat) : Int) := by simp
  rw [e]
  exact wrap64_id _ ⟨by omega, by omega⟩
set_option maxHeartbeats 400000 in
theorem step_more (n g : Nat) (h : ¬ n < g) (hg : g = 2 ∨ g = 4) (hn : n ≤ 32) (w : World) : Calls Tryd.prog 25 #[.int .i64 (n : Int), .int .i64 (g : Int)] w fun e w' => e = .returned (.tuple #[.int .i64 (((g + n % g) * 2 ^ (n / g - 1) : Nat) : Int), .int .i64 ((n / g - 1 : Nat) : Int)]) ∧ w' = w := by
  rcases hg with rfl | rfl
  · have H1 : Hid _ := step2 n hn
    go_enter Tryd.func25, Tryd.ntmps25
    go_wp2
    go_ret2
    exact ⟨congrArg Ending.returned (ret2 H1.out (by omega)), rfl⟩
  · have H1 : Hid _ := step4 n hn
    go_enter Tryd.func25, Tryd.ntmps25
    go_wp2
    go_ret2
    exact ⟨congrArg Ending.returned (ret2 H1.out (by omega)), rfl⟩
theorem step_any (n g : Nat) (hg : g = 2 ∨ g = 4) (hn : n ≤ 32) (w : World) : Calls Tryd.prog 25 #[.int .i64 (n : Int), .int .i64 (g : Int)] w fun e w' => e = .returned (.tuple #[.int .i64 (stepB n g : Int), .int .i64 (stepX n g : Int)]) ∧ w' = w := by
  unfold stepB stepX
  by_cases h : n < g
  · rw [if_pos h, if_pos h]
    exact step_few n g h w
  · rw [if_neg h, if_neg h]
    exact step_more n g h hg hn w
theorem lit_table : ∀ n, n < 28 → litBase n = stepB n 4 + 3 ∧ litBits (257 + n) = stepX n 4 ∧ stepB n 4 ≤ 1000 := by decide
theorem dist_table : ∀ n, n < 30 → distBase n = stepB n 2 + 1 ∧ distBits n = stepX n 2 ∧ stepB n 2 ≤ 100000 := by decide
theorem ret3 {a b c d : Int} (h1 : a = b) (h2 : c = d) : (Value.tuple #[.int .i64 a, .int .i64 c, .bool true]) = .tuple #[.int .i64 b, .int .i64 d, .bool true] := by rw [h1, h2]

set_option maxHeartbeats 1000000 in
theorem plit_r (r : Value) (sym : Int) (HR : Hid (tabRes (litS sym) = r)) (w : World) : Calls Tryd.prog 11 #[.int .i64 sym] w fun e w' => e = .returned r ∧ w' = w := by
  by_cases h : sym < 257 ∨ 285 < sym
  · have ER : Hid (r = .tuple #[.int .i64 0, .int .i64 0, .bool false]) := by show _ = _; rw [← HR.out, litS, if_pos h]; rfl
    by_cases h1 : sym < 257
    · go_enter Tryd.func11, Tryd.ntmps11
      go_wp2
      exact bodyPost_ret (v := r) (by rw [ER.out]; simp [results, Tryd.f11, go_sem]) rfl ⟨rfl, rfl⟩
    · have h2 : 285 < sym := h.resolve_left h1
      clear h
      go_enter Tryd.func11, Tryd.ntmps11
      go_wp2
      exact bodyPost_ret (v := r) (by rw [ER.out]; simp [results, Tryd.f11, go_sem]) rfl ⟨rfl, rfl⟩
  · have h1 : ¬ sym < 257 := fun e => h (.inl e)
    have h2 : ¬ 285 < sym := fun e => h (.inr e)
    by_cases h3 : sym = 285
    · have ER : Hid (r = .tuple #[.int .i64 258, .int .i64 0, .bool true]) := by show _ = _; rw [← HR.out, litS, if_neg h, if_pos h3]; rfl
      clear h HR
      subst h3
      go_enter Tryd.func11, Tryd.ntmps11
      go_wp2
      exact bodyPost_ret (v := r) (by rw [ER.out]; simp [results, Tryd.f11, go_sem]) rfl ⟨rfl, rfl⟩
    · obtain ⟨n, rfl⟩ : ∃ n : Nat, sym = 257 + n := ⟨(sym - 257).toNat, by omega⟩
      obtain ⟨e1, e2, e3⟩ := lit_table n (by omega)
      have ER : Hid (r = .tuple #[.int .i64 ((stepB n 4 : Int) + 3), .int .i64 (stepX n 4 : Int), .bool true]) := by
        show _ = _
        rw [← HR.out, litS, if_neg h, if_neg h3, show ((257 : Int) + n).toNat - 257 = n by omega, show ((257 : Int) + n).toNat = 257 + n by omega, e1, e2]
        rfl
      have HC : Hid (Calls Tryd.prog 25 #[.int .i64 (n : Int), .int .i64 4] w fun e w' => e = .returned (.tuple #[.int .i64 (stepB n 4 : Int), .int .i64 (stepX n 4 : Int)]) ∧ w' = w) := step_any n 4 (.inr rfl) (by omega) w
      have hsub : (257 : Int) + n - 257 = n := by omega
      clear e1 e2 h HR
      go_enter Tryd.func11, Tryd.ntmps11
      go_wp2_with fail
      refine Calls.mono HC.out ?_
      rintro e w' ⟨rfl, rfl⟩
      go_wp2
      exact bodyPost_ret (v := r) (by rw [ER.out]; simp [results, Tryd.f11, go_sem]) rfl ⟨rfl, rfl⟩
set_option maxHeartbeats 1000000 in
theorem pdist_r (r : Value) (sym : Int) (HR : Hid (tabRes (distS sym) = r)) (w : World) : Calls Tryd.prog 13 #[.int .i64 sym] w fun e w' => e = .returned r ∧ w' = w := by
  by_cases h : sym < 0 ∨ 29 < sym
  · have ER : Hid (r = .tuple #[.int .i64 0, .int .i64 0, .bool false]) := by show _ = _; rw [← HR.out, distS, if_pos h]; rfl
    by_cases h1 : sym < 0
    · go_enter Tryd.func13, Tryd.ntmps13
      go_wp2
      exact bodyPost_ret (v := r) (by rw [ER.out]; simp [results, Tryd.f13, go_sem]) rfl ⟨rfl, rfl⟩
    · have h2 : 29 < sym := h.resolve_left h1
      clear h
      go_enter Tryd.func13, Tryd.ntmps13
      go_wp2
      exact bodyPost_ret (v := r) (by rw [ER.out]; simp [results, Tryd.f13, go_sem]) rfl ⟨rfl, rfl⟩
  · have h1 : ¬ sym < 0 := fun e => h (.inl e)
    have h2 : ¬ 29 < sym := fun e => h (.inr e)
    obtain ⟨n, rfl⟩ : ∃ n : Nat, sym = n := ⟨sym.toNat, by omega⟩
    obtain ⟨e1, e2, e3⟩ := dist_table n (by omega)
    have ER : Hid (r = .tuple #[.int .i64 ((stepB n 2 : Int) + 1), .int .i64 (stepX n 2 : Int), .bool true]) := by
      show _ = _
      rw [← HR.out, distS, if_neg h, show (n : Int).toNat = n by omega, e1, e2]
      rfl
    have HC : Hid (Calls Tryd.prog 25 #[.int .i64 (n : Int), .int .i64 2] w fun e w' => e = .returned (.tuple #[.int .i64 (stepB n 2 : Int), .int .i64 (stepX n 2 : Int)]) ∧ w' = w) := step_any n 2 (.inl rfl) (by omega) w
    clear e1 e2 h HR
    go_enter Tryd.func13, Tryd.ntmps13
    go_wp2_with fail
    refine Calls.mono HC.out ?_
    rintro e w' ⟨rfl, rfl⟩
    go_wp2
    exact bodyPost_ret (v := r) (by rw [ER.out]; simp [results, Tryd.f13, go_sem]) rfl ⟨rfl, rfl⟩
end Go.Proofs.YtiheajlgaehfmaaDoor
