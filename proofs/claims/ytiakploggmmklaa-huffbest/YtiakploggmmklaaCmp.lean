/- The comparison that Lengths sorts by: two symbols by how often they come. -/
import Derived.Test.YtiakploggmmklaaFul
namespace Go.Proofs.Ytiakploggmmklaa
open Go.RowKit

def cmpZ (x y : Int) : Int := if x < y then -1 else if y < x then 1 else 0

set_option maxHeartbeats 1000000 in
theorem isNaN_any (x : Int) (w : World) : Calls Try.prog 18 #[.int .i64 x] w fun e w' => e = .returned (.bool false) ∧ w' = w := by
  go_enter Try.func18, Try.ntmps18
  have ht : (x != x) = false := by simp
  go_wp2
  go_ret
  exact ⟨rfl, rfl⟩

set_option maxHeartbeats 1000000 in
theorem compare_r (r x y : Int) (hr : Hid (r = cmpZ x y)) (w : World) : Calls Try.prog 11 #[.int .i64 x, .int .i64 y] w fun e w' => e = .returned (.int .i64 r) ∧ w' = w := by
  by_cases h1 : x < y
  · obtain rfl : r = -1 := by rw [show r = _ from hr.out, cmpZ, if_pos h1]
    go_enter Try.func11, Try.ntmps11
    go_wp2_with (go_at_call 18; refine (isNaN_any _ _).mono ?_; rintro e w' ⟨rfl, rfl⟩)
    go_ret
    exact ⟨rfl, rfl⟩
  · by_cases h2 : y < x
    · obtain rfl : r = 1 := by rw [show r = _ from hr.out, cmpZ, if_neg h1, if_pos h2]
      go_enter Try.func11, Try.ntmps11
      go_wp2_with (go_at_call 18; refine (isNaN_any _ _).mono ?_; rintro e w' ⟨rfl, rfl⟩)
      go_ret
      exact ⟨rfl, rfl⟩
    · obtain rfl : r = 0 := by rw [show r = _ from hr.out, cmpZ, if_neg h1, if_neg h2]
      go_enter Try.func11, Try.ntmps11
      go_wp2_with (go_at_call 18; refine (isNaN_any _ _).mono ?_; rintro e w' ⟨rfl, rfl⟩)
      go_ret
      exact ⟨rfl, rfl⟩
theorem compare_any (x y : Int) (w : World) : Calls Try.prog 11 #[.int .i64 x, .int .i64 y] w fun e w' => e = .returned (.int .i64 (cmpZ x y)) ∧ ∃ q, w' = w.drewN q :=
  (compare_r _ x y rfl w).mono fun _ _ h => ⟨h.1, 0, h.2⟩

set_option maxRecDepth 100000 in
set_option maxHeartbeats 1000000 in
theorem less_any (S : Nat → Prop) (B : Nat) (a : Option Addr) (cap : Nat) (fs : List Int) (x y : Nat) (W : World) (hx : x < fs.length) (hy : y < fs.length) (hc : W.cell? ⟨B, 0, none⟩ = some (.slice a fs.length cap)) (hF : IntsIn S W (.slice a fs.length cap) fs) :
    Calls Try.prog 10 #[.int .i64 (x : Int), .int .i64 (y : Int), .pointer (some ⟨B, 0, none⟩)] W fun e w' => e = .returned (.int .i64 (cmpZ (fs[x]?.getD 0) (fs[y]?.getD 0))) ∧ ∃ q, w' = W.drewN q := by
  obtain ⟨bf, of, rfl, hbf, c0⟩ := hF.at x hx
  obtain ⟨bf', of', he, _, c1⟩ := hF.at y hy
  simp only [Option.some.injEq, Addr.mk.injEq] at he
  obtain ⟨rfl, rfl, _⟩ := he
  generalize fs[x]?.getD 0 = p at c0
  generalize fs[y]?.getD 0 = q at c1
  have hcmp := fun (n : Nat) => compare_any p q (W.drewN n)
  generalize cmpZ p q = r at hcmp
  go_enter Try.func10, Try.ntmps10
  go_wp2
  go_quiet (first | (go_at_call 11; refine Calls.quiet_of (hcmp _)))
  go_wp2
  go_ret
  exact ⟨rfl, _, rfl⟩
end Go.Proofs.Ytiakploggmmklaa
