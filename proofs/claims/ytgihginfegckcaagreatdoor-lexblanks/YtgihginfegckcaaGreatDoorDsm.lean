import Derived.Test.YtgihginfegckcaaGreatDoorBaseM
import Derived.Test.YtgihginfegckcaaGreatDoorBaseM
import Derived.Test.YtgihginfegckcaaGreatDoorDpuM
import Derived.Laws.Rows
/- Walks of the small functions: number, zero, within, sign, turned, signed. -/
namespace Go.Proofs.YtgihginfegckcaaGreatDoor
open Go.RowKit

/-- A number in the making, as a value. -/
def wv (neg : Bool) (hi lo : Nat) (e : Int) : Value := .agg #[.bool neg, .int .u64 hi, .int .u64 lo, .int .i64 e]
def dv (c e : Int) : Value := .agg #[.int .i64 c, .int .i64 e]
theorem Tryz.zero57 : (Tryz.prog.info? 76).map (fun i => (i.zero, i.size)) = some (some (.agg #[.bool false, .int .u64 0, .int .u64 0, .int .i64 0]), 4) := by kernel_rfl
theorem Tryz.zero30 : (Tryz.prog.info? 30).map (fun i => (i.zero, i.size)) = some (some (.agg #[.int .i64 0, .int .i64 0]), 2) := by kernel_rfl
theorem load57 {W : World} {B : Nat} {cs : Array Value} (h : Row W B 76 cs) (hs : cs.size = 4) : (loadVar 76 ⟨B, 0, none⟩).run Tryz.prog W = .ok (.agg cs) W :=
  run_loadVar_row _ _ 76 76 cs (0, 0) _ h Tryz.underlying76 rfl (by rw [hs]; exact (zero_of_info Tryz.zero57).2)
theorem load30 {W : World} {B : Nat} {cs : Array Value} (h : Row W B 30 cs) (hs : cs.size = 2) : (loadVar 30 ⟨B, 0, none⟩).run Tryz.prog W = .ok (.agg cs) W :=
  run_loadVar_row _ _ 30 30 cs (0, 0) _ h Tryz.underlying30 rfl (by rw [hs]; exact (zero_of_info Tryz.zero30).2)
theorem Row.four {W : World} {B : Nat} {t : TypeId} {a b c d : Value} (h : Row W B t #[a, b, c, d]) :
    W.cell? ⟨B, 0, none⟩ = some a ∧ W.cell? ⟨B, 1, none⟩ = some b ∧ W.cell? ⟨B, 2, none⟩ = some c ∧ W.cell? ⟨B, 3, none⟩ = some d :=
  ⟨h.cell rfl, h.cell rfl, h.cell rfl, h.cell rfl⟩
theorem Row.duo {W : World} {B : Nat} {t : TypeId} {a b : Value} (h : Row W B t #[a, b]) : W.cell? ⟨B, 0, none⟩ = some a ∧ W.cell? ⟨B, 1, none⟩ = some b :=
  ⟨h.cell rfl, h.cell rfl⟩
theorem Row.set4 {W : World} {B : Nat} {t : TypeId} {a b c d : Value} (h : Row W B t #[a, b, c, d]) (a' b' c' d' : Value) :
    Row ((((W.setCell ⟨B, 0, none⟩ a').setCell ⟨B, 1, none⟩ b').setCell ⟨B, 2, none⟩ c').setCell ⟨B, 3, none⟩ d') B t #[a', b', c', d'] :=
  (((h.set 0 a').set 1 b').set 2 c').set 3 d'
theorem u64_wrap (c : Int) : IntKind.u64.wrap c = c % 18446744073709551616 := by
  simp [IntKind.wrap, IntKind.bits, IntKind.signed]
theorem u64_neg (c : Int) (h1 : -9223372036854775808 ≤ c) (hc : c < 0) : IntKind.u64.wrap (-IntKind.u64.wrap c) = ((c.natAbs : Nat) : Int) := by
  rw [u64_wrap, u64_wrap]
  omega

set_option maxRecDepth 100000 in
set_option maxHeartbeats 400000 in
theorem within_any (e : Int) (w : World) : Calls Tryz.prog 84 #[.int .i64 e] w fun r w' => r = .returned (.bool (decide (-18 ≤ e ∧ e ≤ 18))) ∧ w' = w := by
  by_cases h1 : -18 ≤ e
  · have e1 : decide (-18 ≤ e) = true := decide_eq_true h1
    have HF : Hid (decide (-18 ≤ e ∧ e ≤ 18) = decide (e ≤ 18)) := by show _ = _; rw [decide_eq_decide]; omega
    go_enter Tryz.func84, Tryz.ntmps84
    go_wp2
    go_ret
    exact ⟨by rw [HF.out]; rfl, rfl⟩
  · have e1 : decide (-18 ≤ e) = false := decide_eq_false h1
    go_enter Tryz.func84, Tryz.ntmps84
    go_wp2
    go_ret
    exact ⟨rfl, rfl⟩

set_option maxRecDepth 100000 in
set_option maxHeartbeats 400000 in
theorem zero_any (neg : Bool) (hi lo : Nat) (e : Int) (w : World) : Calls Tryz.prog 78 #[wv neg hi lo e] w fun r w' => r = .returned (.bool (decide (hi = 0 ∧ lo = 0))) ∧ Below w.heap.size w w' := by
  unfold wv
  by_cases h1 : hi = 0
  · subst h1
    have HF : Hid (decide (0 = 0 ∧ lo = 0) = ((lo : Int) == 0)) := by show _ = _; by_cases h : lo = 0 <;> simp [h]
    go_enter Tryz.func78, Tryz.ntmps78
    go_wp2
    go_ret
    exact ⟨by rw [← HF.out]; simp, (Below.refl _ w).alloc (Nat.le_refl _) _⟩
  · have e1 : ((hi : Int) == 0) = false := by simp; omega
    have HF : Hid (decide (hi = 0 ∧ lo = 0) = false) := by show _ = _; simp [h1]
    clear h1
    go_enter Tryz.func78, Tryz.ntmps78
    go_wp2
    go_ret
    exact ⟨by rw [HF.out]; rfl, (Below.refl _ w).alloc (Nat.le_refl _) _⟩

theorem i64_neg (lo : Nat) (h : lo ≤ 9223372036854775808) : wrap64 (IntKind.u64.wrap (-(lo : Int))) = -(lo : Int) := by
  rw [u64_wrap]
  unfold wrap64
  omega
set_option maxRecDepth 100000 in
set_option maxHeartbeats 800000 in
theorem signed_any (neg : Bool) (hi lo : Nat) (e : Int) (w : World) : Calls Tryz.prog 83 #[wv neg hi lo e] w fun r w' =>
    r = .returned (if hi = 0 ∧ lo ≤ 9223372036854775807 + neg.toNat then .tuple #[.int .i64 (if neg then -(lo : Int) else lo), .bool true] else .tuple #[.int .i64 0, .bool false]) ∧ Below w.heap.size w w' := by
  unfold wv
  have hb0 : ∀ o, Below w.heap.size w (w.alloc o) := fun o => (Below.refl _ w).alloc (Nat.le_refl _) _
  by_cases h1 : hi = 0
  · subst h1
    cases neg
    · by_cases h2 : lo ≤ 9223372036854775807
      · have h3 : ¬ ((9223372036854775807 : Int) < (lo : Int)) := by omega
        rw [if_pos ⟨rfl, by simpa using h2⟩]
        go_enter Tryz.func83, Tryz.ntmps83
        go_wp2
        exact bodyPost_ret (results_tmp2 rfl _ _ _) rfl ⟨rfl, hb0 _⟩
      · have h3 : ((9223372036854775807 : Int) < (lo : Int)) := by omega
        rw [if_neg (fun h => h2 (by simpa using h.2))]
        go_enter Tryz.func83, Tryz.ntmps83
        go_wp2
        exact bodyPost_ret (results_tmp2 rfl _ _ _) rfl ⟨rfl, hb0 _⟩
    · by_cases h2 : lo ≤ 9223372036854775808
      · have h3 : ¬ ((9223372036854775808 : Int) < (lo : Int)) := by omega
        have HN : Hid (wrap64 (IntKind.u64.wrap (-(lo : Int))) = -(lo : Int)) := i64_neg lo h2
        rw [if_pos ⟨rfl, by simpa using h2⟩]
        go_enter Tryz.func83, Tryz.ntmps83
        go_wp2
        rw [HN.out]
        exact bodyPost_ret (results_tmp2 rfl _ _ _) rfl ⟨rfl, hb0 _⟩
      · have h3 : ((9223372036854775808 : Int) < (lo : Int)) := by omega
        rw [if_neg (fun h => h2 (by simpa using h.2))]
        go_enter Tryz.func83, Tryz.ntmps83
        go_wp2
        exact bodyPost_ret (results_tmp2 rfl _ _ _) rfl ⟨rfl, hb0 _⟩
  · have h3 : ((hi : Int) != 0) = true := by simp; omega
    rw [if_neg (fun h => h1 h.1)]
    clear h1
    cases neg
    · go_enter Tryz.func83, Tryz.ntmps83
      go_wp2
      exact bodyPost_ret (results_tmp2 rfl _ _ _) rfl ⟨rfl, hb0 _⟩
    · go_enter Tryz.func83, Tryz.ntmps83
      go_wp2
      exact bodyPost_ret (results_tmp2 rfl _ _ _) rfl ⟨rfl, hb0 _⟩
end Go.Proofs.YtgihginfegckcaaGreatDoor
