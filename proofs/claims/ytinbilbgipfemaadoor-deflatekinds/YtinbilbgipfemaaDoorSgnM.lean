import Derived.Test.YtinbilbgipfemaaDoorSeaM
import Derived.RegionTactic
import Derived.Test.YtinbilbgipfemaaDoorOrdM
import Derived.Laws.ResultCell
import Derived.BigQuiet
import Derived.Deep.QuietTactic
import Derived.Test.YtinbilbgipfemaaDoorRgoM
/- The symbol of a length, or of a distance, and what stands behind it. -/
namespace Go.Proofs.YtinbilbgipfemaaDoor
open Go.RowKit

theorem ret2 {a b c d : Int} (h1 : a = b) (h2 : c = d) : (Value.tuple #[.int .i64 a, .int .i64 c]) = .tuple #[.int .i64 b, .int .i64 d] := by rw [h1, h2]
set_option maxHeartbeats 400000 in
theorem step_few (n g : Nat) (h : n < g) (w : World) : Calls Tryd.prog 66 #[.int .i64 (n : Int), .int .i64 (g : Int)] w fun e w' => e = .returned (.tuple #[.int .i64 (n : Int), .int .i64 0]) ∧ w' = w := by
  go_enter Tryd.func66, Tryd.ntmps66
  go_wp2
  go_ret2
  exact ⟨rfl, rfl⟩
theorem wrap64_id' (x : Int) (h : -9223372036854775808 ≤ x ∧ x ≤ 9223372036854775807) : wrap64 x = x := by simp [wrap64]; omega
theorem step2 (n : Nat) (h : n ≤ 32) : wrap64 ((2 + (n : Int) % 2) * 2 ^ (n / 2 - 1)) = (((2 + n % 2) * 2 ^ (n / 2 - 1) : Nat) : Int) := by
  have hb : ∀ n : Nat, n ≤ 32 → (2 + n % 2) * 2 ^ (n / 2 - 1) ≤ 1000000 := by decide
  have := hb n h
  have e : (2 + (n : Int) % 2) * 2 ^ (n / 2 - 1) = (((2 + n % 2) * 2 ^ (n / 2 - 1) : Nat) : Int) := by simp
  rw [e]
  exact wrap64_id' _ ⟨by omega, by omega⟩
theorem step4 (n : Nat) (h : n ≤ 32) : wrap64 ((4 + (n : Int) % 4) * 2 ^ (n / 4 - 1)) = (((4 + n % 4) * 2 ^ (n / 4 - 1) : Nat) : Int) := by
  have hb : ∀ n : Nat, n ≤ 32 → (4 + n % 4) * 2 ^ (n / 4 - 1) ≤ 1000000 := by decide
  have := hb n h
  have e : (4 + (n : Int) % 4) * 2 ^ (n / 4 - 1) = (((4 + n % 4) * 2 ^ (n / 4 - 1) : Nat) : Int) := by simp
  rw [e]
  exact wrap64_id' _ ⟨by omega, by omega⟩
set_option maxHeartbeats 400000 in
theorem step_more (n g : Nat) (h : ¬ n < g) (hg : g = 2 ∨ g = 4) (hn : n ≤ 32) (w : World) : Calls Tryd.prog 66 #[.int .i64 (n : Int), .int .i64 (g : Int)] w fun e w' => e = .returned (.tuple #[.int .i64 (((g + n % g) * 2 ^ (n / g - 1) : Nat) : Int), .int .i64 ((n / g - 1 : Nat) : Int)]) ∧ w' = w := by
  rcases hg with rfl | rfl
  · have H1 : Hid _ := step2 n hn
    go_enter Tryd.func66, Tryd.ntmps66
    go_wp2
    go_ret2
    exact ⟨congrArg Ending.returned (ret2 H1.out (by omega)), rfl⟩
  · have H1 : Hid _ := step4 n hn
    go_enter Tryd.func66, Tryd.ntmps66
    go_wp2
    go_ret2
    exact ⟨congrArg Ending.returned (ret2 H1.out (by omega)), rfl⟩
theorem step_any (n g : Nat) (hg : g = 2 ∨ g = 4) (hn : n ≤ 32) (w : World) : Calls Tryd.prog 66 #[.int .i64 (n : Int), .int .i64 (g : Int)] w fun e w' => e = .returned (.tuple #[.int .i64 (stepB n g : Int), .int .i64 (stepX n g : Int)]) ∧ w' = w := by
  unfold stepB stepX
  by_cases h : n < g
  · rw [if_pos h, if_pos h]
    exact step_few n g h w
  · rw [if_neg h, if_neg h]
    exact step_more n g h hg hn w
set_option maxHeartbeats 1000000 in
theorem lit_any (n : Nat) (hn : n < 29) (x : Int) (hx : x = 257 + (n : Int)) (w : World) : Calls Tryd.prog 47 #[.int .i64 x] w fun e w' => e = .returned (.tuple #[.int .i64 (litT n : Int), .int .i64 (litX n : Int), .bool true]) ∧ w' = w := by
  subst hx
  by_cases h3 : n = 28
  · subst h3
    go_enter Tryd.func47, Tryd.ntmps47
    go_wp2
    exact bodyPost_ret (v := .tuple #[.int .i64 258, .int .i64 0, .bool true]) (by simp [results, Tryd.f47, go_sem]) rfl ⟨rfl, rfl⟩
  · have e1 : Hid ((litT n : Int) = (stepB n 4 : Int) + 3) := by show _ = _; rw [litT, if_neg h3]; rfl
    have e2 : Hid ((litX n : Int) = (stepX n 4 : Int)) := by show _ = _; rw [litX, if_neg h3]
    have e3 : stepB n 4 ≤ 1000 := by have : ∀ n, n < 29 → stepB n 4 ≤ 1000 := by decide
                                     exact this n hn
    have HC : Hid (Calls Tryd.prog 66 #[.int .i64 (n : Int), .int .i64 4] w fun e w' => e = .returned (.tuple #[.int .i64 (stepB n 4 : Int), .int .i64 (stepX n 4 : Int)]) ∧ w' = w) := step_any n 4 (.inr rfl) (by omega) w
    have hsub : (257 : Int) + n - 257 = n := by omega
    have h1 : ¬ (257 : Int) + n < 257 := by omega
    have h2 : ¬ 285 < (257 : Int) + n := by omega
    have h4 : ¬ (257 : Int) + n = 285 := by omega
    go_enter Tryd.func47, Tryd.ntmps47
    go_wp2_with fail
    refine Calls.mono HC.out ?_
    rintro e w' ⟨rfl, rfl⟩
    go_wp2
    exact bodyPost_ret (v := .tuple #[.int .i64 (litT n : Int), .int .i64 (litX n : Int), .bool true]) (by rw [e1.out, e2.out]; simp [results, Tryd.f47, go_sem]) rfl ⟨rfl, rfl⟩
set_option maxHeartbeats 1000000 in
theorem dist_any (n : Nat) (hn : n < 30) (x : Int) (hx : x = 0 + (n : Int)) (w : World) : Calls Tryd.prog 48 #[.int .i64 x] w fun e w' => e = .returned (.tuple #[.int .i64 (distT n : Int), .int .i64 (distX n : Int), .bool true]) ∧ w' = w := by
  subst hx
  rw [Int.zero_add]
  have e1 : Hid ((distT n : Int) = (stepB n 2 : Int) + 1) := by show _ = _; rw [distT]; rfl
  have e2 : Hid ((distX n : Int) = (stepX n 2 : Int)) := by show _ = _; rw [distX]
  have e3 : stepB n 2 ≤ 100000 := by have : ∀ n, n < 30 → stepB n 2 ≤ 100000 := by decide
                                     exact this n hn
  have HC : Hid (Calls Tryd.prog 66 #[.int .i64 (n : Int), .int .i64 2] w fun e w' => e = .returned (.tuple #[.int .i64 (stepB n 2 : Int), .int .i64 (stepX n 2 : Int)]) ∧ w' = w) := step_any n 2 (.inl rfl) (by omega) w
  have h1 : ¬ (n : Int) < 0 := by omega
  have h2 : ¬ 29 < (n : Int) := by omega
  go_enter Tryd.func48, Tryd.ntmps48
  go_wp2_with fail
  refine Calls.mono HC.out ?_
  rintro e w' ⟨rfl, rfl⟩
  go_wp2
  exact bodyPost_ret (v := .tuple #[.int .i64 (distT n : Int), .int .i64 (distX n : Int), .bool true]) (by rw [e1.out, e2.out]; simp [results, Tryd.f48, go_sem]) rfl ⟨rfl, rfl⟩

set_option maxHeartbeats 1000000 in
theorem askL (A C D n i : Nat) (hi : i < 29) (w : World) (c7 : w.cell? ⟨A, 0, none⟩ = some (.func (.func 47) #[] #[])) (c5 : w.cell? ⟨C, 0, none⟩ = some (.int .i64 257)) (c4 : w.cell? ⟨D, 0, none⟩ = some (.int .i64 (n : Int))) :
    Calls Tryd.prog 65 #[.int .i64 (i : Int), .pointer (some ⟨A, 0, none⟩), .pointer (some ⟨C, 0, none⟩), .pointer (some ⟨D, 0, none⟩)] w fun e w' => e = .returned (.bool (decide (n < litT i))) ∧ w' = w := by
  have HC : Hid (∀ x : Int, x = 257 + (i : Int) → Calls Tryd.prog 47 #[.int .i64 x] w fun e w' => e = .returned (.tuple #[.int .i64 (litT i : Int), .int .i64 (litX i : Int), .bool true]) ∧ w' = w) := fun x hx => lit_any i hi x hx w
  go_enter Tryd.func65, Tryd.ntmps65
  go_wp2_with fail
  refine Calls.mono (HC.out _ (by first | rfl | omega | (simp [wrap64]; omega))) ?_
  rintro e w' ⟨rfl, rfl⟩
  go_wp2
  go_ret
  exact ⟨rfl, rfl⟩

set_option maxHeartbeats 1000000 in
theorem searchL (A C D n : Nat) (w : World) (c7 : w.cell? ⟨A, 0, none⟩ = some (.func (.func 47) #[] #[])) (c5 : w.cell? ⟨C, 0, none⟩ = some (.int .i64 257)) (c4 : w.cell? ⟨D, 0, none⟩ = some (.int .i64 (n : Int))) :
    Calls Tryd.prog 64 #[.int .i64 29, .func (.func 65) #[] #[.pointer (some ⟨A, 0, none⟩), .pointer (some ⟨C, 0, none⟩), .pointer (some ⟨D, 0, none⟩)]] w fun e w' => e = .returned (.int .i64 (rank litT 29 n : Int)) ∧ w' = w := by
  have hr := rank_le litT 29 n
  have HR : Hid (∀ i, i < 29 → (litT i ≤ n ↔ i < rank litT 29 n)) := rank_iff litT n 29 litT_mono
  have HA : Hid (∀ i : Nat, i < 29 → Calls Tryd.prog 65 #[.int .i64 (i : Int), .pointer (some ⟨A, 0, none⟩), .pointer (some ⟨C, 0, none⟩), .pointer (some ⟨D, 0, none⟩)] w fun e w' => e = .returned (.bool (decide (n < litT i))) ∧ w' = w) := fun i hi => askL A C D n i hi w c7 c5 c4
  clear c7 c5 c4
  generalize rank litT 29 n = r at hr HR
  go_enter Tryd.func64, Tryd.ntmps64
  go_wp2
  go_loopw [5, 6] (fun v5 v6 wr => ∃ i j : Nat, i ≤ r ∧ r ≤ j ∧ j ≤ 29 ∧ v5 = .int .i64 (i : Int) ∧ v6 = .int .i64 (j : Int) ∧ wr = w) (fun v5 v6 _ => (intOf v6).toNat - (intOf v5).toNat)
  case atStart => exact ⟨0, 29, by omega, hr, by omega, rfl, rfl, rfl⟩
  case round =>
    obtain ⟨i, j, h1, h2, h3, rfl, rfl, rfl⟩ := hrel
    by_cases hlt : i < j
    · obtain ⟨h, hh⟩ : ∃ h, h = (i + j) / 2 := ⟨_, rfl⟩
      have HH : Hid (((i : Int) + (j : Int)) / 2 = (h : Int)) := by show _ = _; omega
      have b1 : i ≤ h ∧ h < j := by omega
      have HQ : Hid (∀ x : Int, x = (h : Int) → Calls Tryd.prog 65 #[.int .i64 x, .pointer (some ⟨A, 0, none⟩), .pointer (some ⟨C, 0, none⟩), .pointer (some ⟨D, 0, none⟩)] wr fun e w' => e = .returned (.bool (decide (n < litT h))) ∧ w' = wr) := fun x hx => hx ▸ HA.out h (by omega)
      clear hh
      go_wp2_with fail
      refine Calls.mono (HQ.out _ (by first | exact HH.out | (have := HH.out; omega))) ?_
      rintro e w' ⟨rfl, rfl⟩
      have hrk := HR.out h (by omega)
      by_cases hb : n < litT h
      · have hle : r ≤ h := by
          by_cases hc : h < r
          · have := hrk.2 hc; omega
          · omega
        rw [show decide (n < litT h) = true from decide_eq_true hb]
        clear hb hrk
        go_wp2
        refine ⟨⟨i, h, h1, hle, by omega, rfl, ?_, by first | rfl | trivial⟩, ?_⟩
        · first | (rw [HH.out]) | (congr 1; exact HH.out) | go_num
        · simp only [intOf]; have := HH.out; omega
      · have hle : h + 1 ≤ r := by
          have := hrk.1 (by omega)
          omega
        rw [show decide (n < litT h) = false from decide_eq_false hb]
        clear hb hrk
        go_wp2
        refine ⟨⟨h + 1, j, hle, h2, h3, ?_, by first | rfl | trivial, by first | rfl | trivial⟩, ?_⟩
        · have := HH.out; first | (rw [HH.out]; go_num) | go_num
        · simp only [intOf]; have := HH.out; omega
    · obtain rfl : i = r := by omega
      go_wp2
      go_ret
      exact ⟨rfl, rfl⟩

set_option maxHeartbeats 1000000 in
theorem askD (A C D n i : Nat) (hi : i < 30) (w : World) (c7 : w.cell? ⟨A, 0, none⟩ = some (.func (.func 48) #[] #[])) (c5 : w.cell? ⟨C, 0, none⟩ = some (.int .i64 0)) (c4 : w.cell? ⟨D, 0, none⟩ = some (.int .i64 (n : Int))) :
    Calls Tryd.prog 65 #[.int .i64 (i : Int), .pointer (some ⟨A, 0, none⟩), .pointer (some ⟨C, 0, none⟩), .pointer (some ⟨D, 0, none⟩)] w fun e w' => e = .returned (.bool (decide (n < distT i))) ∧ w' = w := by
  have HC : Hid (∀ x : Int, x = 0 + (i : Int) → Calls Tryd.prog 48 #[.int .i64 x] w fun e w' => e = .returned (.tuple #[.int .i64 (distT i : Int), .int .i64 (distX i : Int), .bool true]) ∧ w' = w) := fun x hx => dist_any i hi x hx w
  go_enter Tryd.func65, Tryd.ntmps65
  go_wp2_with fail
  refine Calls.mono (HC.out _ (by first | rfl | omega | (simp [wrap64]; omega))) ?_
  rintro e w' ⟨rfl, rfl⟩
  go_wp2
  go_ret
  exact ⟨rfl, rfl⟩

set_option maxHeartbeats 1000000 in
theorem searchD (A C D n : Nat) (w : World) (c7 : w.cell? ⟨A, 0, none⟩ = some (.func (.func 48) #[] #[])) (c5 : w.cell? ⟨C, 0, none⟩ = some (.int .i64 0)) (c4 : w.cell? ⟨D, 0, none⟩ = some (.int .i64 (n : Int))) :
    Calls Tryd.prog 64 #[.int .i64 30, .func (.func 65) #[] #[.pointer (some ⟨A, 0, none⟩), .pointer (some ⟨C, 0, none⟩), .pointer (some ⟨D, 0, none⟩)]] w fun e w' => e = .returned (.int .i64 (rank distT 30 n : Int)) ∧ w' = w := by
  have hr := rank_le distT 30 n
  have HR : Hid (∀ i, i < 30 → (distT i ≤ n ↔ i < rank distT 30 n)) := rank_iff distT n 30 distT_mono
  have HA : Hid (∀ i : Nat, i < 30 → Calls Tryd.prog 65 #[.int .i64 (i : Int), .pointer (some ⟨A, 0, none⟩), .pointer (some ⟨C, 0, none⟩), .pointer (some ⟨D, 0, none⟩)] w fun e w' => e = .returned (.bool (decide (n < distT i))) ∧ w' = w) := fun i hi => askD A C D n i hi w c7 c5 c4
  clear c7 c5 c4
  generalize rank distT 30 n = r at hr HR
  go_enter Tryd.func64, Tryd.ntmps64
  go_wp2
  go_loopw [5, 6] (fun v5 v6 wr => ∃ i j : Nat, i ≤ r ∧ r ≤ j ∧ j ≤ 30 ∧ v5 = .int .i64 (i : Int) ∧ v6 = .int .i64 (j : Int) ∧ wr = w) (fun v5 v6 _ => (intOf v6).toNat - (intOf v5).toNat)
  case atStart => exact ⟨0, 30, by omega, hr, by omega, rfl, rfl, rfl⟩
  case round =>
    obtain ⟨i, j, h1, h2, h3, rfl, rfl, rfl⟩ := hrel
    by_cases hlt : i < j
    · obtain ⟨h, hh⟩ : ∃ h, h = (i + j) / 2 := ⟨_, rfl⟩
      have HH : Hid (((i : Int) + (j : Int)) / 2 = (h : Int)) := by show _ = _; omega
      have b1 : i ≤ h ∧ h < j := by omega
      have HQ : Hid (∀ x : Int, x = (h : Int) → Calls Tryd.prog 65 #[.int .i64 x, .pointer (some ⟨A, 0, none⟩), .pointer (some ⟨C, 0, none⟩), .pointer (some ⟨D, 0, none⟩)] wr fun e w' => e = .returned (.bool (decide (n < distT h))) ∧ w' = wr) := fun x hx => hx ▸ HA.out h (by omega)
      clear hh
      go_wp2_with fail
      refine Calls.mono (HQ.out _ (by first | exact HH.out | (have := HH.out; omega))) ?_
      rintro e w' ⟨rfl, rfl⟩
      have hrk := HR.out h (by omega)
      by_cases hb : n < distT h
      · have hle : r ≤ h := by
          by_cases hc : h < r
          · have := hrk.2 hc; omega
          · omega
        rw [show decide (n < distT h) = true from decide_eq_true hb]
        clear hb hrk
        go_wp2
        refine ⟨⟨i, h, h1, hle, by omega, rfl, ?_, by first | rfl | trivial⟩, ?_⟩
        · first | (rw [HH.out]) | (congr 1; exact HH.out) | go_num
        · simp only [intOf]; have := HH.out; omega
      · have hle : h + 1 ≤ r := by
          have := hrk.1 (by omega)
          omega
        rw [show decide (n < distT h) = false from decide_eq_false hb]
        clear hb hrk
        go_wp2
        refine ⟨⟨h + 1, j, hle, h2, h3, ?_, by first | rfl | trivial, by first | rfl | trivial⟩, ?_⟩
        · have := HH.out; first | (rw [HH.out]; go_num) | go_num
        · simp only [intOf]; have := HH.out; omega
    · obtain rfl : i = r := by omega
      go_wp2
      go_ret
      exact ⟨rfl, rfl⟩

end Go.Proofs.YtinbilbgipfemaaDoor
/- signOf, lengthSign, distSign. -/
namespace Go.Proofs.YtinbilbgipfemaaDoor
open Go.RowKit

/-- The symbol and what stands behind it, as the program holds it. -/
def sgnV (s : Nat) (f : Fd) : Value := .agg #[.int .i64 (s : Int), .int .u32 (f.1 : Int), .int .i64 (f.2 : Int)]

set_option maxRecDepth 100000 in
set_option maxHeartbeats 1000000 in
theorem signL (n : Nat) (h1 : 3 ≤ n) (h2 : n ≤ 258) (w : World) :
    Calls Tryd.prog 46 #[.int .i64 (n : Int), .int .i64 257, .int .i64 286, .func (.func 47) #[] #[]] w fun e w' => e = .returned (sgnV (257 + lenI n) (lenF n)) ∧ Below w.heap.size w w' := by
  obtain ⟨e1, e2, e3, e4⟩ := lenI_ok n h1 h2
  have HF : Hid (lenF n = (n - litT (lenI n), litX (lenI n))) := rfl
  generalize hi : lenI n = i at e1 e2 e3 e4 HF
  have hb := litT_bd i e2
  generalize hw1 : ((((w.alloc (.cells #[.int .i64 (n : Int)] 3)).alloc (.cells #[.int .i64 257] 3)).alloc (.cells #[.func (.func 47) #[] #[]] 98)).alloc (.cells #[.int .i64 0, .int .u32 0, .int .i64 0] 81)) = w1
  have hB : Below w.heap.size w w1 := by subst hw1; exact ((((Below.refl _ w).alloc (Nat.le_refl _) _).alloc (by simp) _).alloc (by simp; omega) _).alloc (by simp; omega) _
  have r4 : Row w1 w.heap.size 3 #[.int .i64 (n : Int)] := by subst hw1; exact (((Row.new w 3 _).alloc _).alloc _).alloc _
  have r5 : Row w1 (w.heap.size + 1) 3 #[.int .i64 257] := by
    subst hw1
    have := (((Row.new (w.alloc (.cells #[.int .i64 (n : Int)] 3)) 3 #[.int .i64 257]).alloc (.cells #[.func (.func 47) #[] #[]] 98)).alloc (.cells #[.int .i64 0, .int .u32 0, .int .i64 0] 81))
    rw [World.size_alloc] at this
    exact this
  have r7 : Row w1 (w.heap.size + 1 + 1) 98 #[.func (.func 47) #[] #[]] := by
    subst hw1
    have := (Row.new ((w.alloc (.cells #[.int .i64 (n : Int)] 3)).alloc (.cells #[.int .i64 257] 3)) 98 #[.func (.func 47) #[] #[]]).alloc (.cells #[.int .i64 0, .int .u32 0, .int .i64 0] 81)
    rw [World.size_alloc, World.size_alloc] at this
    exact this
  have r8 : Row w1 (w.heap.size + 1 + 1 + 1) 81 #[.int .i64 0, .int .u32 0, .int .i64 0] := by
    subst hw1
    have := Row.new (((w.alloc (.cells #[.int .i64 (n : Int)] 3)).alloc (.cells #[.int .i64 257] 3)).alloc (.cells #[.func (.func 47) #[] #[]] 98)) 81 #[.int .i64 0, .int .u32 0, .int .i64 0]
    rw [World.size_alloc, World.size_alloc, World.size_alloc] at this
    exact this
  have c4 := r4.cell (i := 0) rfl
  have c5 := r5.cell (i := 0) rfl
  have c7 := r7.cell (i := 0) rfl
  have HS : Hid (∀ q, Calls Tryd.prog 64 #[.int .i64 29, .func (.func 65) #[] #[.pointer (some ⟨w.heap.size + 1 + 1, 0, none⟩), .pointer (some ⟨w.heap.size + 1, 0, none⟩), .pointer (some ⟨w.heap.size, 0, none⟩)]] (w1.drewN q) fun e w' => e = .returned (.int .i64 (((i + 1 : Nat)) : Int)) ∧ w' = w1.drewN q) := fun q => by
    have := searchL (w.heap.size + 1 + 1) (w.heap.size + 1) w.heap.size n (w1.drewN q) c7 c5 c4
    rw [e1] at this
    exact this
  go_enter Tryd.func46, Tryd.ntmps46
  go_wp2_with fail
  go_quiet (first | (go_at_call 64; exact Calls.quiet_of_same (HS.out _)))
  clear HS
  have HL : Hid (∀ x : Int, x = 257 + (i : Int) → Calls Tryd.prog 47 #[.int .i64 x] (w1.drewN nq) fun e w' => e = .returned (.tuple #[.int .i64 (litT i : Int), .int .i64 (litX i : Int), .bool true]) ∧ w' = w1.drewN nq) := fun x hx => lit_any i e2 x hx _
  have c4' : (w1.drewN nq).cell? ⟨w.heap.size, 0, none⟩ = some (.int .i64 (n : Int)) := c4
  have c7' : (w1.drewN nq).cell? ⟨w.heap.size + 1 + 1, 0, none⟩ = some (.func (.func 47) #[] #[]) := c7
  have r8' : Row (w1.drewN nq) (w.heap.size + 1 + 1 + 1) 81 #[.int .i64 0, .int .u32 0, .int .i64 0] := r8
  have hB' : Below w.heap.size w (w1.drewN nq) := ⟨hB.os, hB.tape, hB.output, hB.size, hB.block⟩
  clear hw1 r4 r5 r7 r8 c4 c5 c7 hB
  generalize w1.drewN nq = w2 at *
  have d0 := r8'.cell (i := 0) rfl
  have d1 := r8'.cell (i := 1) rfl
  have d2 := r8'.cell (i := 2) rfl
  have f0 := r8'.frozen 0
  have f1 := r8'.frozen 1
  have f2 := r8'.frozen 2
  go_wp2_with fail
  refine Calls.mono (HL.out _ (by first | rfl | omega)) ?_
  clear HL
  rintro e w' ⟨rfl, rfl⟩
  have hc1 : (256 : Int) + ((i : Int) + 1) = (((257 + i : Nat)) : Int) := by omega
  have hc2 : (n : Int) - (litT i : Int) = ((n - litT i : Nat) : Int) := by omega
  go_wp2
  rw [HF.out]
  have hR := ((r8'.set 0 (.int .i64 (((257 + i : Nat)) : Int))).set 1 (.int .u32 ((n - litT i : Nat) : Int))).set 2 (.int .i64 (litX i : Int))
  try simp only [hc1, hc2]
  refine bodyPost_ret (v := sgnV (257 + i) (n - litT i, litX i)) (results_cell_row rfl _ _ (w.heap.size + 1 + 1 + 1) 81 _ (0, 0) _ rfl hR Tryd.underlying81 rfl (by kernel_rfl)) rfl ⟨rfl, ?_⟩
  have hk : Kept (fun k => k < w.heap.size) w _ := (((Kept.of_below (S := fun k => k < w.heap.size) hB' (fun _ h => h)).setCell (p := ⟨w.heap.size + 1 + 1 + 1, 0, none⟩) (by show ¬ w.heap.size + 1 + 1 + 1 < w.heap.size; omega) (.int .i64 (((257 + i : Nat)) : Int))).setCell (p := ⟨w.heap.size + 1 + 1 + 1, 1, none⟩) (by show ¬ w.heap.size + 1 + 1 + 1 < w.heap.size; omega) (.int .u32 ((n - litT i : Nat) : Int))).setCell (p := ⟨w.heap.size + 1 + 1 + 1, 2, none⟩) (by show ¬ w.heap.size + 1 + 1 + 1 < w.heap.size; omega) (.int .i64 (litX i : Int))
  exact hk.below (fun _ h => h)

set_option maxRecDepth 100000 in
set_option maxHeartbeats 1000000 in
theorem signD (n : Nat) (h1 : 1 ≤ n) (h2 : n ≤ 32768) (w : World) :
    Calls Tryd.prog 46 #[.int .i64 (n : Int), .int .i64 0, .int .i64 30, .func (.func 48) #[] #[]] w fun e w' => e = .returned (sgnV (distI n) (dstF n)) ∧ Below w.heap.size w w' := by
  obtain ⟨e1, e2, e3, e4⟩ := distI_ok n h1 h2
  have HF : Hid (dstF n = (n - distT (distI n), distX (distI n))) := rfl
  generalize hi : distI n = i at e1 e2 e3 e4 HF
  have hb := distT_bd i e2
  generalize hw1 : ((((w.alloc (.cells #[.int .i64 (n : Int)] 3)).alloc (.cells #[.int .i64 0] 3)).alloc (.cells #[.func (.func 48) #[] #[]] 98)).alloc (.cells #[.int .i64 0, .int .u32 0, .int .i64 0] 81)) = w1
  have hB : Below w.heap.size w w1 := by subst hw1; exact ((((Below.refl _ w).alloc (Nat.le_refl _) _).alloc (by simp) _).alloc (by simp; omega) _).alloc (by simp; omega) _
  have r4 : Row w1 w.heap.size 3 #[.int .i64 (n : Int)] := by subst hw1; exact (((Row.new w 3 _).alloc _).alloc _).alloc _
  have r5 : Row w1 (w.heap.size + 1) 3 #[.int .i64 0] := by
    subst hw1
    have := (((Row.new (w.alloc (.cells #[.int .i64 (n : Int)] 3)) 3 #[.int .i64 0]).alloc (.cells #[.func (.func 48) #[] #[]] 98)).alloc (.cells #[.int .i64 0, .int .u32 0, .int .i64 0] 81))
    rw [World.size_alloc] at this
    exact this
  have r7 : Row w1 (w.heap.size + 1 + 1) 98 #[.func (.func 48) #[] #[]] := by
    subst hw1
    have := (Row.new ((w.alloc (.cells #[.int .i64 (n : Int)] 3)).alloc (.cells #[.int .i64 0] 3)) 98 #[.func (.func 48) #[] #[]]).alloc (.cells #[.int .i64 0, .int .u32 0, .int .i64 0] 81)
    rw [World.size_alloc, World.size_alloc] at this
    exact this
  have r8 : Row w1 (w.heap.size + 1 + 1 + 1) 81 #[.int .i64 0, .int .u32 0, .int .i64 0] := by
    subst hw1
    have := Row.new (((w.alloc (.cells #[.int .i64 (n : Int)] 3)).alloc (.cells #[.int .i64 0] 3)).alloc (.cells #[.func (.func 48) #[] #[]] 98)) 81 #[.int .i64 0, .int .u32 0, .int .i64 0]
    rw [World.size_alloc, World.size_alloc, World.size_alloc] at this
    exact this
  have c4 := r4.cell (i := 0) rfl
  have c5 := r5.cell (i := 0) rfl
  have c7 := r7.cell (i := 0) rfl
  have HS : Hid (∀ q, Calls Tryd.prog 64 #[.int .i64 30, .func (.func 65) #[] #[.pointer (some ⟨w.heap.size + 1 + 1, 0, none⟩), .pointer (some ⟨w.heap.size + 1, 0, none⟩), .pointer (some ⟨w.heap.size, 0, none⟩)]] (w1.drewN q) fun e w' => e = .returned (.int .i64 (((i + 1 : Nat)) : Int)) ∧ w' = w1.drewN q) := fun q => by
    have := searchD (w.heap.size + 1 + 1) (w.heap.size + 1) w.heap.size n (w1.drewN q) c7 c5 c4
    rw [e1] at this
    exact this
  go_enter Tryd.func46, Tryd.ntmps46
  go_wp2_with fail
  go_quiet (first | (go_at_call 64; exact Calls.quiet_of_same (HS.out _)))
  clear HS
  have HL : Hid (∀ x : Int, x = 0 + (i : Int) → Calls Tryd.prog 48 #[.int .i64 x] (w1.drewN nq) fun e w' => e = .returned (.tuple #[.int .i64 (distT i : Int), .int .i64 (distX i : Int), .bool true]) ∧ w' = w1.drewN nq) := fun x hx => dist_any i e2 x hx _
  have c4' : (w1.drewN nq).cell? ⟨w.heap.size, 0, none⟩ = some (.int .i64 (n : Int)) := c4
  have c7' : (w1.drewN nq).cell? ⟨w.heap.size + 1 + 1, 0, none⟩ = some (.func (.func 48) #[] #[]) := c7
  have r8' : Row (w1.drewN nq) (w.heap.size + 1 + 1 + 1) 81 #[.int .i64 0, .int .u32 0, .int .i64 0] := r8
  have hB' : Below w.heap.size w (w1.drewN nq) := ⟨hB.os, hB.tape, hB.output, hB.size, hB.block⟩
  clear hw1 r4 r5 r7 r8 c4 c5 c7 hB
  generalize w1.drewN nq = w2 at *
  have d0 := r8'.cell (i := 0) rfl
  have d1 := r8'.cell (i := 1) rfl
  have d2 := r8'.cell (i := 2) rfl
  have f0 := r8'.frozen 0
  have f1 := r8'.frozen 1
  have f2 := r8'.frozen 2
  go_wp2_with fail
  refine Calls.mono (HL.out _ (by first | rfl | omega)) ?_
  clear HL
  rintro e w' ⟨rfl, rfl⟩
  have hc1 : (-1 : Int) + ((i : Int) + 1) = (i : Int) := by omega
  have hc2 : (n : Int) - (distT i : Int) = ((n - distT i : Nat) : Int) := by omega
  go_wp2
  rw [HF.out]
  have hR := ((r8'.set 0 (.int .i64 (i : Int))).set 1 (.int .u32 ((n - distT i : Nat) : Int))).set 2 (.int .i64 (distX i : Int))
  try simp only [hc1, hc2]
  refine bodyPost_ret (v := sgnV i (n - distT i, distX i)) (results_cell_row rfl _ _ (w.heap.size + 1 + 1 + 1) 81 _ (0, 0) _ rfl hR Tryd.underlying81 rfl (by kernel_rfl)) rfl ⟨rfl, ?_⟩
  have hk : Kept (fun k => k < w.heap.size) w _ := (((Kept.of_below (S := fun k => k < w.heap.size) hB' (fun _ h => h)).setCell (p := ⟨w.heap.size + 1 + 1 + 1, 0, none⟩) (by show ¬ w.heap.size + 1 + 1 + 1 < w.heap.size; omega) (.int .i64 (i : Int))).setCell (p := ⟨w.heap.size + 1 + 1 + 1, 1, none⟩) (by show ¬ w.heap.size + 1 + 1 + 1 < w.heap.size; omega) (.int .u32 ((n - distT i : Nat) : Int))).setCell (p := ⟨w.heap.size + 1 + 1 + 1, 2, none⟩) (by show ¬ w.heap.size + 1 + 1 + 1 < w.heap.size; omega) (.int .i64 (distX i : Int))
  exact hk.below (fun _ h => h)


set_option maxRecDepth 100000 in
set_option maxHeartbeats 1000000 in
theorem lengthSign_any (n : Nat) (h1 : 3 ≤ n) (h2 : n ≤ 258) (w : World) : Calls Tryd.prog 30 #[.int .i64 (n : Int)] w fun e w' => e = .returned (sgnV (257 + lenI n) (lenF n)) ∧ Below w.heap.size w w' := by
  have HS0 := signL n h1 h2 (w.alloc (.cells #[.int .i64 0, .int .u32 0, .int .i64 0] 81))
  generalize 257 + lenI n = s at HS0 ⊢
  generalize lenF n = f at HS0 ⊢
  obtain ⟨fv, fw⟩ := f
  simp only [sgnV] at HS0 ⊢
  have HS : Hid (Calls Tryd.prog 46 #[.int .i64 (n : Int), .int .i64 257, .int .i64 286, .func (.func 47) #[] #[]] (w.alloc (.cells #[.int .i64 0, .int .u32 0, .int .i64 0] 81)) _) := HS0
  clear HS0
  have hB : Below w.heap.size w (w.alloc (.cells #[.int .i64 0, .int .u32 0, .int .i64 0] 81)) := (Below.refl _ w).alloc (Nat.le_refl _) _
  have r0 := Row.new w 81 #[.int .i64 0, .int .u32 0, .int .i64 0]
  go_enter Tryd.func30, Tryd.ntmps30
  go_wp2_with fail
  refine Calls.mono HS.out ?_
  clear HS
  rintro e w' ⟨rfl, hb⟩
  have r1 : Row w' w.heap.size 81 #[.int .i64 0, .int .u32 0, .int .i64 0] := r0.below hb (by simp)
  have hB' : Below w.heap.size w w' := hB.trans (hb.mono (by simp))
  clear hb hB r0
  have d0 := r1.cell (i := 0) rfl
  have d1 := r1.cell (i := 1) rfl
  have d2 := r1.cell (i := 2) rfl
  have f0 := r1.frozen 0
  have f1 := r1.frozen 1
  have f2 := r1.frozen 2
  go_wp2
  have hR := ((r1.set 0 (.int .i64 (s : Int))).set 1 (.int .u32 (fv : Int))).set 2 (.int .i64 (fw : Int))
  refine bodyPost_ret (v := .agg #[.int .i64 (s : Int), .int .u32 (fv : Int), .int .i64 (fw : Int)]) (results_cell_row rfl _ _ w.heap.size 81 _ (0, 0) _ rfl hR Tryd.underlying81 rfl (by kernel_rfl)) rfl ⟨rfl, ?_⟩
  have hk : Kept (fun k => k < w.heap.size) w _ := (((Kept.of_below (S := fun k => k < w.heap.size) hB' (fun _ h => h)).setCell (p := ⟨w.heap.size, 0, none⟩) (by show ¬ w.heap.size < w.heap.size; omega) (.int .i64 (s : Int))).setCell (p := ⟨w.heap.size, 1, none⟩) (by show ¬ w.heap.size < w.heap.size; omega) (.int .u32 (fv : Int))).setCell (p := ⟨w.heap.size, 2, none⟩) (by show ¬ w.heap.size < w.heap.size; omega) (.int .i64 (fw : Int))
  exact hk.below (fun _ h => h)

set_option maxRecDepth 100000 in
set_option maxHeartbeats 1000000 in
theorem distSign_any (n : Nat) (h1 : 1 ≤ n) (h2 : n ≤ 32768) (w : World) : Calls Tryd.prog 31 #[.int .i64 (n : Int)] w fun e w' => e = .returned (sgnV (distI n) (dstF n)) ∧ Below w.heap.size w w' := by
  have HS0 := signD n h1 h2 (w.alloc (.cells #[.int .i64 0, .int .u32 0, .int .i64 0] 81))
  generalize distI n = s at HS0 ⊢
  generalize dstF n = f at HS0 ⊢
  obtain ⟨fv, fw⟩ := f
  simp only [sgnV] at HS0 ⊢
  have HS : Hid (Calls Tryd.prog 46 #[.int .i64 (n : Int), .int .i64 0, .int .i64 30, .func (.func 48) #[] #[]] (w.alloc (.cells #[.int .i64 0, .int .u32 0, .int .i64 0] 81)) _) := HS0
  clear HS0
  have hB : Below w.heap.size w (w.alloc (.cells #[.int .i64 0, .int .u32 0, .int .i64 0] 81)) := (Below.refl _ w).alloc (Nat.le_refl _) _
  have r0 := Row.new w 81 #[.int .i64 0, .int .u32 0, .int .i64 0]
  go_enter Tryd.func31, Tryd.ntmps31
  go_wp2_with fail
  refine Calls.mono HS.out ?_
  clear HS
  rintro e w' ⟨rfl, hb⟩
  have r1 : Row w' w.heap.size 81 #[.int .i64 0, .int .u32 0, .int .i64 0] := r0.below hb (by simp)
  have hB' : Below w.heap.size w w' := hB.trans (hb.mono (by simp))
  clear hb hB r0
  have d0 := r1.cell (i := 0) rfl
  have d1 := r1.cell (i := 1) rfl
  have d2 := r1.cell (i := 2) rfl
  have f0 := r1.frozen 0
  have f1 := r1.frozen 1
  have f2 := r1.frozen 2
  go_wp2
  have hR := ((r1.set 0 (.int .i64 (s : Int))).set 1 (.int .u32 (fv : Int))).set 2 (.int .i64 (fw : Int))
  refine bodyPost_ret (v := .agg #[.int .i64 (s : Int), .int .u32 (fv : Int), .int .i64 (fw : Int)]) (results_cell_row rfl _ _ w.heap.size 81 _ (0, 0) _ rfl hR Tryd.underlying81 rfl (by kernel_rfl)) rfl ⟨rfl, ?_⟩
  have hk : Kept (fun k => k < w.heap.size) w _ := (((Kept.of_below (S := fun k => k < w.heap.size) hB' (fun _ h => h)).setCell (p := ⟨w.heap.size, 0, none⟩) (by show ¬ w.heap.size < w.heap.size; omega) (.int .i64 (s : Int))).setCell (p := ⟨w.heap.size, 1, none⟩) (by show ¬ w.heap.size < w.heap.size; omega) (.int .u32 (fv : Int))).setCell (p := ⟨w.heap.size, 2, none⟩) (by show ¬ w.heap.size < w.heap.size; omega) (.int .i64 (fw : Int))
  exact hk.below (fun _ h => h)
end Go.Proofs.YtinbilbgipfemaaDoor
/- The iterator over the items that tell a text. -/
namespace Go.Proofs.YtinbilbgipfemaaDoor
open Go.RowKit Go.Shelf

attribute [local go_sem] Oper.semAt_some

def It.size (r : It) : Nat := (max 1 r.l).toNat
def told : List It → Nat
  | [] => 0
  | r :: rs => r.size + told rs
theorem told_snoc (pre : List It) (r : It) : told (pre ++ [r]) = told pre + r.size := by
  induction pre with
  | nil => simp [told]
  | cons y ys ih => simp [told, ih]; omega
/-- What may come next: an item that tells what stands there; no byte where the byte ahead stands three times more. -/
def ItemOf (T : List Int) (q : Nat) (pre : List It) (r : It) : Prop :=
  told pre < q ∧ ItemOk T (told pre) q r ∧ (r.l = 0 → told pre + 3 ≤ q → 1 ≤ told pre → ¬ ∀ i, i < 3 → T[told pre - 1 + i]?.getD 0 = T[told pre + i]?.getD 0)
theorem ItemOk.size {T : List Int} {p q : Nat} {r : It} (h : ItemOk T p q r) (hp : p < q) : 1 ≤ r.size ∧ p + r.size ≤ q ∧ max 1 r.l = (r.size : Int) := by
  unfold It.size
  rcases h with ⟨h1, _, _⟩ | ⟨_, l, d, h1, _, h2, h3, h4, _⟩
  · rw [h1]; simp; omega
  · rw [h1]; omega
set_option maxRecDepth 100000 in
set_option maxHeartbeats 400000 in
theorem items_any (F p q : Nat) (w : World) : Calls Tryd.prog 19 #[.pointer (some ⟨F, 0, none⟩), .int .i64 (p : Int), .int .i64 (q : Int)] w fun e w' =>
    e = .returned (.func (.func 32) #[] #[.pointer (some ⟨w.heap.size + 1, 0, none⟩), .pointer (some ⟨w.heap.size + 1 + 1, 0, none⟩), .pointer (some ⟨w.heap.size, 0, none⟩)]) ∧ w' = ((w.alloc (.cells #[.pointer (some ⟨F, 0, none⟩)] 48)).alloc (.cells #[.int .i64 (p : Int)] 3)).alloc (.cells #[.int .i64 (q : Int)] 3) := by
  go_enter Tryd.func19, Tryd.ntmps19
  go_wp2
  go_ret
  exact ⟨by simp, rfl⟩

end Go.Proofs.YtinbilbgipfemaaDoor
/- The iterator over the items that tell a part of a text, and the finder behind it. -/
namespace Go.Proofs.YtinbilbgipfemaaDoor
open Go.RowKit Go.Shelf

attribute [local go_sem] Oper.semAt_some

/-- What may come next of the text between p and q. -/
def ItemAt (T : List Int) (p q : Nat) (pre : List It) (r : It) : Prop := p + told pre < q ∧ ItemOk T (p + told pre) q r

set_option maxRecDepth 100000 in
set_option maxHeartbeats 4000000 in
theorem items_seqP (n : Nat) (D : Nat → Prop) (F H P Bf Bt Bp : Nat) (a : Option Addr) (cap m : Nat) (T hs0 bs0 : List Int) (p q : Nat) (hpq : p ≤ q) (hq : q ≤ T.length) (hm : 1 ≤ m ∧ m ≤ 32768) (hl : T.length ≤ 2000000) (hT : AreBytes T) (hC0 : ChainOk T m p hs0 bs0)
    (w : World) (hDw : ∀ k, (D k ∨ k = F ∨ k = H ∨ k = P) → k < w.heap.size) (hBw : Bf < w.heap.size ∧ Bt < w.heap.size ∧ Bp < w.heap.size) (hBz : (Bf ≠ H ∧ Bf ≠ P) ∧ (Bt ≠ H ∧ Bt ≠ P) ∧ (Bp ≠ H ∧ Bp ≠ P)) (hF : FindAt D F H P a cap m T hs0 bs0 w)
    (c1 : w.cell? ⟨Bf, 0, none⟩ = some (.int .i64 (p : Int))) (c2 : w.cell? ⟨Bt, 0, none⟩ = some (.int .i64 (q : Int))) (c3 : w.cell? ⟨Bp, 0, none⟩ = some (.pointer (some ⟨F, 0, none⟩))) :
    SeqOwnE Fence.wide n Tryd.prog 32 #[.pointer (some ⟨Bf, 0, none⟩), .pointer (some ⟨Bt, 0, none⟩), .pointer (some ⟨Bp, 0, none⟩)] (fun r : It => #[r.val]) (fun k => k = H ∨ k = P) (fun k => (D k ∨ k = F ∨ k = H ∨ k = P) ∨ k = Bf ∨ k = Bt ∨ k = Bp) (ItemAt T p q) (fun xs V => p + told xs = q ∧ ∃ hs bs, FindAt D F H P a cap m T hs bs V ∧ ChainOk T m q hs bs) w := by
  intro l J W hW hJs hJo hY h0
  have hKW : Kept (fun k => k < w.heap.size) w W := Kept.of_below hW (fun _ h => h)
  have d1 := (hKW.cell (p := ⟨Bf, 0, none⟩) hBw.1).trans c1
  have d2 := (hKW.cell (p := ⟨Bt, 0, none⟩) hBw.2.1).trans c2
  have d3 := (hKW.cell (p := ⟨Bp, 0, none⟩) hBw.2.2).trans c3
  have hFW := hF.kept hKW hDw
  have HSZ : Hid (w.heap.size ≤ W.heap.size) := hKW.size
  have HJs : Hid _ := hJs
  have HJo : Hid _ := hJo
  have HY : Hid _ := hY
  obtain ⟨own0, h0⟩ := h0
  clear hW hKW c1 c2 c3 hF hJs hJo hY
  refine callsIn_of_wp Tryd.func32 rfl trivial ?_ rfl
  simp only [Tryd.ntmps32, List.size_toArray, List.length_cons, List.length_nil, Nat.reduceAdd, Nat.reduceSub, Array.replicate_succ, Array.replicate_zero, List.push_toArray, List.append_toArray, List.nil_append, List.cons_append]
  have HJ0 : Hid (J [] own0 W) := h0
  have HFW : Hid _ := hFW
  have HC0 : Hid _ := hC0
  clear h0 hFW hC0
  gi_wp2
  gi_loopw [5] (fun v5 wr => ∃ (pre : List It) (hs bs : List Int) (own : Nat → Prop), v5 = .int .i64 ((p + told pre : Nat) : Int) ∧ p + told pre ≤ q ∧ Hid (FindAt D F H P a cap m T hs bs wr) ∧ Hid (ChainOk T m (p + told pre) hs bs) ∧ Hid (J pre own wr) ∧ Hid (Kept (fun k => k = Bf ∨ k = Bt ∨ k = Bp) W wr)) (fun v5 _ => q - (intOf v5).toNat)
  case atStart => exact ⟨[], hs0, bs0, own0, rfl, hpq, HFW, HC0, HJ0, Kept.refl _ _⟩
  case round =>
    obtain ⟨pre, hs, bs, own, rfl, hle, HF, HC, HJ, HK⟩ := hrel
    have g2 := (HK.out.cell (p := ⟨Bt, 0, none⟩) (.inr (.inl rfl))).trans d2
    have g3 := (HK.out.cell (p := ⟨Bp, 0, none⟩) (.inr (.inr rfl))).trans d3
    obtain ⟨tp, HTP⟩ : ∃ tp, Hid (p + told pre = tp) := ⟨_, rfl⟩
    rw [HTP.out] at hle HC ⊢
    by_cases hlt : tp < q
    rotate_left
    · have t1 : ¬ ((tp : Int) < (q : Int)) := by omega
      gi_wp2
      go_end0
      obtain rfl : tp = q := by omega
      exact ⟨⟨_, rfl⟩, pre, ⟨HTP.out, hs, bs, HF.out, HC.out⟩, own, HJ.out⟩
    · have t1 : (tp : Int) < (q : Int) := by omega
      have HI : Hid (Calls Tryd.prog 33 #[.pointer (some ⟨F, 0, none⟩), .int .i64 (tp : Int), .int .i64 (q : Int)] wr _) := item_any D F H P a cap m T hs bs wr (fun k h => by have := hDw k h; have := HSZ.out; have := HK.out.size; omega) HF.out tp q hlt hq hm hl hT HC.out
      gi_wp2_with fail
      refine ⟨trivial, (fun h => by cases h), (callsIn_wide.2 HI.out).mono ?_⟩
      clear HI
      rintro e w1 ⟨hb1, ⟨rb, rl, rd⟩, rfl, hOk, hNo⟩
      have HIO : Hid (ItemAt T p q pre ⟨rb, rl, rd⟩) := by show ItemAt _ _ _ _ _; unfold ItemAt; rw [HTP.out]; exact ⟨hlt, hOk⟩
      have HSI : Hid _ := hOk.size hlt
      have hkV : Kept (fun k => k < wr.heap.size) wr (w1.alloc (.cells #[.int .i64 rb, .int .i64 rl, .int .i64 rd] 32)) := (Kept.of_below hb1 (fun _ h => h)).alloc (fun k (h : k < wr.heap.size) => Nat.lt_of_lt_of_le h hb1.size) _
      have HJV : Hid (J pre own (w1.alloc (.cells #[.int .i64 rb, .int .i64 rl, .int .i64 rd] 32))) := HJs.out _ _ _ _ HJ.out (hkV.mono (fun k h => h.1))
      have HRV := Row.new w1 32 #[.int .i64 rb, .int .i64 rl, .int .i64 rd]
      have HON : Hid (∀ k, own k → k < wr.heap.size ∧ ¬ ((D k ∨ k = F ∨ k = H ∨ k = P) ∨ k = Bf ∨ k = Bt ∨ k = Bp)) := fun k h => HJo.out pre own wr k HJ.out h
      have hDr : ∀ k, (D k ∨ k = F ∨ k = H ∨ k = P) → k < wr.heap.size := fun k h => by have := hDw k h; have := HSZ.out; have := HK.out.size; omega
      have HDr : Hid _ := hDr
      have HFV : Hid (FindAt D F H P a cap m T hs bs (w1.alloc (.cells #[.int .i64 rb, .int .i64 rl, .int .i64 rd] 32))) := HF.out.kept hkV hDr
      have hBr : Bf < wr.heap.size ∧ Bt < wr.heap.size ∧ Bp < wr.heap.size := by have := HSZ.out; have := HK.out.size; omega
      have HKV : Hid (Kept (fun k => k = Bf ∨ k = Bt ∨ k = Bp) W (w1.alloc (.cells #[.int .i64 rb, .int .i64 rl, .int .i64 rd] 32))) := HK.out.trans (hkV.mono (by rintro k (rfl | rfl | rfl) <;> omega))
      have HZV : Hid (wr.heap.size ≤ w1.heap.size) := hb1.size
      obtain ⟨fn, tmps, assign, body, hy, hRd⟩ := HY.out pre ⟨rb, rl, rd⟩ own _ HJV.out HIO.out
      simp only [It.val] at hy ⊢
      clear hDr hkV hOk hNo hb1 HJ HF HK g2
      gi_wp2
      refine ⟨(fun h => by cases h), hRd.mono ?_⟩
      clear hRd hy
      rintro e w9 ⟨rfl, ⟨own', hJ9⟩, hk9⟩
      have hF9 : FindAt D F H P a cap m T hs bs w9 := HFV.out.kept hk9 (fun k h => ⟨by have := HDr.out k h; have := HZV.out; simp only [World.size_alloc]; omega, fun ho => (HON.out k ho).2 (.inl h)⟩)
      have hR9 := HRV.kept hk9 ⟨by simp, fun ho => by have := (HON.out _ ho).1; have := HZV.out; omega⟩
      have hK9 : Kept (fun k => k = Bf ∨ k = Bt ∨ k = Bp) W w9 := HKV.out.trans (hk9.mono (fun k h => ⟨by simp only [World.size_alloc]; have := HZV.out; rcases h with rfl | rfl | rfl <;> omega, fun ho => (HON.out k ho).2 (.inr h)⟩))
      have c90 := hR9.cell (i := 0) rfl
      have c91 := hR9.cell (i := 1) rfl
      have c92 := hR9.cell (i := 2) rfl
      have HS : Hid (Calls Tryd.prog 25 #[It.val ⟨rb, rl, rd⟩] w9 fun e w' => e = .returned (.int .i64 (max 1 rl)) ∧ Below w9.heap.size w9 w') := size_any ⟨rb, rl, rd⟩ w9
      have HZ9 : Hid (w1.heap.size ≤ w9.heap.size) := by have := hk9.size; simp only [World.size_alloc] at this; show _ ≤ _; omega
      have HF9 : Hid _ := hF9
      have HK9 : Hid _ := hK9
      have HJ9 : Hid _ := hJ9
      obtain ⟨hs1, hs2, hs3⟩ := HSI.out
      obtain ⟨sz, HSZE⟩ : ∃ sz, Hid (It.size ⟨rb, rl, rd⟩ = sz) := ⟨_, rfl⟩
      rw [HSZE.out] at hs1 hs2 hs3
      rw [hs3] at HS
      simp only [It.val] at HS
      clear hk9 hF9 hK9 hJ9 hR9 HRV HFV HKV HJV HON hs3
      gi_wp2_with fail
      refine ⟨trivial, (fun h => by cases h), (callsIn_wide.2 HS.out).mono ?_⟩
      clear HS
      rintro e w10 ⟨rfl, hb10⟩
      have HF10 : Hid (FindAt D F H P a cap m T hs bs w10) := HF9.out.kept (Kept.of_below hb10 (S := fun k => k < w9.heap.size) (fun _ h => h)) (fun k h => by have := HDr.out k h; have := HZV.out; have := HZ9.out; omega)
      have HK10 : Hid (Kept (fun k => k = Bf ∨ k = Bt ∨ k = Bp) W w10) := HK9.out.trans (Kept.of_below hb10 (by have := HZV.out; have := HZ9.out; rintro k (rfl | rfl | rfl) <;> omega))
      have HJ10 : Hid (J (pre ++ [⟨rb, rl, rd⟩]) own' w10) := HJs.out _ _ _ _ HJ9.out (Kept.of_below hb10 (fun k h => h.1))
      clear hb10 c90 c91 c92 HF9 HK9 HJ9
      gi_wp2
      gi_loopw [5, 21] (fun v5 v21 wq => ∃ (i : Nat) (hs bs : List Int), v5 = .int .i64 ((tp + i : Nat) : Int) ∧ v21 = .int .i64 (i : Int) ∧ i ≤ sz ∧ Hid (FindAt D F H P a cap m T hs bs wq) ∧ Hid (ChainOk T m (tp + i) hs bs) ∧ Hid (J (pre ++ [⟨rb, rl, rd⟩]) own' wq) ∧ Hid (Kept (fun k => k = Bf ∨ k = Bt ∨ k = Bp) W wq)) (fun _ v21 _ => sz - (intOf v21).toNat)
      case atStart => exact ⟨0, hs, bs, by simp, rfl, Nat.zero_le _, HF10, HC, HJ10, HK10⟩
      case round =>
        clear HF10 HK10 HJ10 HC
        obtain ⟨i, hs, bs, rfl, rfl, hile, HF, HC, HJ, HK⟩ := hrel
        have g3 := (HK.out.cell (p := ⟨Bp, 0, none⟩) (.inr (.inr rfl))).trans d3
        by_cases hlti : i < sz
        rotate_left
        · have t2 : ¬ ((i : Int) < (sz : Int)) := by omega
          obtain rfl : i = sz := by omega
          have HTD : Hid (p + told (pre ++ [⟨rb, rl, rd⟩]) = tp + i) := by show _ = _; rw [told_snoc, HSZE.out, ← HTP.out]; omega
          gi_wp2
          refine ⟨⟨pre ++ [⟨rb, rl, rd⟩], hs, bs, own', ?_, ?_, HF, ?_, HJ, HK⟩, ?_⟩
          · rw [HTD.out]
          · rw [HTD.out]; omega
          · rw [HTD.out]; exact HC
          · simp [intOf]; omega
        · have t2 : (i : Int) < (sz : Int) := by omega
          have HE : Hid (Calls Tryd.prog 34 #[.pointer (some ⟨F, 0, none⟩), .int .i64 ((tp + i : Nat) : Int)] wr _) := enter_any D F H P a cap m T hs bs wr HF.out (tp + i) (by omega) hm hl hT
          have HC2 : Hid _ := HC.out.enter hT hm.1 HF.out.lh HF.out.lb
          have hw1 : IntKind.i64.wrap ((i : Int) + 1) = (i : Int) + 1 := by simp [IntKind.wrap, IntKind.bits, IntKind.signed]; omega
          obtain ⟨pi, HPI⟩ : ∃ pi, Hid (tp + i = pi) := ⟨_, rfl⟩
          rw [HPI.out] at HE HC2 ⊢
          have hw5 : IntKind.i64.wrap ((pi : Int) + 1) = (pi : Int) + 1 := by have := HPI.out; simp [IntKind.wrap, IntKind.bits, IntKind.signed]; omega
          gi_wp2_with fail
          refine ⟨trivial, (fun h => by cases h), (callsIn_wide.2 HE.out).mono ?_⟩
          clear HE
          rintro e w12 ⟨⟨v, rfl⟩, hF12, hk12, _⟩
          have HF12 : Hid _ := hF12
          have HJ12 : Hid (J (pre ++ [⟨rb, rl, rd⟩]) own' w12) := HJs.out _ _ _ _ HJ.out (hk12.mono (fun k h => ⟨fun e => h.2 (.inl e), fun e => h.2 (.inr e)⟩))
          have HK12 : Hid (Kept (fun k => k = Bf ∨ k = Bt ∨ k = Bp) W w12) := HK.out.trans (hk12.mono (by rintro k (rfl | rfl | rfl); exact hBz.1; exact hBz.2.1; exact hBz.2.2))
          have HP1 : Hid (tp + (i + 1) = pi + 1) := by have := HPI.out; show _ = _; omega
          clear hF12 hk12 HF HJ HK HC
          gi_wp2
          refine ⟨⟨i + 1, _, _, ?_, by go_num, by omega, HF12, ?_, HJ12, HK12⟩, by simp [intOf]; omega⟩
          · rw [HP1.out]; go_num
          · rw [HP1.out]; exact HC2
end Go.Proofs.YtinbilbgipfemaaDoor
