import Derived.Test.YtfbhonjndepjbaaDoorWddM
import Derived.Test.YtfbhonjndepjbaaDoorOrdM
/- dec: power: a number as a factor again and again. -/
namespace Go.Proofs.YtfbhonjndepjbaaDoor
open Go.RowKit

def oneW : Wd := ⟨false, 1, 0⟩
def stepW (x y : Wd) : Option Wd := if y.n * x.n < M128 then some ⟨y.neg != x.neg, y.n * x.n, y.e + x.e⟩ else none
/-- A number as a factor n times, as far as it fits. -/
def powW (x : Wd) : Nat → Option Wd
  | 0 => some oneW
  | k + 1 => (powW x k).bind (stepW x)
theorem pow_none (x : Wd) (k : Nat) (h : powW x k = none) : ∀ j, powW x (k + j) = none
  | 0 => h
  | j + 1 => by
    show (powW x (k + j)).bind (stepW x) = none
    rw [pow_none x k h j]
    rfl
/-- The blocks of power: the factor, the result, the product in the making. -/
def PW (w W : World) (K : Nat) (x p : Array Value) : Prop := Row W w.heap.size 59 x ∧ Row W (w.heap.size + 1) 59 #[.bool false, .int .u64 0, .int .u64 0, .int .i64 0] ∧ Row W K 59 p ∧ w.heap.size + 1 < K ∧ Below w.heap.size w W
theorem PW.next {w W W' : World} {K : Nat} {x p : Array Value} (h : PW w W K x p) (b : Below W.heap.size W W') : PW w W' K x p :=
  ⟨h.1.below b h.1.lt, h.2.1.below b h.2.1.lt, h.2.2.1.below b h.2.2.1.lt, h.2.2.2.1, h.2.2.2.2.trans (b.mono h.2.2.2.2.size)⟩
theorem PW.put {w W : World} {K : Nat} {x : Array Value} {a b c d : Value} (h : PW w W K x #[a, b, c, d]) (a' b' c' d' n' e' : Value) :
    PW w ((((((W.setCell ⟨K, 0, none⟩ a').setCell ⟨K, 1, none⟩ b').setCell ⟨K, 2, none⟩ c').setCell ⟨K, 3, none⟩ d').setCell ⟨K, 0, none⟩ n').setCell ⟨K, 3, none⟩ e') K x #[n', b', c', e'] := by
  obtain ⟨h1, h2, h3, h4, h5⟩ := h
  have n1 : w.heap.size ≠ K := by omega
  have n2 : w.heap.size + 1 ≠ K := by omega
  exact ⟨(((((h1.off 0 a' n1).off 1 b' n1).off 2 c' n1).off 3 d' n1).off 0 n' n1).off 3 e' n1, (((((h2.off 0 a' n2).off 1 b' n2).off 2 c' n2).off 3 d' n2).off 0 n' n2).off 3 e' n2,
    ((h3.set4 a' b' c' d').set 0 n').set 3 e', h4,
    below_set (below_set (below_set (below_set (below_set (below_set h5 0 a' (by omega)) 1 b' (by omega)) 2 c' (by omega)) 3 d' (by omega)) 0 n' (by omega)) 3 e' (by omega)⟩
set_option maxRecDepth 100000 in
set_option maxHeartbeats 4000000 in
theorem power_ok (xn : Bool) (m : Nat) (xe : Int) (hm : m < 18446744073709551616) (he : -1000 ≤ xe ∧ xe ≤ 1000) (n : Nat) (hn : n ≤ 64) (w : World) :
    Calls Tryd.prog 63 #[.agg #[.bool xn, .int .u64 0, .int .u64 m, .int .i64 xe], .int .i64 (n : Int)] w fun r w' => WayR (powW ⟨xn, m, xe⟩ n) r ∧ Below w.heap.size w w' := by
  have HN : ∀ V, Hid (Calls Tryd.prog 62 #[.int .i64 1, .int .i64 0] V fun r w' => r = .returned (.agg #[.bool false, .int .u64 0, .int .u64 1, .int .i64 0]) ∧ Below V.heap.size V w') := fun V => number_any 1 0 (by decide) (by decide) V
  have r0 := (Row.new w 59 #[.bool xn, .int .u64 0, .int .u64 m, .int .i64 xe]).alloc (.cells #[.bool false, .int .u64 0, .int .u64 0, .int .i64 0] 59)
  have r1 := Row.new1 w (.cells #[.bool xn, .int .u64 0, .int .u64 m, .int .i64 xe] 59) 59 #[.bool false, .int .u64 0, .int .u64 0, .int .i64 0]
  have b0 : Below w.heap.size w ((w.alloc (.cells #[.bool xn, .int .u64 0, .int .u64 m, .int .i64 xe] 59)).alloc (.cells #[.bool false, .int .u64 0, .int .u64 0, .int .i64 0] 59)) := ((Below.refl _ w).alloc (Nat.le_refl _) _).alloc (by simp) _
  have hs0 : ((w.alloc (.cells #[.bool xn, .int .u64 0, .int .u64 m, .int .i64 xe] 59)).alloc (.cells #[.bool false, .int .u64 0, .int .u64 0, .int .i64 0] 59)).heap.size = w.heap.size + 2 := by simp
  go_enter Tryd.func63, Tryd.ntmps63
  go_upto_region 1 with fail
  generalize (w.alloc (.cells #[.bool xn, .int .u64 0, .int .u64 m, .int .i64 xe] 59)).alloc (.cells #[.bool false, .int .u64 0, .int .u64 0, .int .i64 0] 59) = W at *
  have hW2 : w.heap.size + 1 < W.heap.size := by omega
  clear hs0
  have hS : Below W.heap.size W W.drew := (Below.refl _ W).drew
  have ca := fun wx (hx : Below W.heap.size W wx) => (r0.below hx r0.lt).four
  refine wp_region_M (fun wx : World => Below W.heap.size W wx) (fun j => decide (j < 6)) 7 rfl (by kernel_rfl) ?_
  refine wpM_held 1 (v := ?_) rfl (by kernel_rfl) (by kernel_rfl) rfl (fun _ _ _ h => h) rfl (by intro wx hx; go_simp <;> rfl) hS ?_
  refine wpM_held 2 (v := .int .u64 0) rfl (by kernel_rfl) (by kernel_rfl) rfl (fun _ _ _ h => h) rfl (by intro wx hx; obtain ⟨z0, z1, z2, z3⟩ := ca wx hx; go_simp <;> rfl) hS ?_
  refine wpM_held 3 (v := .bool true) rfl (by kernel_rfl) (by kernel_rfl) rfl (fun _ _ _ h => h) rfl (by intro wx hx; go_simp) hS ?_
  refine wpM_two 0 4 rfl rfl (by kernel_rfl) rfl rfl ?_ ?_
  · go_wp2_with fail
    refine Calls.mono (HN _).out ?_
    rintro _ w1 ⟨rfl, b1⟩
    have hS1 : Below W.heap.size W w1 := hS.trans (b1.mono hS.size)
    go_wp2_with fail
    refine ⟨fun _ => hS1, ?_⟩
    refine wpM_one 4 rfl (by kernel_rfl) rfl ?_
    go_wp2_with fail
    refine ⟨fun _ => hS1.alloc hS1.size _, ?_⟩
    refine wpM_one 5 rfl (by kernel_rfl) rfl ?_
    go_wp2_with fail
    refine ⟨fun _ => hS1.alloc hS1.size _, ?_⟩
    refine wpM_one 6 rfl (by kernel_rfl) rfl ?_
    go_wp2_with fail
    refine ⟨fun h => absurd h (by decide), ?_⟩
    refine wpM_done (by kernel_rfl) ?_
    have hP : PW w (w1.alloc (.cells #[.bool false, .int .u64 0, .int .u64 1, .int .i64 0] 59)) w1.heap.size #[.bool xn, .int .u64 0, .int .u64 m, .int .i64 xe] oneW.cells :=
      ⟨(r0.below hS1 r0.lt).alloc _, (r1.below hS1 r1.lt).alloc _, Row.new w1 59 _, by have := hS1.size; omega, (b0.trans (hS1.mono (by omega))).alloc (by have := hS1.size; omega) _⟩
    generalize w1.heap.size = K at *
    generalize w1.alloc (.cells #[.bool false, .int .u64 0, .int .u64 1, .int .i64 0] 59) = W5 at *
    clear hS ca hS1 b1 r0 r1 b0 HN
    go_wp2_with fail
    go_loopw [7, 13] (fun v7 v13 wr => ∃ (k : Nat) (f : Bool) (y : Wd), v7 = .bool f ∧ v13 = .int .i64 (k : Int) ∧ k ≤ n ∧ Hid (powW ⟨xn, m, xe⟩ k = if f then some y else none) ∧ y.n < M128 ∧ (-1000 * (k : Int) ≤ y.e ∧ y.e ≤ 1000 * (k : Int)) ∧ Hid (PW w wr K #[.bool xn, .int .u64 0, .int .u64 m, .int .i64 xe] y.cells)) (fun _ v13 _ => (n - (intOf v13).toNat))
    case atStart => exact ⟨0, true, oneW, rfl, rfl, Nat.zero_le _, rfl, by decide, by decide, hP⟩
    case round =>
      clear hP
      obtain ⟨k, f, ⟨yg, q, ye⟩, rfl, rfl, hk, HK, hy, hye, HP⟩ := hrel
      unfold Wd.cells at HP
      simp only at HP hy hye
      by_cases hlt : k < n
      · cases f with
        | false =>
          have HPN : Hid (powW ⟨xn, m, xe⟩ n = none) := by
            have := pow_none _ k HK.out (n - k)
            rwa [show k + (n - k) = n by omega] at this
          obtain ⟨y0, y1, y2, y3⟩ := HP.out.2.1.four
          have zf := HP.out.2.1.frozen
          have wl := HP.out.2.1.lt
          have hR := Row.set4 HP.out.2.1 (.bool false) (.int .u64 0) (.int .u64 0) (.int .i64 0)
          have hB := below_set (below_set (below_set (below_set HP.out.2.2.2.2 (B := w.heap.size + 1) 0 (.bool false) (by omega)) (B := w.heap.size + 1) 1 (.int .u64 0) (by omega)) (B := w.heap.size + 1) 2 (.int .u64 0) (by omega)) (B := w.heap.size + 1) 3 (.int .i64 0) (by omega)
          clear HK HP
          go_wp2
          refine bodyPost_ret (ret_two rfl (g := w.heap.size + 1) rfl rfl (load57 hR rfl)) rfl ⟨⟨⟨false, 0, 0⟩, false, rfl, by decide, by decide, by decide, HPN.out⟩, hB⟩
        | true =>
          have HT : ∀ V, Hid (Calls Tryd.prog 86 #[.agg #[.bool yg, .int .u64 ((q / 18446744073709551616 : Nat) : Int), .int .u64 ((q % 18446744073709551616 : Nat) : Int), .int .i64 ye], .int .u64 (m : Int)] V fun r w' => r = .returned (pairV (if q * m < M128 then some ⟨yg, q * m, ye⟩ else none)) ∧ Below V.heap.size V w') := fun V => times_W ⟨yg, q, ye⟩ m hy hm V
          have HS : Hid (powW ⟨xn, m, xe⟩ (k + 1) = if q * m < M128 then some ⟨yg != xn, q * m, ye + xe⟩ else none) := by
            show (powW ⟨xn, m, xe⟩ k).bind (stepW ⟨xn, m, xe⟩) = _
            rw [HK.out]
            rfl
          have hw1 : wrap64 (ye + xe) = ye + xe := by unfold wrap64; omega
          have hw2 : wrap64 (0 + xe) = xe := by unfold wrap64; omega
          generalize (q / 18446744073709551616 : Nat) = a at *
          generalize (q % 18446744073709551616 : Nat) = b at *
          obtain ⟨y0, y1, y2, y3⟩ := HP.out.2.2.1.four
          obtain ⟨x0, x1, x2, x3⟩ := HP.out.1.four
          have hKne : w.heap.size ≠ K := by have := HP.out.2.2.2.1; omega
          by_cases hfit : q * m < M128
          · rw [if_pos hfit] at HS
            simp only [if_pos hfit] at HT
            have HT2 : ∀ V, Hid (Calls Tryd.prog 86 #[.agg #[.bool yg, .int .u64 (a : Int), .int .u64 (b : Int), .int .i64 ye], .int .u64 (m : Int)] V fun r w' => r = .returned (.tuple #[.agg #[.bool yg, .int .u64 ((q * m / 18446744073709551616 : Nat) : Int), .int .u64 ((q * m % 18446744073709551616 : Nat) : Int), .int .i64 ye], .bool true]) ∧ Below V.heap.size V w') := HT
            have HEND : Hid (∀ W, PW w W K #[.bool xn, .int .u64 0, .int .u64 m, .int .i64 xe] #[.bool (yg != xn), .int .u64 ((q * m / 18446744073709551616 : Nat) : Int), .int .u64 ((q * m % 18446744073709551616 : Nat) : Int), .int .i64 (ye + xe)] → PW w W K #[.bool xn, .int .u64 0, .int .u64 m, .int .i64 xe] (Wd.cells ⟨yg != xn, q * m, ye + xe⟩)) := fun W h => h
            generalize (q * m / 18446744073709551616 : Nat) = c at *
            generalize (q * m % 18446744073709551616 : Nat) = d at *
            clear HT HK
            go_wp2_with fail
            refine Calls.mono (HT2 _).out ?_
            rintro _ w6 ⟨rfl, b6⟩
            have h6 := HP.out.next b6
            clear y0 y1 y2 y3 x0 x1 x2 x3 HP b6 HT2
            obtain ⟨y0, y1, y2, y3⟩ := h6.2.2.1.four
            obtain ⟨x0, x1, x2, x3⟩ := h6.1.four
            have zf := h6.2.2.1.frozen
            have wl := h6.2.2.1.lt
            go_wp2
            exact ⟨⟨k + 1, true, ⟨yg != xn, q * m, ye + xe⟩, rfl, by simp, by omega, HS, hfit, by simp only; omega, HEND.out _ (h6.put _ _ _ _ _ _)⟩, by simp [intOf]; omega⟩
          · rw [if_neg hfit] at HS
            simp only [if_neg hfit] at HT
            have HT2 : ∀ V, Hid (Calls Tryd.prog 86 #[.agg #[.bool yg, .int .u64 (a : Int), .int .u64 (b : Int), .int .i64 ye], .int .u64 (m : Int)] V fun r w' => r = .returned (.tuple #[.agg #[.bool false, .int .u64 0, .int .u64 0, .int .i64 0], .bool false]) ∧ Below V.heap.size V w') := HT
            clear HT HK
            go_wp2_with fail
            refine Calls.mono (HT2 _).out ?_
            rintro _ w6 ⟨rfl, b6⟩
            have h6 := HP.out.next b6
            clear y0 y1 y2 y3 x0 x1 x2 x3 HP b6 HT2
            obtain ⟨y0, y1, y2, y3⟩ := h6.2.2.1.four
            obtain ⟨x0, x1, x2, x3⟩ := h6.1.four
            have zf := h6.2.2.1.frozen
            have wl := h6.2.2.1.lt
            have h7 := h6.put (.bool false) (.int .u64 0) (.int .u64 0) (.int .i64 0) (.bool xn) (.int .i64 xe)
            go_wp2
            exact ⟨⟨k + 1, false, ⟨xn, 0, xe⟩, rfl, by simp, by omega, HS, by show 0 < M128; decide, by simp only; omega, by rw [show Wd.cells ⟨xn, 0, xe⟩ = #[.bool xn, .int .u64 0, .int .u64 0, .int .i64 xe] by simp [Wd.cells]]; exact h7⟩, by simp [intOf]; omega⟩
      · have hkn : k = n := by omega
        subst hkn
        have HWR : Hid (∀ f', f' = f → WayR (powW ⟨xn, m, xe⟩ k) (.returned (.tuple #[.agg #[.bool yg, .int .u64 ((q / 18446744073709551616 : Nat) : Int), .int .u64 ((q % 18446744073709551616 : Nat) : Int), .int .i64 ye], .bool f']))) := fun f' h => by
          subst h
          exact ⟨⟨yg, q, ye⟩, f', rfl, hy, by simp only; omega, by simp only; omega, HK.out⟩
        clear HK
        generalize (q / 18446744073709551616 : Nat) = a at *
        generalize (q % 18446744073709551616 : Nat) = b at *
        obtain ⟨y0, y1, y2, y3⟩ := HP.out.2.1.four
        obtain ⟨x0, x1, x2, x3⟩ := HP.out.2.2.1.four
        have zf := HP.out.2.1.frozen
        have wl := HP.out.2.1.lt
        have hR := Row.set4 HP.out.2.1 (.bool yg) (.int .u64 (a : Int)) (.int .u64 (b : Int)) (.int .i64 ye)
        have hB := below_set (below_set (below_set (below_set HP.out.2.2.2.2 (B := w.heap.size + 1) 0 (.bool yg) (by omega)) (B := w.heap.size + 1) 1 (.int .u64 (a : Int)) (by omega)) (B := w.heap.size + 1) 2 (.int .u64 (b : Int)) (by omega)) (B := w.heap.size + 1) 3 (.int .i64 ye) (by omega)
        clear HP
        go_wp2
        exact bodyPost_ret (ret_two (x := .bool f) rfl (g := w.heap.size + 1) rfl rfl (load57 hR rfl)) rfl ⟨HWR.out f rfl, hB⟩
  · go_wp2_with fail
    have hSa : Below W.heap.size W (W.drew.alloc (.cells #[.bool false, .int .u64 0, .int .u64 0, .int .i64 0] 59)) := hS.alloc hS.size _
    have ka : Row (W.drew.alloc (.cells #[.bool false, .int .u64 0, .int .u64 0, .int .i64 0] 59)) W.heap.size 59 #[.bool false, .int .u64 0, .int .u64 0, .int .i64 0] := Row.new W.drew 59 _
    refine ⟨fun _ => hSa, ?_⟩
    refine wpM_one 0 rfl (by kernel_rfl) rfl ?_
    go_wp2_with fail
    refine Calls.mono (HN _).out ?_
    rintro _ w1 ⟨rfl, b1⟩
    have hS1 : Below W.heap.size W w1 := hSa.trans (b1.mono hSa.size)
    have kb := ka.below b1 ka.lt
    obtain ⟨y0, y1, y2, y3⟩ := kb.four
    have zf := kb.frozen
    have wl := kb.lt
    go_wp2_with fail
    refine ⟨fun _ => hS1, ?_⟩
    refine wpM_one 5 rfl (by kernel_rfl) rfl ?_
    go_wp2_with fail
    have hR5 := Row.set4 kb (.bool false) (.int .u64 0) (.int .u64 1) (.int .i64 0)
    have hn1 : w.heap.size ≠ W.heap.size := by omega
    have hn2 : w.heap.size + 1 ≠ W.heap.size := by omega
    have hB5 := below_set (below_set (below_set (below_set hS1 (B := W.heap.size) 0 (.bool false) (Nat.le_refl _)) (B := W.heap.size) 1 (.int .u64 0) (Nat.le_refl _)) (B := W.heap.size) 2 (.int .u64 1) (Nat.le_refl _)) (B := W.heap.size) 3 (.int .i64 0) (Nat.le_refl _)
    have hP : PW w ((((w1.setCell ⟨W.heap.size, 0, none⟩ (.bool false)).setCell ⟨W.heap.size, 1, none⟩ (.int .u64 0)).setCell ⟨W.heap.size, 2, none⟩ (.int .u64 1)).setCell ⟨W.heap.size, 3, none⟩ (.int .i64 0)) W.heap.size #[.bool xn, .int .u64 0, .int .u64 m, .int .i64 xe] oneW.cells :=
      ⟨r0.below hB5 r0.lt, r1.below hB5 r1.lt, hR5, by omega, b0.trans (hB5.mono (by omega))⟩
    refine ⟨fun _ => hB5, ?_⟩
    refine wpM_one 6 rfl (by kernel_rfl) rfl ?_
    go_wp2_with fail
    refine ⟨fun h => absurd h (by decide), ?_⟩
    refine wpM_done (by kernel_rfl) ?_
    clear hS ca hS1 b1 r0 r1 b0 HN hSa ka kb y0 y1 y2 y3 zf wl hR5 hn1 hn2 hB5
    generalize W.heap.size = K at *
    generalize ((((w1.setCell ⟨K, 0, none⟩ (.bool false)).setCell ⟨K, 1, none⟩ (.int .u64 0)).setCell ⟨K, 2, none⟩ (.int .u64 1)).setCell ⟨K, 3, none⟩ (.int .i64 0)) = W5 at *
    go_wp2_with fail
    go_loopw [7, 13] (fun v7 v13 wr => ∃ (k : Nat) (f : Bool) (y : Wd), v7 = .bool f ∧ v13 = .int .i64 (k : Int) ∧ k ≤ n ∧ Hid (powW ⟨xn, m, xe⟩ k = if f then some y else none) ∧ y.n < M128 ∧ (-1000 * (k : Int) ≤ y.e ∧ y.e ≤ 1000 * (k : Int)) ∧ Hid (PW w wr K #[.bool xn, .int .u64 0, .int .u64 m, .int .i64 xe] y.cells)) (fun _ v13 _ => (n - (intOf v13).toNat))
    case atStart => exact ⟨0, true, oneW, rfl, rfl, Nat.zero_le _, rfl, by decide, by decide, hP⟩
    case round =>
      clear hP
      obtain ⟨k, f, ⟨yg, q, ye⟩, rfl, rfl, hk, HK, hy, hye, HP⟩ := hrel
      unfold Wd.cells at HP
      simp only at HP hy hye
      by_cases hlt : k < n
      · cases f with
        | false =>
          have HPN : Hid (powW ⟨xn, m, xe⟩ n = none) := by
            have := pow_none _ k HK.out (n - k)
            rwa [show k + (n - k) = n by omega] at this
          obtain ⟨y0, y1, y2, y3⟩ := HP.out.2.1.four
          have zf := HP.out.2.1.frozen
          have wl := HP.out.2.1.lt
          have hR := Row.set4 HP.out.2.1 (.bool false) (.int .u64 0) (.int .u64 0) (.int .i64 0)
          have hB := below_set (below_set (below_set (below_set HP.out.2.2.2.2 (B := w.heap.size + 1) 0 (.bool false) (by omega)) (B := w.heap.size + 1) 1 (.int .u64 0) (by omega)) (B := w.heap.size + 1) 2 (.int .u64 0) (by omega)) (B := w.heap.size + 1) 3 (.int .i64 0) (by omega)
          clear HK HP
          go_wp2
          refine bodyPost_ret (ret_two rfl (g := w.heap.size + 1) rfl rfl (load57 hR rfl)) rfl ⟨⟨⟨false, 0, 0⟩, false, rfl, by decide, by decide, by decide, HPN.out⟩, hB⟩
        | true =>
          have HT : ∀ V, Hid (Calls Tryd.prog 86 #[.agg #[.bool yg, .int .u64 ((q / 18446744073709551616 : Nat) : Int), .int .u64 ((q % 18446744073709551616 : Nat) : Int), .int .i64 ye], .int .u64 (m : Int)] V fun r w' => r = .returned (pairV (if q * m < M128 then some ⟨yg, q * m, ye⟩ else none)) ∧ Below V.heap.size V w') := fun V => times_W ⟨yg, q, ye⟩ m hy hm V
          have HS : Hid (powW ⟨xn, m, xe⟩ (k + 1) = if q * m < M128 then some ⟨yg != xn, q * m, ye + xe⟩ else none) := by
            show (powW ⟨xn, m, xe⟩ k).bind (stepW ⟨xn, m, xe⟩) = _
            rw [HK.out]
            rfl
          have hw1 : wrap64 (ye + xe) = ye + xe := by unfold wrap64; omega
          have hw2 : wrap64 (0 + xe) = xe := by unfold wrap64; omega
          generalize (q / 18446744073709551616 : Nat) = a at *
          generalize (q % 18446744073709551616 : Nat) = b at *
          obtain ⟨y0, y1, y2, y3⟩ := HP.out.2.2.1.four
          obtain ⟨x0, x1, x2, x3⟩ := HP.out.1.four
          have hKne : w.heap.size ≠ K := by have := HP.out.2.2.2.1; omega
          by_cases hfit : q * m < M128
          · rw [if_pos hfit] at HS
            simp only [if_pos hfit] at HT
            have HT2 : ∀ V, Hid (Calls Tryd.prog 86 #[.agg #[.bool yg, .int .u64 (a : Int), .int .u64 (b : Int), .int .i64 ye], .int .u64 (m : Int)] V fun r w' => r = .returned (.tuple #[.agg #[.bool yg, .int .u64 ((q * m / 18446744073709551616 : Nat) : Int), .int .u64 ((q * m % 18446744073709551616 : Nat) : Int), .int .i64 ye], .bool true]) ∧ Below V.heap.size V w') := HT
            have HEND : Hid (∀ W, PW w W K #[.bool xn, .int .u64 0, .int .u64 m, .int .i64 xe] #[.bool (yg != xn), .int .u64 ((q * m / 18446744073709551616 : Nat) : Int), .int .u64 ((q * m % 18446744073709551616 : Nat) : Int), .int .i64 (ye + xe)] → PW w W K #[.bool xn, .int .u64 0, .int .u64 m, .int .i64 xe] (Wd.cells ⟨yg != xn, q * m, ye + xe⟩)) := fun W h => h
            generalize (q * m / 18446744073709551616 : Nat) = c at *
            generalize (q * m % 18446744073709551616 : Nat) = d at *
            clear HT HK
            go_wp2_with fail
            refine Calls.mono (HT2 _).out ?_
            rintro _ w6 ⟨rfl, b6⟩
            have h6 := HP.out.next b6
            clear y0 y1 y2 y3 x0 x1 x2 x3 HP b6 HT2
            obtain ⟨y0, y1, y2, y3⟩ := h6.2.2.1.four
            obtain ⟨x0, x1, x2, x3⟩ := h6.1.four
            have zf := h6.2.2.1.frozen
            have wl := h6.2.2.1.lt
            go_wp2
            exact ⟨⟨k + 1, true, ⟨yg != xn, q * m, ye + xe⟩, rfl, by simp, by omega, HS, hfit, by simp only; omega, HEND.out _ (h6.put _ _ _ _ _ _)⟩, by simp [intOf]; omega⟩
          · rw [if_neg hfit] at HS
            simp only [if_neg hfit] at HT
            have HT2 : ∀ V, Hid (Calls Tryd.prog 86 #[.agg #[.bool yg, .int .u64 (a : Int), .int .u64 (b : Int), .int .i64 ye], .int .u64 (m : Int)] V fun r w' => r = .returned (.tuple #[.agg #[.bool false, .int .u64 0, .int .u64 0, .int .i64 0], .bool false]) ∧ Below V.heap.size V w') := HT
            clear HT HK
            go_wp2_with fail
            refine Calls.mono (HT2 _).out ?_
            rintro _ w6 ⟨rfl, b6⟩
            have h6 := HP.out.next b6
            clear y0 y1 y2 y3 x0 x1 x2 x3 HP b6 HT2
            obtain ⟨y0, y1, y2, y3⟩ := h6.2.2.1.four
            obtain ⟨x0, x1, x2, x3⟩ := h6.1.four
            have zf := h6.2.2.1.frozen
            have wl := h6.2.2.1.lt
            have h7 := h6.put (.bool false) (.int .u64 0) (.int .u64 0) (.int .i64 0) (.bool xn) (.int .i64 xe)
            go_wp2
            exact ⟨⟨k + 1, false, ⟨xn, 0, xe⟩, rfl, by simp, by omega, HS, by show 0 < M128; decide, by simp only; omega, by rw [show Wd.cells ⟨xn, 0, xe⟩ = #[.bool xn, .int .u64 0, .int .u64 0, .int .i64 xe] by simp [Wd.cells]]; exact h7⟩, by simp [intOf]; omega⟩
      · have hkn : k = n := by omega
        subst hkn
        have HWR : Hid (∀ f', f' = f → WayR (powW ⟨xn, m, xe⟩ k) (.returned (.tuple #[.agg #[.bool yg, .int .u64 ((q / 18446744073709551616 : Nat) : Int), .int .u64 ((q % 18446744073709551616 : Nat) : Int), .int .i64 ye], .bool f']))) := fun f' h => by
          subst h
          exact ⟨⟨yg, q, ye⟩, f', rfl, hy, by simp only; omega, by simp only; omega, HK.out⟩
        clear HK
        generalize (q / 18446744073709551616 : Nat) = a at *
        generalize (q % 18446744073709551616 : Nat) = b at *
        obtain ⟨y0, y1, y2, y3⟩ := HP.out.2.1.four
        obtain ⟨x0, x1, x2, x3⟩ := HP.out.2.2.1.four
        have zf := HP.out.2.1.frozen
        have wl := HP.out.2.1.lt
        have hR := Row.set4 HP.out.2.1 (.bool yg) (.int .u64 (a : Int)) (.int .u64 (b : Int)) (.int .i64 ye)
        have hB := below_set (below_set (below_set (below_set HP.out.2.2.2.2 (B := w.heap.size + 1) 0 (.bool yg) (by omega)) (B := w.heap.size + 1) 1 (.int .u64 (a : Int)) (by omega)) (B := w.heap.size + 1) 2 (.int .u64 (b : Int)) (by omega)) (B := w.heap.size + 1) 3 (.int .i64 ye) (by omega)
        clear HP
        go_wp2
        exact bodyPost_ret (ret_two (x := .bool f) rfl (g := w.heap.size + 1) rfl rfl (load57 hR rfl)) rfl ⟨HWR.out f rfl, hB⟩
end Go.Proofs.YtfbhonjndepjbaaDoor
