import Derived.Test.YtfbhonjndepjbaaDoorWdv
import Derived.Shelf.Spec.BitsCarry
/- tenth, times: a number without its last digit; a number times a small one. -/
namespace Go.Proofs.YtfbhonjndepjbaaDoor
open Go.RowKit

theorem below_drewN {N : Nat} {a w : World} (h : Below N a w) (q : Nat) : Below N a (w.drewN q) := h.trans ⟨rfl, rfl, rfl, Nat.le_refl _, fun _ _ => rfl⟩
theorem below_set {N : Nat} {a w : World} (h : Below N a w) {B : Nat} (i : Nat) (v : Value) (hB : N ≤ B) : Below N a (w.setCell ⟨B, i, none⟩ v) :=
  ((Kept.of_below (S := (· < N)) h (fun _ h => h)).setCell (p := ⟨B, i, none⟩) (fun (e : B < N) => absurd e (by omega)) v).below (fun _ h => h)
theorem Row.off {W : World} {B : Nat} {t : TypeId} {cs : Array Value} (h : Row W B t cs) {B' : Nat} (i : Nat) (v : Value) (hne : B ≠ B') : Row (W.setCell ⟨B', i, none⟩ v) B t cs :=
  (Below.heap_setCell _ _ _ _ hne).trans h
/-- A box and the result's cell, behind a call that draws alone or keeps what lies below. -/
theorem two_rows (w w1 : World) (o1 o2 : Array Value) (t1 t2 : TypeId) (h : Below (((w.alloc (.cells o1 t1)).alloc (.cells o2 t2)).heap.size) ((w.alloc (.cells o1 t1)).alloc (.cells o2 t2)) w1) :
    Row w1 w.heap.size t1 o1 ∧ Row w1 (w.heap.size + 1) t2 o2 ∧ Below w.heap.size w w1 := by
  refine ⟨((Row.new w t1 o1).alloc _).below h (by simp; omega), (Row.new1 w _ t2 o2).below h (by simp), ?_⟩
  exact (((Below.refl _ w).alloc (Nat.le_refl _) _).alloc (by simp) _).trans (h.mono (by simp; omega))
set_option maxRecDepth 100000 in
set_option maxHeartbeats 1000000 in
theorem tenth_raw (neg : Bool) (hi lo h' l' d : Nat) (e : Int) (hh : hi < 18446744073709551616) (hl : lo < 18446744073709551616) (he : e < 9223372036854775807) (he0 : -9223372036854775808 ≤ e)
    (e1 : hi / 10 = h') (e2 : (hi % 10 * 18446744073709551616 + lo) / 10 = l') (e3 : (hi % 10 * 18446744073709551616 + lo) % 10 = d) (w : World) :
    Calls Tryd.prog 69 #[wv neg hi lo e] w fun r w' => r = .returned (.tuple #[wv neg h' l' (e + 1), .int .u64 (d : Int)]) ∧ Below w.heap.size w w' := by
  have hd : ∀ w, Calls Tryd.prog 90 #[.int .u64 ((hi % 10 : Nat) : Int), .int .u64 lo, .int .u64 10] w fun r w' => r = .returned (.tuple #[.int .u64 (l' : Int), .int .u64 (d : Int)]) ∧ ∃ q, w' = w.drewN q := fun w => by
    have := div10_any (hi % 10) lo (by omega) hl w
    rw [e2, e3] at this
    exact this
  obtain ⟨o, ho⟩ : ∃ o, hi % 10 = o := ⟨_, rfl⟩
  rw [ho] at hd
  have f1 : Hid ((hi : Int) / 10 = (h' : Int)) := by show _ = _; omega
  have f2 : Hid ((hi : Int) % 10 = (o : Int)) := by show _ = _; omega
  clear e1 e2 e3 ho
  unfold wv
  go_enter Tryd.func69, Tryd.ntmps69
  go_wp2_with fail
  go_quiet (fail)
  go_wp2_with fail
  rw [f1.out, f2.out]
  refine (hd _).mono ?_
  rintro _ w1 ⟨rfl, q, hq⟩
  obtain ⟨hA, hZ, hB⟩ := two_rows w w1 _ _ _ _ (by rw [hq]; exact ⟨rfl, rfl, rfl, Nat.le_refl _, fun _ _ => rfl⟩)
  clear hq f1 f2 hd
  obtain ⟨c0, c1, c2, c3⟩ := hA.four
  obtain ⟨d0, d1, d2, d3⟩ := hZ.four
  have z0 := hA.frozen; have z1 := hZ.frozen
  have hne : w.heap.size ≠ w.heap.size + 1 := by omega
  go_wp2
  refine bodyPost_ret (ret_two rfl (g := w.heap.size + 1) rfl rfl (load57 (Row.set4 (((hZ.off _ _ (Ne.symm hne)).off _ _ (Ne.symm hne)).off _ _ (Ne.symm hne)) _ _ _ _) rfl)) rfl ⟨rfl, ?_⟩
  repeat (refine below_set ?_ _ _ (by omega))
  exact hB
theorem add64 (x y c : Nat) (hc : c ≤ 1) (w : World) :
    (callFunc 78 #[.int .u64 x, .int .u64 y, .int .u64 c]).run Tryd.prog w =
      .ok (.value (.tuple #[.int .u64 (((x + y + c) % 18446744073709551616 : Nat) : Int), .int .u64 (((x + y + c) / 18446744073709551616 : Nat) : Int)])) w := by
  rw [run_callFunc_extern Tryd.func78 (by kernel_rfl) (by kernel_rfl) (by kernel_rfl) (e := add64Entry) (by kernel_rfl), run_add64 x y c (by omega) (by omega) (by omega) (by omega)]
  simp only [Result.andThen]
  congr 5 <;> omega
theorem sub64 (x y b : Nat) (hb : b ≤ 1) (w : World) :
    (callFunc 97 #[.int .u64 x, .int .u64 y, .int .u64 b]).run Tryd.prog w =
      .ok (.value (.tuple #[.int .u64 (((x + 18446744073709551616 - y - b) % 18446744073709551616 : Nat) : Int), .int .u64 ((if x < y + b then 1 else 0 : Nat) : Int)])) w := by
  rw [run_callFunc_extern Tryd.func97 (by kernel_rfl) (by kernel_rfl) (by kernel_rfl) (e := sub64Entry) (by kernel_rfl), run_sub64 x y b hb]
  rfl
set_option maxRecDepth 100000 in
set_option maxHeartbeats 1000000 in
theorem times_ok (neg : Bool) (hi lo m x y v c : Nat) (e : Int) (hh : hi < 18446744073709551616) (hl : lo < 18446744073709551616) (hm : m < 18446744073709551616)
    (e1 : hi * m / 18446744073709551616 = 0) (e2 : hi * m % 18446744073709551616 = x) (e3 : lo * m / 18446744073709551616 = y) (e4 : lo * m % 18446744073709551616 = v) (e5 : x + y = c) (e6 : c < 18446744073709551616) (w : World) :
    Calls Tryd.prog 86 #[wv neg hi lo e, .int .u64 m] w fun r w' => r = .returned (.tuple #[wv neg c v e, .bool true]) ∧ Below w.heap.size w w' := by
  have m1 := Tryd.bits_Mul64 hi m hh hm
  have m2 := Tryd.bits_Mul64 lo m hl hm
  rw [e1, e2] at m1
  rw [e3, e4] at m2
  have ha : ∀ w, (callFunc 78 #[.int .u64 x, .int .u64 y, .int .u64 0]).run Tryd.prog w = .ok (.value (.tuple #[.int .u64 (c : Int), .int .u64 0])) w := fun w => by
    have := add64 x y 0 (by omega) w
    rw [show (x + y + 0) % 18446744073709551616 = c by omega, show (x + y + 0) / 18446744073709551616 = 0 by omega] at this
    exact this
  unfold wv
  clear e1 e2 e3 e4 e5
  go_enter Tryd.func86, Tryd.ntmps86
  go_wp2_with fail
  refine (m1 _).mono ?_
  rintro _ w1 ⟨rfl, hw1⟩
  rw [hw1]
  clear hw1 w1
  go_wp2_with fail
  refine (m2 _).mono ?_
  rintro _ w1 ⟨rfl, hw1⟩
  rw [hw1]
  clear hw1 w1
  go_wp2_with fail
  try simp only [ha]
  clear ha m1 m2
  go_wp2
  refine bodyPost_ret (ret_two rfl (g := w.heap.size + 1) rfl rfl (load57 (Row.new1 w _ 59 _) rfl)) rfl ⟨rfl, ?_⟩
  exact (((Below.refl _ w).alloc (Nat.le_refl _) _).alloc (by simp) _)
set_option maxRecDepth 100000 in
set_option maxHeartbeats 1000000 in
theorem times_over (neg : Bool) (hi lo m o x y v c k : Nat) (e : Int) (hh : hi < 18446744073709551616) (hl : lo < 18446744073709551616) (hm : m < 18446744073709551616)
    (e1 : hi * m / 18446744073709551616 = o) (e2 : hi * m % 18446744073709551616 = x) (e3 : lo * m / 18446744073709551616 = y) (e4 : lo * m % 18446744073709551616 = v)
    (e5 : (x + y) % 18446744073709551616 = c) (e6 : (x + y) / 18446744073709551616 = k) (e7 : o ≠ 0 ∨ k ≠ 0) (w : World) :
    Calls Tryd.prog 86 #[wv neg hi lo e, .int .u64 m] w fun r w' => r = .returned (.tuple #[wv false 0 0 0, .bool false]) ∧ Below w.heap.size w w' := by
  have m1 := Tryd.bits_Mul64 hi m hh hm
  have m2 := Tryd.bits_Mul64 lo m hl hm
  rw [e1, e2] at m1
  rw [e3, e4] at m2
  have ha : ∀ w, (callFunc 78 #[.int .u64 x, .int .u64 y, .int .u64 0]).run Tryd.prog w = .ok (.value (.tuple #[.int .u64 (c : Int), .int .u64 (k : Int)])) w := fun w => by
    have := add64 x y 0 (by omega) w
    rw [Nat.add_zero, e5, e6] at this
    exact this
  unfold wv
  clear e1 e2 e3 e4 e5 e6
  by_cases ho : o = 0
  · have hk : ((k : Int) != 0) = true := by simp; omega
    have ho2 : ((o : Int) != 0) = false := by simp; omega
    clear e7 ho
    go_enter Tryd.func86, Tryd.ntmps86
    go_wp2_with fail
    refine (m1 _).mono ?_
    rintro _ w1 ⟨rfl, hw1⟩
    rw [hw1]
    clear hw1 w1
    go_wp2_with fail
    refine (m2 _).mono ?_
    rintro _ w1 ⟨rfl, hw1⟩
    rw [hw1]
    clear hw1 w1
    go_wp2
    refine bodyPost_ret (ret_two rfl (g := w.heap.size + 1) rfl rfl (load57 (Row.new1 w _ 59 _) rfl)) rfl ⟨rfl, ?_⟩
    exact (((Below.refl _ w).alloc (Nat.le_refl _) _).alloc (by simp) _)
  · have ho2 : ((o : Int) != 0) = true := by simp; omega
    clear e7 ho
    go_enter Tryd.func86, Tryd.ntmps86
    go_wp2_with fail
    refine (m1 _).mono ?_
    rintro _ w1 ⟨rfl, hw1⟩
    rw [hw1]
    clear hw1 w1
    go_wp2_with fail
    refine (m2 _).mono ?_
    rintro _ w1 ⟨rfl, hw1⟩
    rw [hw1]
    clear hw1 w1
    go_wp2
    refine bodyPost_ret (ret_two rfl (g := w.heap.size + 1) rfl rfl (load57 (Row.new1 w _ 59 _) rfl)) rfl ⟨rfl, ?_⟩
    exact (((Below.refl _ w).alloc (Nat.le_refl _) _).alloc (by simp) _)

theorem times_any (neg : Bool) (hi lo m : Nat) (e : Int) (hh : hi < 18446744073709551616) (hl : lo < 18446744073709551616) (hm : m < 18446744073709551616) (w : World) :
    Calls Tryd.prog 86 #[wv neg hi lo e, .int .u64 m] w fun r w' => r = .returned (if (hi * 18446744073709551616 + lo) * m < M128 then .tuple #[wv neg ((hi * 18446744073709551616 + lo) * m / 18446744073709551616) ((hi * 18446744073709551616 + lo) * m % 18446744073709551616) e, .bool true] else .tuple #[wv false 0 0 0, .bool false]) ∧ Below w.heap.size w w' := by
  have e0 : (hi * 18446744073709551616 + lo) * m = hi * m * 18446744073709551616 + lo * m := by
    rw [Nat.add_mul, Nat.mul_assoc, Nat.mul_comm 18446744073709551616 m, ← Nat.mul_assoc]
  rw [e0]
  have k1 := times_ok neg hi lo m (hi * m % 18446744073709551616) (lo * m / 18446744073709551616) (lo * m % 18446744073709551616) (hi * m % 18446744073709551616 + lo * m / 18446744073709551616) e hh hl hm
  have k2 := times_over neg hi lo m (hi * m / 18446744073709551616) (hi * m % 18446744073709551616) (lo * m / 18446744073709551616) (lo * m % 18446744073709551616) _ ((hi * m % 18446744073709551616 + lo * m / 18446744073709551616) / 18446744073709551616) e hh hl hm rfl rfl rfl rfl rfl rfl
  generalize hi * m = A at *
  generalize lo * m = B at *
  unfold M128
  by_cases h : A * 18446744073709551616 + B < 340282366920938463463374607431768211456
  · rw [if_pos h]
    have := k1 (by omega) rfl rfl rfl rfl (by omega) w
    refine this.mono ?_
    rintro r w' ⟨rfl, hB⟩
    refine ⟨?_, hB⟩
    rw [show (A * 18446744073709551616 + B) / 18446744073709551616 = A % 18446744073709551616 + B / 18446744073709551616 by omega, show (A * 18446744073709551616 + B) % 18446744073709551616 = B % 18446744073709551616 by omega]
  · rw [if_neg h]
    exact k2 (by omega) w
/-- A number in the making of twice 64 bits. -/
def Wd.val (w : Wd) : Value := wv w.neg (w.n / 18446744073709551616) (w.n % 18446744073709551616) w.e
def pairV (o : Option Wd) : Value := match o with | some w => .tuple #[w.val, .bool true] | none => .tuple #[wv false 0 0 0, .bool false]
theorem tenth_any (x : Wd) (h : x.n < M128) (he : x.e < 9223372036854775807) (he0 : -9223372036854775808 ≤ x.e) (w : World) :
    Calls Tryd.prog 69 #[x.val] w fun r w' => r = .returned (.tuple #[Wd.val ⟨x.neg, x.n / 10, x.e + 1⟩, .int .u64 ((x.n % 10 : Nat) : Int)]) ∧ Below w.heap.size w w' := by
  unfold M128 at h
  unfold Wd.val
  obtain ⟨neg, n, e⟩ := x
  simp only at *
  exact tenth_raw neg (n / 18446744073709551616) (n % 18446744073709551616) _ _ _ e (by omega) (by omega) he he0 (by omega) (by omega) (by omega) w
theorem times_W (x : Wd) (m : Nat) (h : x.n < M128) (hm : m < 18446744073709551616) (w : World) :
    Calls Tryd.prog 86 #[x.val, .int .u64 m] w fun r w' => r = .returned (pairV (if x.n * m < M128 then some ⟨x.neg, x.n * m, x.e⟩ else none)) ∧ Below w.heap.size w w' := by
  obtain ⟨neg, n, e⟩ := x
  have := times_any neg (n / 18446744073709551616) (n % 18446744073709551616) m e (by unfold M128 at h; simp only at h; omega) (by omega) hm w
  rw [show n / 18446744073709551616 * 18446744073709551616 + n % 18446744073709551616 = n by omega] at this
  refine this.mono ?_
  rintro r w' ⟨rfl, hB⟩
  refine ⟨?_, hB⟩
  simp only
  split <;> rfl
end Go.Proofs.YtfbhonjndepjbaaDoor
