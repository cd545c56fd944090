import Derived.Test.YtoncpcdepemlcaaGreatDoorWdv
import Derived.Shelf.Spec.BitsCarry
import Derived.Test.YtoncpcdepemlcaaGreatDoorDpuM
import Derived.LoopN
import Derived.Laws.MakeOwn
/- tenth, times: a number without its last digit; a number times a small one. -/
namespace Go.Proofs.YtoncpcdepemlcaaGreatDoor
open Go.RowKit

theorem below_set {N : Nat} {a w : World} (h : Below N a w) {B : Nat} (i : Nat) (v : Value) (hB : N ≤ B) : Below N a (w.setCell ⟨B, i, none⟩ v) :=
  ((Kept.of_below (S := (· < N)) h (fun _ h => h)).setCell (p := ⟨B, i, none⟩) (fun (e : B < N) => absurd e (by omega)) v).below (fun _ h => h)
theorem Row.off {W : World} {B : Nat} {t : TypeId} {cs : Array Value} (h : Row W B t cs) {B' : Nat} (i : Nat) (v : Value) (hne : B ≠ B') : Row (W.setCell ⟨B', i, none⟩ v) B t cs :=
  (Below.heap_setCell _ _ _ _ hne).trans h
/-- A box and the result's cell, behind a call that draws alone or keeps what lies below. -/
theorem two_rows (w w1 : World) (o1 o2 : Array Value) (t1 t2 : TypeId) (h : Below (((w.alloc (.cells o1 t1)).alloc (.cells o2 t2)).heap.size) ((w.alloc (.cells o1 t1)).alloc (.cells o2 t2)) w1) :
    Row w1 w.heap.size t1 o1 ∧ Row w1 (w.heap.size + 1) t2 o2 ∧ Below w.heap.size w w1 := by
  refine ⟨((Row.new w t1 o1).alloc _).below h (by simp; omega), (Row.new1 w _ t2 o2).below h (by simp), ?_⟩
  exact (((Below.refl _ w).alloc (Nat.le_refl _) _).alloc (by simp) _).trans (h.mono (by simp; omega))
set_option maxRecDepth 100000 in
set_option maxHeartbeats 1000000 in
theorem tenth_raw (neg : Bool) (hi lo h' l' d : Nat) (e : Int) (hh : hi < 18446744073709551616) (hl : lo < 18446744073709551616) (he : e < 9223372036854775807) (he0 : -9223372036854775808 ≤ e)
    (e1 : hi / 10 = h') (e2 : (hi % 10 * 18446744073709551616 + lo) / 10 = l') (e3 : (hi % 10 * 18446744073709551616 + lo) % 10 = d) (w : World) :
    Calls Tryz.prog 112 #[wv neg hi lo e] w fun r w' => r = .returned (.tuple #[wv neg h' l' (e + 1), .int .u64 (d : Int)]) ∧ Below w.heap.size w w' := by
  have hd : ∀ w, Calls Tryz.prog 128 #[.int .u64 ((hi % 10 : Nat) : Int), .int .u64 lo, .int .u64 10] w fun r w' => r = .returned (.tuple #[.int .u64 (l' : Int), .int .u64 (d : Int)]) ∧ ∃ q, w' = w.drewN q := fun w => by
    have := div10_any (hi % 10) lo (by omega) hl w
    rw [e2, e3] at this
    exact this
  obtain ⟨o, ho⟩ : ∃ o, hi % 10 = o := ⟨_, rfl⟩
  rw [ho] at hd
  have f1 : Hid ((hi : Int) / 10 = (h' : Int)) := by show _ = _; omega
  have f2 : Hid ((hi : Int) % 10 = (o : Int)) := by show _ = _; omega
  clear e1 e2 e3 ho
  unfold wv
  go_enter Tryz.func112, Tryz.ntmps112
  go_wp2_with fail
  go_quiet (fail)
  go_wp2_with fail
  rw [f1.out, f2.out]
  refine (hd _).mono ?_
  rintro _ w1 ⟨rfl, q, hq⟩
  obtain ⟨hA, hZ, hB⟩ := two_rows w w1 _ _ _ _ (by rw [hq]; exact ⟨rfl, rfl, rfl, Nat.le_refl _, fun _ _ => rfl⟩)
  clear hq f1 f2 hd
  obtain ⟨c0, c1, c2, c3⟩ := hA.four
  obtain ⟨d0, d1, d2, d3⟩ := hZ.four
  have z0 := hA.frozen; have z1 := hZ.frozen
  have hne : w.heap.size ≠ w.heap.size + 1 := by omega
  go_wp2
  refine bodyPost_ret (ret_two rfl (g := w.heap.size + 1) rfl rfl (load57 (Row.set4 (((hZ.off _ _ (Ne.symm hne)).off _ _ (Ne.symm hne)).off _ _ (Ne.symm hne)) _ _ _ _) rfl)) rfl ⟨rfl, ?_⟩
  repeat (refine below_set ?_ _ _ (by omega))
  exact hB
theorem add64 (x y c : Nat) (hc : c ≤ 1) (w : World) :
    (callFunc 155 #[.int .u64 x, .int .u64 y, .int .u64 c]).run Tryz.prog w =
      .ok (.value (.tuple #[.int .u64 (((x + y + c) % 18446744073709551616 : Nat) : Int), .int .u64 (((x + y + c) / 18446744073709551616 : Nat) : Int)])) w := by
  rw [run_callFunc_extern Tryz.func155 (by kernel_rfl) (by kernel_rfl) (by kernel_rfl) (e := add64Entry) (by kernel_rfl), run_add64 x y c (by omega) (by omega) (by omega) (by omega)]
  simp only [Result.andThen]
  congr 5 <;> omega
set_option maxRecDepth 100000 in
set_option maxHeartbeats 1000000 in
theorem times_ok (neg : Bool) (hi lo m x y v c : Nat) (e : Int) (hh : hi < 18446744073709551616) (hl : lo < 18446744073709551616) (hm : m < 18446744073709551616)
    (e1 : hi * m / 18446744073709551616 = 0) (e2 : hi * m % 18446744073709551616 = x) (e3 : lo * m / 18446744073709551616 = y) (e4 : lo * m % 18446744073709551616 = v) (e5 : x + y = c) (e6 : c < 18446744073709551616) (w : World) :
    Calls Tryz.prog 144 #[wv neg hi lo e, .int .u64 m] w fun r w' => r = .returned (.tuple #[wv neg c v e, .bool true]) ∧ Below w.heap.size w w' := by
  have m1 := Tryz.bits_Mul64 hi m hh hm
  have m2 := Tryz.bits_Mul64 lo m hl hm
  rw [e1, e2] at m1
  rw [e3, e4] at m2
  have ha : ∀ w, (callFunc 155 #[.int .u64 x, .int .u64 y, .int .u64 0]).run Tryz.prog w = .ok (.value (.tuple #[.int .u64 (c : Int), .int .u64 0])) w := fun w => by
    have := add64 x y 0 (by omega) w
    rw [show (x + y + 0) % 18446744073709551616 = c by omega, show (x + y + 0) / 18446744073709551616 = 0 by omega] at this
    exact this
  unfold wv
  clear e1 e2 e3 e4 e5
  go_enter Tryz.func144, Tryz.ntmps144
  go_wp2_with fail
  refine (m1 _).mono ?_
  rintro _ w1 ⟨rfl, hw1⟩
  rw [hw1]
  clear hw1 w1
  go_wp2_with fail
  refine (m2 _).mono ?_
  rintro _ w1 ⟨rfl, hw1⟩
  rw [hw1]
  clear hw1 w1
  go_wp2_with fail
  try simp only [ha]
  clear ha m1 m2
  go_wp2
  refine bodyPost_ret (ret_two rfl (g := w.heap.size + 1) rfl rfl (load57 (Row.new1 w _ 125 _) rfl)) rfl ⟨rfl, ?_⟩
  exact (((Below.refl _ w).alloc (Nat.le_refl _) _).alloc (by simp) _)
set_option maxRecDepth 100000 in
set_option maxHeartbeats 1000000 in
theorem times_over (neg : Bool) (hi lo m o x y v c k : Nat) (e : Int) (hh : hi < 18446744073709551616) (hl : lo < 18446744073709551616) (hm : m < 18446744073709551616)
    (e1 : hi * m / 18446744073709551616 = o) (e2 : hi * m % 18446744073709551616 = x) (e3 : lo * m / 18446744073709551616 = y) (e4 : lo * m % 18446744073709551616 = v)
    (e5 : (x + y) % 18446744073709551616 = c) (e6 : (x + y) / 18446744073709551616 = k) (e7 : o ≠ 0 ∨ k ≠ 0) (w : World) :
    Calls Tryz.prog 144 #[wv neg hi lo e, .int .u64 m] w fun r w' => r = .returned (.tuple #[wv false 0 0 0, .bool false]) ∧ Below w.heap.size w w' := by
  have m1 := Tryz.bits_Mul64 hi m hh hm
  have m2 := Tryz.bits_Mul64 lo m hl hm
  rw [e1, e2] at m1
  rw [e3, e4] at m2
  have ha : ∀ w, (callFunc 155 #[.int .u64 x, .int .u64 y, .int .u64 0]).run Tryz.prog w = .ok (.value (.tuple #[.int .u64 (c : Int), .int .u64 (k : Int)])) w := fun w => by
    have := add64 x y 0 (by omega) w
    rw [Nat.add_zero, e5, e6] at this
    exact this
  unfold wv
  clear e1 e2 e3 e4 e5 e6
  by_cases ho : o = 0
  · have hk : ((k : Int) != 0) = true := by simp; omega
    have ho2 : ((o : Int) != 0) = false := by simp; omega
    clear e7 ho
    go_enter Tryz.func144, Tryz.ntmps144
    go_wp2_with fail
    refine (m1 _).mono ?_
    rintro _ w1 ⟨rfl, hw1⟩
    rw [hw1]
    clear hw1 w1
    go_wp2_with fail
    refine (m2 _).mono ?_
    rintro _ w1 ⟨rfl, hw1⟩
    rw [hw1]
    clear hw1 w1
    go_wp2
    refine bodyPost_ret (ret_two rfl (g := w.heap.size + 1) rfl rfl (load57 (Row.new1 w _ 125 _) rfl)) rfl ⟨rfl, ?_⟩
    exact (((Below.refl _ w).alloc (Nat.le_refl _) _).alloc (by simp) _)
  · have ho2 : ((o : Int) != 0) = true := by simp; omega
    clear e7 ho
    go_enter Tryz.func144, Tryz.ntmps144
    go_wp2_with fail
    refine (m1 _).mono ?_
    rintro _ w1 ⟨rfl, hw1⟩
    rw [hw1]
    clear hw1 w1
    go_wp2_with fail
    refine (m2 _).mono ?_
    rintro _ w1 ⟨rfl, hw1⟩
    rw [hw1]
    clear hw1 w1
    go_wp2
    refine bodyPost_ret (ret_two rfl (g := w.heap.size + 1) rfl rfl (load57 (Row.new1 w _ 125 _) rfl)) rfl ⟨rfl, ?_⟩
    exact (((Below.refl _ w).alloc (Nat.le_refl _) _).alloc (by simp) _)

theorem times_any (neg : Bool) (hi lo m : Nat) (e : Int) (hh : hi < 18446744073709551616) (hl : lo < 18446744073709551616) (hm : m < 18446744073709551616) (w : World) :
    Calls Tryz.prog 144 #[wv neg hi lo e, .int .u64 m] w fun r w' => r = .returned (if (hi * 18446744073709551616 + lo) * m < M128 then .tuple #[wv neg ((hi * 18446744073709551616 + lo) * m / 18446744073709551616) ((hi * 18446744073709551616 + lo) * m % 18446744073709551616) e, .bool true] else .tuple #[wv false 0 0 0, .bool false]) ∧ Below w.heap.size w w' := by
  have e0 : (hi * 18446744073709551616 + lo) * m = hi * m * 18446744073709551616 + lo * m := by
    rw [Nat.add_mul, Nat.mul_assoc, Nat.mul_comm 18446744073709551616 m, ← Nat.mul_assoc]
  rw [e0]
  have k1 := times_ok neg hi lo m (hi * m % 18446744073709551616) (lo * m / 18446744073709551616) (lo * m % 18446744073709551616) (hi * m % 18446744073709551616 + lo * m / 18446744073709551616) e hh hl hm
  have k2 := times_over neg hi lo m (hi * m / 18446744073709551616) (hi * m % 18446744073709551616) (lo * m / 18446744073709551616) (lo * m % 18446744073709551616) _ ((hi * m % 18446744073709551616 + lo * m / 18446744073709551616) / 18446744073709551616) e hh hl hm rfl rfl rfl rfl rfl rfl
  generalize hi * m = A at *
  generalize lo * m = B at *
  unfold M128
  by_cases h : A * 18446744073709551616 + B < 340282366920938463463374607431768211456
  · rw [if_pos h]
    have := k1 (by omega) rfl rfl rfl rfl (by omega) w
    refine this.mono ?_
    rintro r w' ⟨rfl, hB⟩
    refine ⟨?_, hB⟩
    rw [show (A * 18446744073709551616 + B) / 18446744073709551616 = A % 18446744073709551616 + B / 18446744073709551616 by omega, show (A * 18446744073709551616 + B) % 18446744073709551616 = B % 18446744073709551616 by omega]
  · rw [if_neg h]
    exact k2 (by omega) w
/-- A number in the making of twice 64 bits. -/
def Wd.val (w : Wd) : Value := wv w.neg (w.n / 18446744073709551616) (w.n % 18446744073709551616) w.e
def pairV (o : Option Wd) : Value := match o with | some w => .tuple #[w.val, .bool true] | none => .tuple #[wv false 0 0 0, .bool false]
theorem tenth_any (x : Wd) (h : x.n < M128) (he : x.e < 9223372036854775807) (he0 : -9223372036854775808 ≤ x.e) (w : World) :
    Calls Tryz.prog 112 #[x.val] w fun r w' => r = .returned (.tuple #[Wd.val ⟨x.neg, x.n / 10, x.e + 1⟩, .int .u64 ((x.n % 10 : Nat) : Int)]) ∧ Below w.heap.size w w' := by
  unfold M128 at h
  unfold Wd.val
  obtain ⟨neg, n, e⟩ := x
  simp only at *
  exact tenth_raw neg (n / 18446744073709551616) (n % 18446744073709551616) _ _ _ e (by omega) (by omega) he he0 (by omega) (by omega) (by omega) w
theorem times_W (x : Wd) (m : Nat) (h : x.n < M128) (hm : m < 18446744073709551616) (w : World) :
    Calls Tryz.prog 144 #[x.val, .int .u64 m] w fun r w' => r = .returned (pairV (if x.n * m < M128 then some ⟨x.neg, x.n * m, x.e⟩ else none)) ∧ Below w.heap.size w w' := by
  obtain ⟨neg, n, e⟩ := x
  have := times_any neg (n / 18446744073709551616) (n % 18446744073709551616) m e (by unfold M128 at h; simp only at h; omega) (by omega) hm w
  rw [show n / 18446744073709551616 * 18446744073709551616 + n % 18446744073709551616 = n by omega] at this
  refine this.mono ?_
  rintro r w' ⟨rfl, hB⟩
  refine ⟨?_, hB⟩
  simp only
  split <;> rfl
end Go.Proofs.YtoncpcdepemlcaaGreatDoor
/- lowered: a number with an exponent that is no greater. -/
namespace Go.Proofs.YtoncpcdepemlcaaGreatDoor
open Go.RowKit

def Wd.cells (y : Wd) : Array Value := #[.bool y.neg, .int .u64 ((y.n / 18446744073709551616 : Nat) : Int), .int .u64 ((y.n % 18446744073709551616 : Nat) : Int), .int .i64 y.e]
theorem Wd.val_eq (y : Wd) : y.val = .agg y.cells := rfl
def zeroCells : Array Value := #[.bool false, .int .u64 0, .int .u64 0, .int .i64 0]
def eCell (B : Nat) (w : World) : Int := match w.cell? ⟨B, 3, none⟩ with | some (.int _ x) => x | _ => 0
def boolN : Value → Nat | .bool true => 1 | _ => 0
theorem eCell_row {W : World} {B : Nat} {t : TypeId} {y : Wd} (h : Row W B t y.cells) : eCell B W = y.e := by
  unfold eCell
  rw [h.cell (i := 3) (v := .int .i64 y.e) rfl]
def lowR (neg : Bool) (n : Nat) (e t : Int) (B0 B1 : Nat) (w0 : World) (v : Value) (wr : World) : Prop :=
  (∃ k : Nat, (k = 0 ∨ (k : Int) ≤ e - t) ∧ n * 10 ^ k < M128 ∧ v = .bool true ∧ Row wr B0 125 (Wd.cells ⟨neg, n * 10 ^ k, e - k⟩) ∧ Row wr B1 125 zeroCells ∧ Below w0.heap.size w0 wr) ∨
  (v = .bool false ∧ Row wr B0 125 zeroCells ∧ Row wr B1 125 zeroCells ∧ t < e ∧ ¬ n * 10 ^ (e - t).toNat < M128 ∧ Below w0.heap.size w0 wr)

set_option maxRecDepth 100000 in
set_option maxHeartbeats 2000000 in
theorem lowered_any (x : Wd) (t : Int) (h : x.n < M128) (he : x.e ≤ 9223372036854775807) (he0 : -9223372036854775808 ≤ x.e) (ht : -9223372036854775808 ≤ t) (w : World) :
    Calls Tryz.prog 125 #[x.val, .int .i64 t] w fun r w' => r = .returned (pairV (lowW x t)) ∧ Below w.heap.size w w' := by
  obtain ⟨neg, n, e⟩ := x
  simp only at h he he0
  rw [Wd.val_eq]
  unfold Wd.cells
  simp only
  obtain ⟨hi, hhi⟩ : ∃ hi, n / 18446744073709551616 = hi := ⟨_, rfl⟩
  obtain ⟨lo, hlo⟩ : ∃ lo, n % 18446744073709551616 = lo := ⟨_, rfl⟩
  rw [hhi, hlo]
  have HHI : Hid (n / 18446744073709551616 = hi) := hhi
  have HLO : Hid (n % 18446744073709551616 = lo) := hlo
  clear hhi hlo
  go_enter Tryz.func125, Tryz.ntmps125
  go_wp2_with fail
  go_loopw [6] (lowR neg n e t w.heap.size (w.heap.size + 1) w) (fun v wr => boolN v * (1 + (eCell w.heap.size wr - t).toNat))
  case atStart =>
    refine Or.inl ⟨0, Or.inl rfl, by simpa using h, rfl, ?_, Row.new1 w _ 125 _, ((Below.refl _ w).alloc (Nat.le_refl _) _).alloc (by simp) _⟩
    unfold Wd.cells
    simp only [Nat.pow_zero, Nat.mul_one]
    rw [HHI.out, HLO.out, show e - ((0 : Nat) : Int) = e by omega]
    exact (Row.new w 125 _).alloc _
  case round =>
    rcases hrel with ⟨k, hk, hM, rfl, hA, hZ, hB⟩ | ⟨rfl, hA, hZ, hte, hM, hB⟩
    · obtain ⟨a0, a1, a2, a3⟩ := hA.four
      obtain ⟨d0, d1, d2, d3⟩ := hZ.four
      have z0 := hA.frozen; have z1 := hZ.frozen
      have hEC := eCell_row hA
      have hk' : Hid (k = 0 ∨ (k : Int) ≤ e - t) := hk
      have hM' : Hid (n * 10 ^ k < M128) := hM
      have hne : w.heap.size ≠ w.heap.size + 1 := by omega
      obtain ⟨nk, hnk⟩ : ∃ nk, n * 10 ^ k = nk := ⟨_, rfl⟩
      obtain ⟨ek, hek⟩ : ∃ ek, e - (k : Int) = ek := ⟨_, rfl⟩
      have hek0 : Hid (e - (k : Int) = ek) := hek
      have hnk0 : Hid (n * 10 ^ k = nk) := hnk
      have b1 : -9223372036854775808 ≤ ek := by omega
      have b2 : ek ≤ 9223372036854775807 := by omega
      by_cases hgt : t < ek
      · obtain ⟨ek', hek'⟩ : ∃ ek', ek - 1 = ek' := ⟨_, rfl⟩
        have f1 : wrap64 (ek - 1) = ek' := by unfold wrap64; omega
        have hT := times_W ⟨neg, nk, ek'⟩ 10 (by rw [← hnk]; exact hM) (by omega)
        rw [Wd.val_eq] at hT
        unfold Wd.cells at hT hA
        simp only [hnk, hek] at hT hA a0 a1 a2 a3
        have hEK : Hid (ek - 1 = ek') := hek'
        obtain ⟨hi', hhi⟩ : ∃ hi, nk / 18446744073709551616 = hi := ⟨_, rfl⟩
        obtain ⟨lo', hlo⟩ : ∃ lo, nk % 18446744073709551616 = lo := ⟨_, rfl⟩
        rw [hhi, hlo] at hT hA
        rw [hhi] at a1
        rw [hlo] at a2
        have hA2 : Row (wr.setCell ⟨w.heap.size, 3, none⟩ (.int .i64 ek')) w.heap.size 125 #[.bool neg, .int .u64 (hi' : Int), .int .u64 (lo' : Int), .int .i64 ek'] := hA.set 3 _
        have hZ2 : Row (wr.setCell ⟨w.heap.size, 3, none⟩ (.int .i64 ek')) (w.heap.size + 1) 125 zeroCells := hZ.off _ _ (Ne.symm hne)
        have hB2 : Below w.heap.size w (wr.setCell ⟨w.heap.size, 3, none⟩ (.int .i64 ek')) := below_set hB _ _ (Nat.le_refl _)
        have hs : w.heap.size + 1 < (wr.setCell ⟨w.heap.size, 3, none⟩ (.int .i64 ek')).heap.size := hZ2.lt
        clear hnk hek hek' hk hM he he0 ht h HHI HLO hhi hlo
        by_cases hlt : nk * 10 < M128
        · simp only [if_pos hlt] at hT
          unfold pairV at hT
          simp only [Wd.val_eq] at hT
          unfold Wd.cells at hT
          simp only at hT
          obtain ⟨H, hH⟩ : ∃ H, nk * 10 / 18446744073709551616 = H := ⟨_, rfl⟩
          obtain ⟨L, hL⟩ : ∃ L, nk * 10 % 18446744073709551616 = L := ⟨_, rfl⟩
          simp only [hH, hL] at hT
          have hH' : Hid (nk * 10 / 18446744073709551616 = H) := hH
          have hL' : Hid (nk * 10 % 18446744073709551616 = L) := hL
          have HLT : Hid (nk * 10 < M128) := hlt
          clear hH hL hlt
          go_wp2_with fail
          try rw [f1]
          refine (hT _).mono ?_
          rintro _ w2 ⟨rfl, hB3⟩
          have hA3 := hA2.below hB3 hA2.lt
          have hZ3 := hZ2.below hB3 hZ2.lt
          have hB4 := hB2.trans (hB3.mono (by omega))
          obtain ⟨g0, g1, g2, g3⟩ := hA3.four
          have z2 := hA3.frozen
          clear a0 a1 a2 a3 d0 d1 d2 d3 z0 z1 hT hA hA2 hZ2
          go_wp2
          have hfin : Row ((((w2.setCell ⟨w.heap.size, 0, none⟩ (.bool neg)).setCell ⟨w.heap.size, 1, none⟩ (.int .u64 (H : Int))).setCell ⟨w.heap.size, 2, none⟩ (.int .u64 (L : Int))).setCell ⟨w.heap.size, 3, none⟩ (.int .i64 ek')) w.heap.size 125 (Wd.cells ⟨neg, n * 10 ^ (k + 1), e - ((k + 1 : Nat) : Int)⟩) := by
            unfold Wd.cells
            simp only
            rw [Nat.pow_succ, ← Nat.mul_assoc, hnk0.out, hH'.out, hL'.out, show e - ((k + 1 : Nat) : Int) = ek' by have := hEK.out; have := hek0.out; omega]
            exact hA3.set4 _ _ _ _
          refine ⟨Or.inl ⟨k + 1, Or.inr ?_, ?_, rfl, hfin, ?_, ?_⟩, ?_⟩
          · have := hek0.out; omega
          · rw [Nat.pow_succ, ← Nat.mul_assoc, hnk0.out]; exact HLT.out
          · exact (((hZ3.off _ _ (Ne.symm hne)).off _ _ (Ne.symm hne)).off _ _ (Ne.symm hne)).off _ _ (Ne.symm hne)
          · repeat (refine below_set ?_ _ _ (Nat.le_refl _))
            exact hB4
          · rw [eCell_row hfin, hEC]
            have := hek0.out
            simp only [boolN]
            omega
        · simp only [if_neg hlt] at hT
          unfold pairV at hT
          simp only [wv] at hT
          have HLT : Hid (¬ nk * 10 < M128) := hlt
          clear hlt
          go_wp2_with fail
          try rw [f1]
          refine (hT _).mono ?_
          rintro _ w2 ⟨rfl, hB3⟩
          have hA3 := hA2.below hB3 hA2.lt
          have hZ3 := hZ2.below hB3 hZ2.lt
          have hB4 := hB2.trans (hB3.mono (by omega))
          obtain ⟨g0, g1, g2, g3⟩ := hA3.four
          have z2 := hA3.frozen
          clear a0 a1 a2 a3 d0 d1 d2 d3 z0 z1 hT hA hA2 hZ2
          go_wp2
          have hfin : Row ((((w2.setCell ⟨w.heap.size, 0, none⟩ (.bool false)).setCell ⟨w.heap.size, 1, none⟩ (.int .u64 0)).setCell ⟨w.heap.size, 2, none⟩ (.int .u64 0)).setCell ⟨w.heap.size, 3, none⟩ (.int .i64 0)) w.heap.size 125 (Wd.cells ⟨false, 0, 0⟩) := hA3.set4 _ _ _ _
          refine ⟨Or.inr ⟨rfl, hfin, ?_, ?_, ?_, ?_⟩, ?_⟩
          · exact (((hZ3.off _ _ (Ne.symm hne)).off _ _ (Ne.symm hne)).off _ _ (Ne.symm hne)).off _ _ (Ne.symm hne)
          · have := hek0.out; omega
          · have h1 := HLT.out
            have h2 : nk * 10 ≤ n * 10 ^ (e - t).toNat := by
              rw [← hnk0.out, Nat.mul_assoc, ← Nat.pow_succ]
              exact Nat.mul_le_mul_left _ (Nat.pow_le_pow_right (by omega) (by have := hek0.out; omega))
            omega
          · repeat (refine below_set ?_ _ _ (Nat.le_refl _))
            exact hB4
          · rw [eCell_row hfin, hEC]
            simp only [boolN]
            omega
      · have hm : (e - (k : Int) ≤ t) := by omega
        have HF : Hid (pairV (lowW ⟨neg, n, e⟩ t) = .tuple #[Wd.val ⟨neg, nk, ek⟩, .bool true]) := by
          show _ = _
          unfold lowW
          simp only
          by_cases hk0 : k = 0
          · subst hk0
            rw [if_pos (by omega), ← hnk, ← hek]
            simp [pairV]
          · rw [if_neg (by omega), show (e - t).toNat = k by omega, if_pos hM, hnk]
            simp only [pairV]
            rw [show t = ek by omega]
        unfold Wd.cells at hA
        simp only [hnk, hek] at hA a0 a1 a2 a3
        obtain ⟨hi', hhi⟩ : ∃ hi, nk / 18446744073709551616 = hi := ⟨_, rfl⟩
        obtain ⟨lo', hlo⟩ : ∃ lo, nk % 18446744073709551616 = lo := ⟨_, rfl⟩
        have hhi' : Hid (nk / 18446744073709551616 = hi') := hhi
        have hlo' : Hid (nk % 18446744073709551616 = lo') := hlo
        rw [hhi] at a1
        rw [hlo] at a2
        clear hnk hek hk hM he he0 ht h HHI HLO hhi hlo hm
        go_wp2
        refine bodyPost_ret (ret_two rfl (g := w.heap.size + 1) rfl rfl (load57 (Row.set4 hZ _ _ _ _) rfl)) rfl ⟨?_, ?_⟩
        · rw [HF.out, Wd.val_eq]; unfold Wd.cells; simp only; rw [hhi'.out, hlo'.out]; rfl
        · repeat (refine below_set ?_ _ _ (by omega))
          exact hB
    · obtain ⟨a0, a1, a2, a3⟩ := hA.four
      obtain ⟨d0, d1, d2, d3⟩ := hZ.four
      have z0 := hA.frozen; have z1 := hZ.frozen
      have HF : Hid (pairV (lowW ⟨neg, n, e⟩ t) = .tuple #[wv false 0 0 0, .bool false]) := by
        show _ = _
        unfold lowW
        rw [if_neg (by simp only; omega), if_neg hM]; rfl
      clear hM hte h he he0 ht
      go_wp2
      refine bodyPost_ret (ret_two rfl (g := w.heap.size + 1) rfl rfl (load57 (Row.set4 hZ _ _ _ _) rfl)) rfl ⟨by rw [HF.out]; rfl, ?_⟩
      repeat (refine below_set ?_ _ _ (by omega))
      exact hB
end Go.Proofs.YtoncpcdepemlcaaGreatDoor
/- short: a number without the noughts at its end. -/
namespace Go.Proofs.YtoncpcdepemlcaaGreatDoor
open Go.RowKit

def shR (neg : Bool) (n : Nat) (e : Int) (B0 B1 : Nat) (w0 : World) (_ : Value) (wr : World) : Prop :=
  ∃ y : Wd, y.neg = neg ∧ strip y.n y.e = strip n e ∧ y.n ≠ 0 ∧ y.n < M128 ∧ e ≤ y.e ∧ (y.e = e ∨ y.e ≤ 18) ∧ Row wr B0 125 y.cells ∧ Row wr B1 125 zeroCells ∧ Below w0.heap.size w0 wr
theorem zero_W (x : Wd) (w : World) : Calls Tryz.prog 107 #[x.val] w fun r w' => r = .returned (.bool (decide (x.n = 0))) ∧ Below w.heap.size w w' := by
  refine (zero_any x.neg (x.n / 18446744073709551616) (x.n % 18446744073709551616) x.e w).mono ?_
  rintro r w' ⟨rfl, hB⟩
  refine ⟨?_, hB⟩
  congr 2
  rw [decide_eq_decide]
  omega
set_option maxRecDepth 100000 in
set_option maxHeartbeats 800000 in
theorem short_any (x : Wd) (h : x.n < M128) (he : x.e ≤ 9223372036854775807) (he0 : -9223372036854775808 ≤ x.e) (w : World) :
    Calls Tryz.prog 106 #[x.val] w fun r w' => r = .returned (shortW x).val ∧ Below w.heap.size w w' := by
  have hz := zero_W x
  obtain ⟨neg, n, e⟩ := x
  simp only at h he he0 hz
  simp only [Wd.val_eq] at hz ⊢
  unfold Wd.cells at hz
  simp only at hz
  rw [show (Wd.mk neg n e).cells = #[.bool neg, .int .u64 ((n / 18446744073709551616 : Nat) : Int), .int .u64 ((n % 18446744073709551616 : Nat) : Int), .int .i64 e] from rfl]
  obtain ⟨hi, hhi⟩ : ∃ hi, n / 18446744073709551616 = hi := ⟨_, rfl⟩
  obtain ⟨lo, hlo⟩ : ∃ lo, n % 18446744073709551616 = lo := ⟨_, rfl⟩
  rw [hhi, hlo] at hz ⊢
  have HHI : Hid (n / 18446744073709551616 = hi) := hhi
  have HLO : Hid (n % 18446744073709551616 = lo) := hlo
  clear hhi hlo
  by_cases hn : n = 0
  · have HF : Hid ((shortW ⟨neg, n, e⟩).cells = #[.bool false, .int .u64 0, .int .u64 0, .int .i64 0]) := by
      show _ = _
      unfold shortW; rw [if_pos hn]; rfl
    rw [decide_eq_true hn] at hz
    rw [HF.out]
    clear hn HHI HLO
    go_enter Tryz.func106, Tryz.ntmps106
    go_wp2_with fail
    refine (hz _).mono ?_
    rintro _ w1 ⟨rfl, hB⟩
    obtain ⟨hA, hZ, hB⟩ := two_rows w w1 _ _ _ _ hB
    obtain ⟨d0, d1, d2, d3⟩ := hZ.four
    have z1 := hZ.frozen
    go_wp2
    refine bodyPost_ret (ret_one rfl (g := w.heap.size + 1) rfl (load57 (Row.set4 hZ _ _ _ _) rfl)) rfl ⟨rfl, ?_⟩
    repeat (refine below_set ?_ _ _ (by omega))
    exact hB
  · have HF : Hid ((shortW ⟨neg, n, e⟩).cells = Wd.cells ⟨neg, (strip n e).1, (strip n e).2⟩) := by
      show _ = _
      unfold shortW; rw [if_neg hn]
    rw [decide_eq_false hn] at hz
    have HN : Hid (n ≠ 0) := hn
    clear hn
    go_enter Tryz.func106, Tryz.ntmps106
    go_wp2_with fail
    refine (hz _).mono ?_
    rintro _ w1 ⟨rfl, hB⟩
    obtain ⟨hA, hZ, hB⟩ := two_rows w w1 _ _ _ _ hB
    clear hz
    go_wp2_with fail
    go_loopw [4] (shR neg n e w.heap.size (w.heap.size + 1) w) (fun _ wr => (18 - eCell w.heap.size wr).toNat)
    case atStart =>
      refine ⟨⟨neg, n, e⟩, rfl, rfl, HN.out, h, Int.le_refl _, Or.inl rfl, ?_, hZ, hB⟩
      unfold Wd.cells
      simp only
      rw [HHI.out, HLO.out]
      exact hA
    case round =>
      obtain ⟨⟨neg', m, f⟩, rfl, hS, hm0, hmM, hle, hf, hA, hZ, hB⟩ := hrel
      simp only at hS hm0 hmM hle hf
      obtain ⟨a0, a1, a2, a3⟩ := hA.four
      obtain ⟨d0, d1, d2, d3⟩ := hZ.four
      have z0 := hA.frozen; have z1 := hZ.frozen
      have hEC := eCell_row hA
      have hne : w.heap.size ≠ w.heap.size + 1 := by omega
      have hT := tenth_any ⟨neg', m, f⟩ hmM
      simp only [Wd.val_eq] at hT
      unfold Wd.cells at hT hA
      simp only at hT hA a0 a1 a2 a3 hEC
      obtain ⟨hi', hhi⟩ : ∃ hi, m / 18446744073709551616 = hi := ⟨_, rfl⟩
      obtain ⟨lo', hlo⟩ : ∃ lo, m % 18446744073709551616 = lo := ⟨_, rfl⟩
      have hhi' : Hid (m / 18446744073709551616 = hi') := hhi
      have hlo' : Hid (m % 18446744073709551616 = lo') := hlo
      rw [hhi, hlo] at hT hA
      rw [hhi] at a1
      rw [hlo] at a2
      clear hhi hlo
      by_cases hlt : f < 18
      · have hT := hT (by omega) (by omega)
        obtain ⟨m', hm'⟩ : ∃ m', m / 10 = m' := ⟨_, rfl⟩
        obtain ⟨dg, hdg⟩ : ∃ dg, m % 10 = dg := ⟨_, rfl⟩
        rw [hm', hdg] at hT
        obtain ⟨H, hH⟩ : ∃ H, m' / 18446744073709551616 = H := ⟨_, rfl⟩
        obtain ⟨L, hL⟩ : ∃ L, m' % 18446744073709551616 = L := ⟨_, rfl⟩
        rw [hH, hL] at hT
        obtain ⟨f', hf'⟩ : ∃ f', f + 1 = f' := ⟨_, rfl⟩
        rw [hf'] at hT
        have hH' : Hid (m' / 18446744073709551616 = H) := hH
        have hL' : Hid (m' % 18446744073709551616 = L) := hL
        have hM' : Hid (m / 10 = m') := hm'
        have hD' : Hid (m % 10 = dg) := hdg
        have hF' : Hid (f + 1 = f') := hf'
        have hMM : Hid (m ≠ 0 ∧ m < M128) := ⟨hm0, hmM⟩
        have hSS : Hid (strip m f = strip n e) := hS
        have hlf : Hid (e ≤ f ∧ (f = e ∨ f ≤ 18)) := ⟨hle, hf⟩
        have hbz : ∀ W, Below wr.heap.size wr W → Row W w.heap.size 125 #[.bool neg', .int .u64 (hi' : Int), .int .u64 (lo' : Int), .int .i64 f] ∧ Row W (w.heap.size + 1) 125 zeroCells ∧ Below w.heap.size w W := fun W hW =>
          ⟨hA.below hW hA.lt, hZ.below hW hZ.lt, hB.trans (hW.mono (by have := hZ.lt; omega))⟩
        clear hH hL hm' hdg hf' hm0 hmM hS hle hf he he0 h HHI HLO
        by_cases hd0 : dg = 0
        · subst hd0
          go_wp2_with fail
          refine (hT _).mono ?_
          rintro _ w2 ⟨rfl, hB2⟩
          obtain ⟨hA2, hZ2, hB3⟩ := hbz w2 hB2
          have hlt2 : w.heap.size < w2.heap.size := hA2.lt
          have z3 := hA2.frozen
          obtain ⟨g0, g1, g2, g3⟩ := hA2.four
          clear a0 a1 a2 a3 d0 d1 d2 d3 z0 z1 hT
          go_wp2
          have hfin : Row (((((w2.setCell ⟨w.heap.size, 0, none⟩ (.bool neg')).setCell ⟨w.heap.size, 1, none⟩ (.int .u64 (H : Int))).setCell ⟨w.heap.size, 2, none⟩ (.int .u64 (L : Int))).setCell ⟨w.heap.size, 3, none⟩ (.int .i64 f')).alloc (.cells #[.bool neg', .int .u64 (H : Int), .int .u64 (L : Int), .int .i64 f'] 125)) w.heap.size 125 (Wd.cells ⟨neg', m', f'⟩) := by
            unfold Wd.cells
            simp only
            rw [hH'.out, hL'.out]
            exact (hA2.set4 _ _ _ _).alloc _
          have q1 := hMM.out
          have q2 := hM'.out
          have q3 := hD'.out
          have q4 := hF'.out
          have q5 := hlf.out
          refine ⟨⟨⟨neg', m', f'⟩, rfl, ?_, ?_, ?_, ?_, ?_, hfin, ?_, ?_⟩, ?_⟩
          · simp only
            rw [← hSS.out, ← q2, ← q4, ← strip_go m f (by omega)]
          · simp only; omega
          · simp only; omega
          · simp only; omega
          · simp only; omega
          · exact ((((hZ2.off _ _ (Ne.symm hne)).off _ _ (Ne.symm hne)).off _ _ (Ne.symm hne)).off _ _ (Ne.symm hne)).alloc _
          · refine Below.alloc ?_ (by simp [World.setCell]; omega) _
            repeat (refine below_set ?_ _ _ (Nat.le_refl _))
            exact hB3
          · rw [eCell_row hfin, hEC]
            simp only
            omega
        · have hd1 : ((dg : Int) != 0) = true := by simp; omega
          have HST : Hid (strip n e = (m, f)) := by
            show _ = _
            rw [← hSS.out]
            exact strip_fix m f (Or.inl (by rw [hD'.out]; exact hd0))
          clear hd0
          go_wp2_with fail
          refine (hT _).mono ?_
          rintro _ w2 ⟨rfl, hB2⟩
          obtain ⟨hA2, hZ2, hB3⟩ := hbz w2 hB2
          have hlt2 : w.heap.size < w2.heap.size := hA2.lt
          have hlt3 : w.heap.size + 1 < w2.heap.size := hZ2.lt
          have z3 := hZ2.frozen
          obtain ⟨g0, g1, g2, g3⟩ := hA2.four
          obtain ⟨k0, k1, k2, k3⟩ := hZ2.four
          clear a0 a1 a2 a3 d0 d1 d2 d3 z0 z1 hT
          go_wp2
          refine bodyPost_ret (ret_one rfl (g := w.heap.size + 1) rfl (load57 ((Row.set4 hZ2 _ _ _ _).alloc _) rfl)) rfl ⟨?_, ?_⟩
          · rw [HF.out, HST.out]
            unfold Wd.cells
            simp only
            rw [hhi'.out, hlo'.out]
          · refine Below.alloc ?_ (by simp [World.setCell]; omega) _
            repeat (refine below_set ?_ _ _ (by omega))
            exact hB3
      · have HST : Hid (strip n e = (m, f)) := by
          show _ = _
          rw [← hS]
          exact strip_fix m f (Or.inr (by omega))
        clear hT hS hm0 hmM hle hf he he0 h HHI HLO hEC
        go_wp2
        refine bodyPost_ret (ret_one rfl (g := w.heap.size + 1) rfl (load57 (Row.set4 hZ _ _ _ _) rfl)) rfl ⟨?_, ?_⟩
        · rw [HF.out, HST.out]
          unfold Wd.cells
          simp only
          rw [hhi'.out, hlo'.out]
        · repeat (refine below_set ?_ _ _ (by omega))
          exact hB
end Go.Proofs.YtoncpcdepemlcaaGreatDoor
/- told: the right Dec for a number in the making. -/
namespace Go.Proofs.YtoncpcdepemlcaaGreatDoor
open Go.RowKit

def decV (o : Option (Int × Int)) : Value := match o with | some (c, e) => .tuple #[dv c e, .int .i64 0] | none => .tuple #[dv 0 0, .int .i64 30]
theorem signed_W (x : Wd) (h : x.n < M128) (w : World) : Calls Tryz.prog 126 #[x.val] w fun r w' =>
    r = .returned (if x.n ≤ 9223372036854775807 + x.neg.toNat then .tuple #[.int .i64 (sc x), .bool true] else .tuple #[.int .i64 0, .bool false]) ∧ Below w.heap.size w w' := by
  obtain ⟨neg, n, e⟩ := x
  refine (signed_any neg (n / 18446744073709551616) (n % 18446744073709551616) e w).mono ?_
  rintro r w' ⟨rfl, hB⟩
  refine ⟨?_, hB⟩
  unfold M128 at h
  simp only at h ⊢
  congr 1
  have hn : neg.toNat ≤ 1 := Bool.toNat_le neg
  by_cases hc : n ≤ 9223372036854775807 + neg.toNat
  · rw [if_pos hc, if_pos (by omega), show n % 18446744073709551616 = n by omega]
    unfold sc; cases neg <;> rfl
  · rw [if_neg hc, if_neg (by omega)]
theorem Row.set2 {W : World} {B : Nat} {t : TypeId} {a b : Value} (h : Row W B t #[a, b]) (a' b' : Value) :
    Row ((W.setCell ⟨B, 0, none⟩ a').setCell ⟨B, 1, none⟩ b') B t #[a', b'] := (h.set 0 a').set 1 b'
/-- The Dec of a number whose noughts are gone. -/
def endV (z : Wd) : Option (Int × Int) := if z.n ≤ 9223372036854775807 + z.neg.toNat ∧ -18 ≤ z.e ∧ z.e ≤ 18 then some (sc z, z.e) else none
theorem tellW_end (x : Wd) (h : x.n < M128) : tellW x.neg x.n x.e = (if 18 < (shortW x).e then (match lowW (shortW x) 18 with | some z => endV z | none => none) else endV (shortW x)) := by
  obtain ⟨neg, n, e⟩ := x
  simp only at h ⊢
  unfold tellW shortW
  by_cases hn : n = 0
  · subst hn; rfl
  · rw [if_neg hn, if_neg hn]
    simp only
    obtain ⟨k, a1, a2, a3, a4, a5⟩ := strip_spec n e hn
    generalize strip n e = p at *
    obtain ⟨m, f⟩ := p
    simp only at *
    unfold raise
    simp only
    by_cases hf : 18 < f
    · have hl : lowW ⟨neg, m, f⟩ 18 = if m * 10 ^ (f - 18).toNat < M128 then some ⟨neg, m * 10 ^ (f - 18).toNat, 18⟩ else none := by
        unfold lowW; rw [if_neg (by simp only; omega)]
      rw [if_pos hf, if_pos hf, hl]
      generalize m * 10 ^ (f - 18).toNat = q
      simp only
      have hb := Bool.toNat_le neg
      by_cases hq : q ≤ 9223372036854775807 + neg.toNat
      · have hM : q < M128 := by unfold M128; omega
        have h1 : q ≤ 9223372036854775807 + neg.toNat ∧ (-18 : Int) ≤ 18 := ⟨hq, by omega⟩
        have h2 : q ≤ 9223372036854775807 + neg.toNat ∧ (-18 : Int) ≤ 18 ∧ (18 : Int) ≤ 18 := ⟨hq, by omega, by omega⟩
        simp only [if_pos h1, if_pos hM]
        unfold endV sc
        simp only [if_pos h2]
      · have h1 : ¬ (q ≤ 9223372036854775807 + neg.toNat ∧ (-18 : Int) ≤ 18) := fun hx => hq hx.1
        have h2 : ¬ (q ≤ 9223372036854775807 + neg.toNat ∧ (-18 : Int) ≤ 18 ∧ (18 : Int) ≤ 18) := fun hx => hq hx.1
        by_cases hM : q < M128
        · simp only [if_neg h1, if_pos hM]
          unfold endV
          simp only [if_neg h2]
        · simp only [if_neg h1, if_neg hM]
    · unfold endV sc
      by_cases hc : m ≤ 9223372036854775807 + neg.toNat ∧ -18 ≤ f
      · have h2 : m ≤ 9223372036854775807 + neg.toNat ∧ -18 ≤ f ∧ f ≤ 18 := ⟨hc.1, hc.2, by omega⟩
        simp only [if_neg hf, if_pos hc, if_pos h2]
      · have h2 : ¬ (m ≤ 9223372036854775807 + neg.toNat ∧ -18 ≤ f ∧ f ≤ 18) := fun hx => hc ⟨hx.1, hx.2.1⟩
        simp only [if_neg hf, if_neg hc, if_neg h2]

set_option maxRecDepth 100000 in
set_option maxHeartbeats 2000000 in
theorem told_false (x : Wd) (h : x.n < M128) (he : x.e ≤ 9223372036854775807) (he0 : -9223372036854775808 ≤ x.e) (w : World) :
    Calls Tryz.prog 108 #[x.val, .bool false] w fun r w' => r = .returned (decV none) ∧ Below w.heap.size w w' := by
  have h1 := short_any x h he he0
  have hlt : (shortW x).n < M128 := by
    unfold shortW
    split
    · decide
    · rename_i hn
      obtain ⟨k, a1, _⟩ := strip_spec x.n x.e hn
      have hp := ten_pos k
      have := Nat.le_mul_of_pos_right (strip x.n x.e).1 hp
      simp only
      omega
  have hS := signed_W (shortW x) hlt
  generalize shortW x = y at *
  simp only [Wd.val_eq] at h1 hS ⊢
  unfold Wd.cells at h1 hS ⊢
  obtain ⟨xn, x', xe⟩ := x
  obtain ⟨zn, z', ze⟩ := y
  simp only at *
  obtain ⟨xh, hxh⟩ : ∃ q, x' / 18446744073709551616 = q := ⟨_, rfl⟩
  obtain ⟨xl, hxl⟩ : ∃ q, x' % 18446744073709551616 = q := ⟨_, rfl⟩
  obtain ⟨zh, hzh⟩ : ∃ q, z' / 18446744073709551616 = q := ⟨_, rfl⟩
  obtain ⟨zl, hzl⟩ : ∃ q, z' % 18446744073709551616 = q := ⟨_, rfl⟩
  rw [hxh, hxl] at h1 ⊢
  rw [hzh, hzl] at h1 hS
  unfold decV dv
  simp only
  clear hxh hxl hzh hzl h he he0 hlt
  have hne : w.heap.size + 1 ≠ w.heap.size := by omega
  by_cases hc : z' ≤ 9223372036854775807 + zn.toNat
  · simp only [if_pos hc] at hS
    generalize sc ⟨zn, z', ze⟩ = cc at hS
    clear hc
    go_enter Tryz.func108, Tryz.ntmps108
    go_wp2_with fail
    refine (h1 _).mono ?_
    rintro _ w1 ⟨rfl, hB1⟩
    obtain ⟨hA0, hZ0, hB0⟩ := two_rows w w1 _ _ _ _ hB1
    obtain ⟨a0, a1, a2, a3⟩ := hA0.four
    have z0 := hA0.frozen
    have hA := hA0.set4 (.bool zn) (.int .u64 (zh : Int)) (.int .u64 (zl : Int)) (.int .i64 ze)
    have hZ := (((hZ0.off 0 (.bool zn) hne).off 1 (.int .u64 (zh : Int)) hne).off 2 (.int .u64 (zl : Int)) hne).off 3 (.int .i64 ze) hne
    have hB := below_set (below_set (below_set (below_set hB0 0 (.bool zn) (Nat.le_refl _)) 1 (.int .u64 (zh : Int)) (Nat.le_refl _)) 2 (.int .u64 (zl : Int)) (Nat.le_refl _)) 3 (.int .i64 ze) (Nat.le_refl _)
    clear h1 hB1
    go_wp2_with fail
    refine (hS _).mono ?_
    rintro _ w9 ⟨rfl, hB9⟩
    have hA9 := hA.below hB9 hA.lt
    have hZ9 := hZ.below hB9 hZ.lt
    have hBB := hB.trans (hB9.mono (by have := hZ.lt; omega))
    obtain ⟨g0, g1, g2, g3⟩ := hA9.four
    obtain ⟨y0, y1⟩ := hZ9.duo
    have z9 := hZ9.frozen
    clear hA hZ hS hB9
    go_wp2
    refine bodyPost_ret (ret_two rfl (g := w.heap.size + 1) rfl rfl (load23 (Row.set2 hZ9 _ _) rfl)) rfl ⟨by first | rfl | (rw [HF.out]; rfl), ?_⟩
    repeat (refine below_set ?_ _ _ (by omega))
    exact hBB
  · simp only [if_neg hc] at hS
    clear hc
    go_enter Tryz.func108, Tryz.ntmps108
    go_wp2_with fail
    refine (h1 _).mono ?_
    rintro _ w1 ⟨rfl, hB1⟩
    obtain ⟨hA0, hZ0, hB0⟩ := two_rows w w1 _ _ _ _ hB1
    obtain ⟨a0, a1, a2, a3⟩ := hA0.four
    have z0 := hA0.frozen
    have hA := hA0.set4 (.bool zn) (.int .u64 (zh : Int)) (.int .u64 (zl : Int)) (.int .i64 ze)
    have hZ := (((hZ0.off 0 (.bool zn) hne).off 1 (.int .u64 (zh : Int)) hne).off 2 (.int .u64 (zl : Int)) hne).off 3 (.int .i64 ze) hne
    have hB := below_set (below_set (below_set (below_set hB0 0 (.bool zn) (Nat.le_refl _)) 1 (.int .u64 (zh : Int)) (Nat.le_refl _)) 2 (.int .u64 (zl : Int)) (Nat.le_refl _)) 3 (.int .i64 ze) (Nat.le_refl _)
    clear h1 hB1
    go_wp2_with fail
    refine (hS _).mono ?_
    rintro _ w9 ⟨rfl, hB9⟩
    have hA9 := hA.below hB9 hA.lt
    have hZ9 := hZ.below hB9 hZ.lt
    have hBB := hB.trans (hB9.mono (by have := hZ.lt; omega))
    obtain ⟨g0, g1, g2, g3⟩ := hA9.four
    obtain ⟨y0, y1⟩ := hZ9.duo
    have z9 := hZ9.frozen
    clear hA hZ hS hB9
    go_wp2
    refine bodyPost_ret (ret_two rfl (g := w.heap.size + 1) rfl rfl (load23 (Row.set2 hZ9 _ _) rfl)) rfl ⟨by first | rfl | (rw [HF.out]; rfl), ?_⟩
    repeat (refine below_set ?_ _ _ (by omega))
    exact hBB

set_option maxRecDepth 100000 in
set_option maxHeartbeats 3000000 in
theorem told_true (x : Wd) (h : x.n < M128) (he : x.e ≤ 9223372036854775807) (he0 : -9223372036854775808 ≤ x.e) (w : World) :
    Calls Tryz.prog 108 #[x.val, .bool true] w fun r w' => r = .returned (decV (tellW x.neg x.n x.e)) ∧ Below w.heap.size w w' := by
  have h1 := short_any x h he he0
  rw [tellW_end x h]
  have hlt : (shortW x).n < M128 ∧ (shortW x).e ≤ 9223372036854775807 ∧ -9223372036854775808 ≤ (shortW x).e := by
    unfold shortW
    split
    · decide
    · rename_i hn
      obtain ⟨k, a1, a2, a3, _⟩ := strip_spec x.n x.e hn
      have hp := ten_pos k
      have := Nat.le_mul_of_pos_right (strip x.n x.e).1 hp
      simp only
      omega
  have hS := signed_W (shortW x) hlt.1
  have hL := lowered_any (shortW x) 18 hlt.1 hlt.2.1 hlt.2.2 (by omega)
  generalize shortW x = y at *
  by_cases h18 : 18 < y.e
  · rw [if_pos h18]
    cases hlow : lowW y 18 with
    | none =>
      rw [hlow] at hL
      simp only [pairV, wv] at hL
      clear hS
      have hS : ∀ w, Calls Tryz.prog 126 #[.agg #[.bool false, .int .u64 0, .int .u64 0, .int .i64 0]] w fun r w' => r = .returned (.tuple #[.int .i64 0, .bool true]) ∧ Below w.heap.size w w' := fun w =>
        (signed_any false 0 0 0 w).mono (by rintro r w' ⟨rfl, hB⟩; exact ⟨rfl, hB⟩)
      simp only [Wd.val_eq] at h1 hL ⊢
      unfold Wd.cells at h1 hL ⊢
      obtain ⟨xn, x', xe⟩ := x
      obtain ⟨zn, z', ze⟩ := y
      simp only at *
      obtain ⟨xh, hxh⟩ : ∃ q, x' / 18446744073709551616 = q := ⟨_, rfl⟩
      obtain ⟨xl, hxl⟩ : ∃ q, x' % 18446744073709551616 = q := ⟨_, rfl⟩
      obtain ⟨zh, hzh⟩ : ∃ q, z' / 18446744073709551616 = q := ⟨_, rfl⟩
      obtain ⟨zl, hzl⟩ : ∃ q, z' % 18446744073709551616 = q := ⟨_, rfl⟩
      rw [hxh, hxl] at h1 ⊢
      rw [hzh, hzl] at h1 hL
      unfold decV dv
      simp only
      clear hxh hxl hzh hzl h he he0 hlt hlow
      have hne : w.heap.size + 1 ≠ w.heap.size := by omega
      go_enter Tryz.func108, Tryz.ntmps108
      go_wp2_with fail
      refine (h1 _).mono ?_
      rintro _ w1 ⟨rfl, hB1⟩
      obtain ⟨hA0, hZ0, hB0⟩ := two_rows w w1 _ _ _ _ hB1
      obtain ⟨a0, a1, a2, a3⟩ := hA0.four
      have z0 := hA0.frozen
      have hA := hA0.set4 (.bool zn) (.int .u64 (zh : Int)) (.int .u64 (zl : Int)) (.int .i64 ze)
      have hZ := (((hZ0.off 0 (.bool zn) hne).off 1 (.int .u64 (zh : Int)) hne).off 2 (.int .u64 (zl : Int)) hne).off 3 (.int .i64 ze) hne
      have hB := below_set (below_set (below_set (below_set hB0 0 (.bool zn) (Nat.le_refl _)) 1 (.int .u64 (zh : Int)) (Nat.le_refl _)) 2 (.int .u64 (zl : Int)) (Nat.le_refl _)) 3 (.int .i64 ze) (Nat.le_refl _)
      clear h1 hB1
      go_wp2_with fail
      refine (hL _).mono ?_
      rintro _ w3 ⟨rfl, hB3⟩
      have hA3 := hA.below hB3 hA.lt
      have hZ3 := hZ.below hB3 hZ.lt
      have hB3' := hB.trans (hB3.mono (by have := hZ.lt; omega))
      obtain ⟨b0, b1, b2, b3⟩ := hA3.four
      have z3 := hA3.frozen
      clear hA0 hZ0 hB0 a0 a1 a2 a3 z0 hA hZ hB hB3 hL
      have hA := hA3.set4 (.bool false) (.int .u64 0) (.int .u64 0) (.int .i64 0)
      have hZ := (((hZ3.off 0 (.bool false) hne).off 1 (.int .u64 0) hne).off 2 (.int .u64 0) hne).off 3 (.int .i64 0) hne
      have hB := below_set (below_set (below_set (below_set hB3' 0 (.bool false) (Nat.le_refl _)) 1 (.int .u64 0) (Nat.le_refl _)) 2 (.int .u64 0) (Nat.le_refl _)) 3 (.int .i64 0) (Nat.le_refl _)
      go_wp2_with fail
      refine (hS _).mono ?_
      rintro _ w9 ⟨rfl, hB9⟩
      have hA9 := hA.below hB9 hA.lt
      have hZ9 := hZ.below hB9 hZ.lt
      have hBB := hB.trans (hB9.mono (by have := hZ.lt; omega))
      obtain ⟨g0, g1, g2, g3⟩ := hA9.four
      obtain ⟨y0, y1⟩ := hZ9.duo
      have z9 := hZ9.frozen
      clear hA hZ hS hB9
      go_wp2
      refine bodyPost_ret (ret_two rfl (g := w.heap.size + 1) rfl rfl (load23 (Row.set2 hZ9 _ _) rfl)) rfl ⟨by first | rfl | (rw [HF.out]; rfl), ?_⟩
      repeat (refine below_set ?_ _ _ (by omega))
      exact hBB
    | some z2 =>
      rw [hlow] at hL
      have hS2 := signed_W z2 (by
        unfold lowW at hlow
        rw [if_neg (by omega)] at hlow
        split at hlow
        · cases hlow; assumption
        · cases hlow)
      have hz2 : z2.e = 18 := by
        unfold lowW at hlow
        rw [if_neg (by omega)] at hlow
        split at hlow
        · cases hlow; rfl
        · cases hlow
      have HEN : Hid (endV z2 = if z2.n ≤ 9223372036854775807 + z2.neg.toNat then some (sc z2, 18) else none) := by
        show _ = _
        unfold endV
        rw [hz2]
        by_cases hc : z2.n ≤ 9223372036854775807 + z2.neg.toNat
        · rw [if_pos hc, if_pos ⟨hc, by omega, by omega⟩]
        · rw [if_neg hc, if_neg (fun hx => hc hx.1)]
      simp only
      rw [HEN.out]
      simp only [pairV] at hL
      clear hS HEN
      generalize sc z2 = cc at *
      simp only [Wd.val_eq] at h1 hL hS2 ⊢
      unfold Wd.cells at h1 hL hS2 ⊢
      obtain ⟨xn, x', xe⟩ := x
      obtain ⟨zn, z', ze⟩ := y
      obtain ⟨tn, t', te⟩ := z2
      simp only at *
      subst hz2
      obtain ⟨xh, hxh⟩ : ∃ q, x' / 18446744073709551616 = q := ⟨_, rfl⟩
      obtain ⟨xl, hxl⟩ : ∃ q, x' % 18446744073709551616 = q := ⟨_, rfl⟩
      obtain ⟨zh, hzh⟩ : ∃ q, z' / 18446744073709551616 = q := ⟨_, rfl⟩
      obtain ⟨zl, hzl⟩ : ∃ q, z' % 18446744073709551616 = q := ⟨_, rfl⟩
      rw [hxh, hxl] at h1 ⊢
      rw [hzh, hzl] at h1 hL
      obtain ⟨th, hth⟩ : ∃ q, t' / 18446744073709551616 = q := ⟨_, rfl⟩
      obtain ⟨tl, htl⟩ : ∃ q, t' % 18446744073709551616 = q := ⟨_, rfl⟩
      rw [hth, htl] at hL hS2
      unfold decV dv
      have HIN : Hid (decide ((-18 : Int) ≤ 18 ∧ (18 : Int) ≤ 18) = true) := by show _ = _; decide
      have hne : w.heap.size + 1 ≠ w.heap.size := by omega
      clear hxh hxl hzh hzl h he he0 hlt hlow hth htl
      by_cases hc : t' ≤ 9223372036854775807 + tn.toNat
      · simp only [if_pos hc] at hS2 ⊢
        have hS := hS2
        clear hc hS2
        go_enter Tryz.func108, Tryz.ntmps108
        go_wp2_with fail
        refine (h1 _).mono ?_
        rintro _ w1 ⟨rfl, hB1⟩
        obtain ⟨hA0, hZ0, hB0⟩ := two_rows w w1 _ _ _ _ hB1
        obtain ⟨a0, a1, a2, a3⟩ := hA0.four
        have z0 := hA0.frozen
        have hA := hA0.set4 (.bool zn) (.int .u64 (zh : Int)) (.int .u64 (zl : Int)) (.int .i64 ze)
        have hZ := (((hZ0.off 0 (.bool zn) hne).off 1 (.int .u64 (zh : Int)) hne).off 2 (.int .u64 (zl : Int)) hne).off 3 (.int .i64 ze) hne
        have hB := below_set (below_set (below_set (below_set hB0 0 (.bool zn) (Nat.le_refl _)) 1 (.int .u64 (zh : Int)) (Nat.le_refl _)) 2 (.int .u64 (zl : Int)) (Nat.le_refl _)) 3 (.int .i64 ze) (Nat.le_refl _)
        clear h1 hB1
        go_wp2_with fail
        refine (hL _).mono ?_
        rintro _ w3 ⟨rfl, hB3⟩
        have hA3 := hA.below hB3 hA.lt
        have hZ3 := hZ.below hB3 hZ.lt
        have hB3' := hB.trans (hB3.mono (by have := hZ.lt; omega))
        obtain ⟨b0, b1, b2, b3⟩ := hA3.four
        have z3 := hA3.frozen
        clear hA0 hZ0 hB0 a0 a1 a2 a3 z0 hA hZ hB hB3 hL
        have hA := hA3.set4 (.bool tn) (.int .u64 (th : Int)) (.int .u64 (tl : Int)) (.int .i64 18)
        have hZ := (((hZ3.off 0 (.bool tn) hne).off 1 (.int .u64 (th : Int)) hne).off 2 (.int .u64 (tl : Int)) hne).off 3 (.int .i64 18) hne
        have hB := below_set (below_set (below_set (below_set hB3' 0 (.bool tn) (Nat.le_refl _)) 1 (.int .u64 (th : Int)) (Nat.le_refl _)) 2 (.int .u64 (tl : Int)) (Nat.le_refl _)) 3 (.int .i64 18) (Nat.le_refl _)
        go_wp2_with fail
        refine (hS _).mono ?_
        rintro _ w9 ⟨rfl, hB9⟩
        have hA9 := hA.below hB9 hA.lt
        have hZ9 := hZ.below hB9 hZ.lt
        have hBB := hB.trans (hB9.mono (by have := hZ.lt; omega))
        obtain ⟨g0, g1, g2, g3⟩ := hA9.four
        obtain ⟨y0, y1⟩ := hZ9.duo
        have z9 := hZ9.frozen
        clear hA hZ hS hB9
        go_wp2_with (go_at_call 74; refine (within_any _ _).mono ?_; rintro _ w10 ⟨rfl, hw10⟩; subst hw10; rw [HIN.out])
        refine bodyPost_ret (ret_two rfl (g := w.heap.size + 1) rfl rfl (load23 (Row.set2 hZ9 _ _) rfl)) rfl ⟨by first | rfl | (rw [HF.out]; rfl), ?_⟩
        repeat (refine below_set ?_ _ _ (by omega))
        exact hBB
      · simp only [if_neg hc] at hS2 ⊢
        have hS := hS2
        clear hc hS2
        go_enter Tryz.func108, Tryz.ntmps108
        go_wp2_with fail
        refine (h1 _).mono ?_
        rintro _ w1 ⟨rfl, hB1⟩
        obtain ⟨hA0, hZ0, hB0⟩ := two_rows w w1 _ _ _ _ hB1
        obtain ⟨a0, a1, a2, a3⟩ := hA0.four
        have z0 := hA0.frozen
        have hA := hA0.set4 (.bool zn) (.int .u64 (zh : Int)) (.int .u64 (zl : Int)) (.int .i64 ze)
        have hZ := (((hZ0.off 0 (.bool zn) hne).off 1 (.int .u64 (zh : Int)) hne).off 2 (.int .u64 (zl : Int)) hne).off 3 (.int .i64 ze) hne
        have hB := below_set (below_set (below_set (below_set hB0 0 (.bool zn) (Nat.le_refl _)) 1 (.int .u64 (zh : Int)) (Nat.le_refl _)) 2 (.int .u64 (zl : Int)) (Nat.le_refl _)) 3 (.int .i64 ze) (Nat.le_refl _)
        clear h1 hB1
        go_wp2_with fail
        refine (hL _).mono ?_
        rintro _ w3 ⟨rfl, hB3⟩
        have hA3 := hA.below hB3 hA.lt
        have hZ3 := hZ.below hB3 hZ.lt
        have hB3' := hB.trans (hB3.mono (by have := hZ.lt; omega))
        obtain ⟨b0, b1, b2, b3⟩ := hA3.four
        have z3 := hA3.frozen
        clear hA0 hZ0 hB0 a0 a1 a2 a3 z0 hA hZ hB hB3 hL
        have hA := hA3.set4 (.bool tn) (.int .u64 (th : Int)) (.int .u64 (tl : Int)) (.int .i64 18)
        have hZ := (((hZ3.off 0 (.bool tn) hne).off 1 (.int .u64 (th : Int)) hne).off 2 (.int .u64 (tl : Int)) hne).off 3 (.int .i64 18) hne
        have hB := below_set (below_set (below_set (below_set hB3' 0 (.bool tn) (Nat.le_refl _)) 1 (.int .u64 (th : Int)) (Nat.le_refl _)) 2 (.int .u64 (tl : Int)) (Nat.le_refl _)) 3 (.int .i64 18) (Nat.le_refl _)
        go_wp2_with fail
        refine (hS _).mono ?_
        rintro _ w9 ⟨rfl, hB9⟩
        have hA9 := hA.below hB9 hA.lt
        have hZ9 := hZ.below hB9 hZ.lt
        have hBB := hB.trans (hB9.mono (by have := hZ.lt; omega))
        obtain ⟨g0, g1, g2, g3⟩ := hA9.four
        obtain ⟨y0, y1⟩ := hZ9.duo
        have z9 := hZ9.frozen
        clear hA hZ hS hB9
        go_wp2
        refine bodyPost_ret (ret_two rfl (g := w.heap.size + 1) rfl rfl (load23 (Row.set2 hZ9 _ _) rfl)) rfl ⟨by first | rfl | (rw [HF.out]; rfl), ?_⟩
        repeat (refine below_set ?_ _ _ (by omega))
        exact hBB
  · rw [if_neg h18]
    clear hL
    unfold endV
    have hEE : (y.n ≤ 9223372036854775807 + y.neg.toNat ∧ -18 ≤ y.e ∧ y.e ≤ 18) ↔ (y.n ≤ 9223372036854775807 + y.neg.toNat ∧ -18 ≤ y.e) := by omega
    simp only [hEE]
    clear hEE
    generalize sc y = cc at *
    simp only [Wd.val_eq] at h1 hS ⊢
    unfold Wd.cells at h1 hS ⊢
    obtain ⟨xn, x', xe⟩ := x
    obtain ⟨zn, z', ze⟩ := y
    simp only at *
    obtain ⟨xh, hxh⟩ : ∃ q, x' / 18446744073709551616 = q := ⟨_, rfl⟩
    obtain ⟨xl, hxl⟩ : ∃ q, x' % 18446744073709551616 = q := ⟨_, rfl⟩
    obtain ⟨zh, hzh⟩ : ∃ q, z' / 18446744073709551616 = q := ⟨_, rfl⟩
    obtain ⟨zl, hzl⟩ : ∃ q, z' % 18446744073709551616 = q := ⟨_, rfl⟩
    rw [hxh, hxl] at h1 ⊢
    rw [hzh, hzl] at h1 hS
    unfold decV dv
    have hne : w.heap.size + 1 ≠ w.heap.size := by omega
    clear hxh hxl hzh hzl h he he0 hlt
    by_cases hc : z' ≤ 9223372036854775807 + zn.toNat
    · simp only [if_pos hc] at hS
      by_cases hl : -18 ≤ ze
      · have HIN : Hid (decide (-18 ≤ ze ∧ ze ≤ 18) = true) := decide_eq_true (by omega)
        simp only [if_pos (show z' ≤ 9223372036854775807 + zn.toNat ∧ -18 ≤ ze from ⟨hc, hl⟩)]
        clear hc hl
        go_enter Tryz.func108, Tryz.ntmps108
        go_wp2_with fail
        refine (h1 _).mono ?_
        rintro _ w1 ⟨rfl, hB1⟩
        obtain ⟨hA0, hZ0, hB0⟩ := two_rows w w1 _ _ _ _ hB1
        obtain ⟨a0, a1, a2, a3⟩ := hA0.four
        have z0 := hA0.frozen
        have hA := hA0.set4 (.bool zn) (.int .u64 (zh : Int)) (.int .u64 (zl : Int)) (.int .i64 ze)
        have hZ := (((hZ0.off 0 (.bool zn) hne).off 1 (.int .u64 (zh : Int)) hne).off 2 (.int .u64 (zl : Int)) hne).off 3 (.int .i64 ze) hne
        have hB := below_set (below_set (below_set (below_set hB0 0 (.bool zn) (Nat.le_refl _)) 1 (.int .u64 (zh : Int)) (Nat.le_refl _)) 2 (.int .u64 (zl : Int)) (Nat.le_refl _)) 3 (.int .i64 ze) (Nat.le_refl _)
        clear h1 hB1
        go_wp2_with fail
        refine (hS _).mono ?_
        rintro _ w9 ⟨rfl, hB9⟩
        have hA9 := hA.below hB9 hA.lt
        have hZ9 := hZ.below hB9 hZ.lt
        have hBB := hB.trans (hB9.mono (by have := hZ.lt; omega))
        obtain ⟨g0, g1, g2, g3⟩ := hA9.four
        obtain ⟨y0, y1⟩ := hZ9.duo
        have z9 := hZ9.frozen
        clear hA hZ hS hB9
        go_wp2_with (go_at_call 74; refine (within_any _ _).mono ?_; rintro _ w10 ⟨rfl, hw10⟩; subst hw10; rw [HIN.out])
        refine bodyPost_ret (ret_two rfl (g := w.heap.size + 1) rfl rfl (load23 (Row.set2 hZ9 _ _) rfl)) rfl ⟨by first | rfl | (rw [HF.out]; rfl), ?_⟩
        repeat (refine below_set ?_ _ _ (by omega))
        exact hBB
      · have HIN : Hid (decide (-18 ≤ ze ∧ ze ≤ 18) = false) := decide_eq_false (by omega)
        simp only [if_neg (show ¬ (z' ≤ 9223372036854775807 + zn.toNat ∧ -18 ≤ ze) from fun hx => hl hx.2)]
        clear hc hl
        go_enter Tryz.func108, Tryz.ntmps108
        go_wp2_with fail
        refine (h1 _).mono ?_
        rintro _ w1 ⟨rfl, hB1⟩
        obtain ⟨hA0, hZ0, hB0⟩ := two_rows w w1 _ _ _ _ hB1
        obtain ⟨a0, a1, a2, a3⟩ := hA0.four
        have z0 := hA0.frozen
        have hA := hA0.set4 (.bool zn) (.int .u64 (zh : Int)) (.int .u64 (zl : Int)) (.int .i64 ze)
        have hZ := (((hZ0.off 0 (.bool zn) hne).off 1 (.int .u64 (zh : Int)) hne).off 2 (.int .u64 (zl : Int)) hne).off 3 (.int .i64 ze) hne
        have hB := below_set (below_set (below_set (below_set hB0 0 (.bool zn) (Nat.le_refl _)) 1 (.int .u64 (zh : Int)) (Nat.le_refl _)) 2 (.int .u64 (zl : Int)) (Nat.le_refl _)) 3 (.int .i64 ze) (Nat.le_refl _)
        clear h1 hB1
        go_wp2_with fail
        refine (hS _).mono ?_
        rintro _ w9 ⟨rfl, hB9⟩
        have hA9 := hA.below hB9 hA.lt
        have hZ9 := hZ.below hB9 hZ.lt
        have hBB := hB.trans (hB9.mono (by have := hZ.lt; omega))
        obtain ⟨g0, g1, g2, g3⟩ := hA9.four
        obtain ⟨y0, y1⟩ := hZ9.duo
        have z9 := hZ9.frozen
        clear hA hZ hS hB9
        go_wp2_with (go_at_call 74; refine (within_any _ _).mono ?_; rintro _ w10 ⟨rfl, hw10⟩; subst hw10; rw [HIN.out])
        refine bodyPost_ret (ret_two rfl (g := w.heap.size + 1) rfl rfl (load23 (Row.set2 hZ9 _ _) rfl)) rfl ⟨by first | rfl | (rw [HF.out]; rfl), ?_⟩
        repeat (refine below_set ?_ _ _ (by omega))
        exact hBB
    · simp only [if_neg hc] at hS
      simp only [if_neg (show ¬ (z' ≤ 9223372036854775807 + zn.toNat ∧ -18 ≤ ze) from fun hx => hc hx.1)]
      clear hc
      go_enter Tryz.func108, Tryz.ntmps108
      go_wp2_with fail
      refine (h1 _).mono ?_
      rintro _ w1 ⟨rfl, hB1⟩
      obtain ⟨hA0, hZ0, hB0⟩ := two_rows w w1 _ _ _ _ hB1
      obtain ⟨a0, a1, a2, a3⟩ := hA0.four
      have z0 := hA0.frozen
      have hA := hA0.set4 (.bool zn) (.int .u64 (zh : Int)) (.int .u64 (zl : Int)) (.int .i64 ze)
      have hZ := (((hZ0.off 0 (.bool zn) hne).off 1 (.int .u64 (zh : Int)) hne).off 2 (.int .u64 (zl : Int)) hne).off 3 (.int .i64 ze) hne
      have hB := below_set (below_set (below_set (below_set hB0 0 (.bool zn) (Nat.le_refl _)) 1 (.int .u64 (zh : Int)) (Nat.le_refl _)) 2 (.int .u64 (zl : Int)) (Nat.le_refl _)) 3 (.int .i64 ze) (Nat.le_refl _)
      clear h1 hB1
      go_wp2_with fail
      refine (hS _).mono ?_
      rintro _ w9 ⟨rfl, hB9⟩
      have hA9 := hA.below hB9 hA.lt
      have hZ9 := hZ.below hB9 hZ.lt
      have hBB := hB.trans (hB9.mono (by have := hZ.lt; omega))
      obtain ⟨g0, g1, g2, g3⟩ := hA9.four
      obtain ⟨y0, y1⟩ := hZ9.duo
      have z9 := hZ9.frozen
      clear hA hZ hS hB9
      go_wp2
      refine bodyPost_ret (ret_two rfl (g := w.heap.size + 1) rfl rfl (load23 (Row.set2 hZ9 _ _) rfl)) rfl ⟨by first | rfl | (rw [HF.out]; rfl), ?_⟩
      repeat (refine below_set ?_ _ _ (by omega))
      exact hBB
theorem told_any (x : Wd) (b : Bool) (h : x.n < M128) (he : x.e ≤ 9223372036854775807) (he0 : -9223372036854775808 ≤ x.e) (w : World) :
    Calls Tryz.prog 108 #[x.val, .bool b] w fun r w' => r = .returned (decV (if b then tellW x.neg x.n x.e else none)) ∧ Below w.heap.size w w' := by
  cases b
  · exact told_false x h he he0 w
  · exact told_true x h he he0 w
end Go.Proofs.YtoncpcdepemlcaaGreatDoor
/- taken: Decs as numbers in their short form. -/
namespace Go.Proofs.YtoncpcdepemlcaaGreatDoor
open Go.RowKit

theorem wpList_append_eq {P : Program} {w : World} {ops : Array Oper} {rest : List Oper} {o : Oper} {a : Act} {Q : Exit → Act → World → Prop} (hgd : o.guard = none) (s x : Operand) (t : TypeId)
    (ho : o.op = .call { callee := .builtin .append, args := #[s, x], argTypes := #[t, t] }) (v u v' : Value) (w' : World) (hs : a.eval s = v) (hx : a.eval x = u)
    (hr : (Builtin.append_ #[t, t] o.type #[v, u]).run P w = .ok v' w') (h : wpList P ops Q rest (a.put o.dst v') w') : wpList P ops Q (o :: rest) a w := by
  refine wpList_plain hgd fun K hK => ?_
  unfold Oper.wp execOp
  simp only [ho, resolve, invoke, builtin, Sem.run_bind, Sem.run_pure, Result.andThen_ok, List.map_toArray, List.map_cons, List.map_nil, hs, hx, hr]
  exact hK _ _ h
theorem Tryz.info57 : (Tryz.prog.info? 125).map (fun i => (i.zero, i.size, i.bytes)) = some (some (.agg #[.bool false, .int .u64 0, .int .u64 0, .int .i64 0]), 4, 32) := by kernel_rfl
theorem make57 (n : Nat) (hn : n ≤ 1000) (w : World) : (Instr.makeSlice 120 (.int .i64 0) (.int .i64 (n : Int))).run Tryz.prog w = .ok (.slice (some ⟨w.heap.size, 0, none⟩) 0 n) (w.alloc (.cells (madeCells #[.bool false, .int .u64 0, .int .u64 0, .int .i64 0] (n * 4)) 125)) := by
  obtain ⟨i0, hi, hzz⟩ := Option.map_eq_some_iff.1 Tryz.info57
  simp only [Prod.mk.injEq] at hzz
  obtain ⟨hz0, hz1, hz2⟩ := hzz
  have := run_makeSlice (P := Tryz.prog) w 120 125 i0 _ Tryz.underlying120 hi hz0 .i64 .i64 0 (n : Int) (by omega) (by omega) (by rw [hz1]; simp; omega) (by rw [hz2]; omega) (by omega)
  rw [hz1] at this
  simpa [Value.cells] using this
theorem app57 (W : World) (G N k : Nat) (cur : Array Value) (hR : Row W G 125 cur) (A c : Nat) (x0 x1 x2 x3 : Value) (hA : Row W A 125 #[x0, x1, x2, x3]) (h1 : ∀ u ∈ [x0, x1, x2, x3], u.oneCell' = true) (hk : k + 1 ≤ N) (hs : k * 4 + 4 ≤ cur.size) :
    (Builtin.append_ #[120, 120] 120 #[.slice (some ⟨G, 0, none⟩) k N, .slice (some ⟨A, 0, none⟩) 1 c]).run Tryz.prog W = .ok (.slice (some ⟨G, 0, none⟩) (k + 1) N) (W.setRow G (cur.toList.take (k * 4) ++ [x0, x1, x2, x3] ++ cur.toList.drop (k * 4 + 4)).toArray) := by
  obtain ⟨i0, hi, hzz⟩ := Option.map_eq_some_iff.1 Tryz.info57
  simp only [Prod.mk.injEq] at hzz
  obtain ⟨hz0, hz1, hz2⟩ := hzz
  have h := run_append_room (P := Tryz.prog) W 120 120 125 i0 Tryz.underlying120 hi G k N cur hR ⟨A, 0, none⟩ 1 c [x0, x1, x2, x3] (by rw [hz1]; rfl)
    (by
      obtain ⟨a0, a1, a2, a3⟩ := hA.four
      intro j u hj
      match j, hj with
      | 0, hj => simp at hj; subst hj; simpa [Addr.add] using a0
      | 1, hj => simp at hj; subst hj; simpa [Addr.add] using a1
      | 2, hj => simp at hj; subst hj; simpa [Addr.add] using a2
      | 3, hj => simp at hj; subst hj; simpa [Addr.add] using a3
      | j + 4, hj => simp at hj)
    h1 hk (by rw [hz1]; simpa using hs)
  rw [hz1] at h
  exact h
theorem number_W (c e : Int) (h1 : -9223372036854775808 ≤ c) (h2 : c ≤ 9223372036854775807) (w : World) : Calls Tryz.prog 105 #[.int .i64 c, .int .i64 e] w fun r w' => r = .returned (numW c e).val ∧ Below w.heap.size w w' := by
  refine (number_any c e h1 h2 w).mono ?_
  rintro r w' ⟨rfl, hB⟩
  refine ⟨?_, hB⟩
  unfold numW Wd.val
  simp only
  rw [show c.natAbs / 18446744073709551616 = 0 by omega, show c.natAbs % 18446744073709551616 = c.natAbs by omega]
def within (e : Int) : Prop := -18 ≤ e ∧ e ≤ 18
def I64 (c : Int) : Prop := -9223372036854775808 ≤ c ∧ c ≤ 9223372036854775807

set_option maxRecDepth 100000 in
set_option maxHeartbeats 1000000 in
theorem taken1 (c e : Int) (K : Nat) (w : World) (hc : I64 c) (he : within e) (hK : Row w K 38 #[.int .i64 c, .int .i64 e]) :
    Calls Tryz.prog 79 #[.slice (some ⟨K, 0, none⟩) 1 1] w fun r w' => Below w.heap.size w w' ∧ ∃ G, w.heap.size ≤ G ∧ r = .returned (.tuple #[.slice (some ⟨G, 0, none⟩) 1 1, .int .i64 0]) ∧ Row w' G 125 (decW c e).cells := by
  obtain ⟨k0, k1⟩ := hK.duo
  have mk := make57 1 (by omega)
  have hN := number_W c e hc.1 hc.2
  have hS := short_any (numW c e) (by unfold numW M128; have := hc.1; have := hc.2; simp only; omega) (by have := he.2; unfold numW; simp only; omega) (by have := he.1; unfold numW; simp only; omega)
  rw [show shortW (numW c e) = decW c e from rfl] at hS
  generalize decW c e = y at *
  obtain ⟨y0, y1, y2, y3, hy, hy1⟩ : ∃ y0 y1 y2 y3, y.cells = #[y0, y1, y2, y3] ∧ ∀ u ∈ [y0, y1, y2, y3], u.oneCell' = true := ⟨_, _, _, _, rfl, by simp [Value.oneCell']⟩
  simp only [Wd.val_eq] at hN hS
  rw [hy] at hS ⊢
  have HI : Hid (decide (-18 ≤ e ∧ e ≤ 18) = true) := decide_eq_true he
  have hKlt := hK.lt
  go_enter Tryz.func79, Tryz.ntmps79
  go_wp2_with fail
  rw [show (1 : Int) = ((1 : Nat) : Int) from rfl, mk]
  rw [show madeCells #[.bool false, .int .u64 0, .int .u64 0, .int .i64 0] (1 * 4) = #[.bool false, .int .u64 0, .int .u64 0, .int .i64 0] by kernel_rfl]
  go_wp2_with fail
  refine wp_loop_rounds 2 ?_
  rw [rounds_succ]
  go_wp2_with (go_at_call 74; refine (within_any _ _).mono ?_; rintro _ w10 ⟨rfl, hw10⟩; subst hw10; rw [HI.out])
  refine (hN _).mono ?_
  rintro _ wa ⟨rfl, ha⟩
  obtain ⟨hG, _, hB⟩ := two_rows w wa _ _ _ _ ha
  clear ha
  go_wp2_with fail
  refine (hS _).mono ?_
  rintro _ wb ⟨rfl, hb⟩
  have hG := hG.below hb hG.lt
  have hB := hB.trans (hb.mono hB.size)
  clear hb
  have hA := Row.new wb 125 #[y0, y1, y2, y3]
  have hG2 := hG.alloc (.cells #[y0, y1, y2, y3] 125)
  have HAP := app57 _ w.heap.size 1 0 _ hG2 wb.heap.size 1 y0 y1 y2 y3 hA hy1 (by omega) (by simp)
  have HAP : Hid ((Builtin.append_ #[120, 120] 120 #[.slice (some ⟨w.heap.size, 0, none⟩) 0 1, .slice (some ⟨wb.heap.size, 0, none⟩) 1 1]).run Tryz.prog (wb.alloc (.cells #[y0, y1, y2, y3] 125)) = .ok (.slice (some ⟨w.heap.size, 0, none⟩) 1 1) ((wb.alloc (.cells #[y0, y1, y2, y3] 125)).setRow w.heap.size #[y0, y1, y2, y3])) := HAP
  have hGlt := hG.lt
  have hR := hG2.setRow #[y0, y1, y2, y3]
  have hBR := below_setRow (hB.alloc (by omega) (.cells #[y0, y1, y2, y3] 125)) (Nat.le_refl w.heap.size) #[y0, y1, y2, y3]
  obtain ⟨W3, hW3⟩ : ∃ W3, (wb.alloc (.cells #[y0, y1, y2, y3] 125)).setRow w.heap.size #[y0, y1, y2, y3] = W3 := ⟨_, rfl⟩
  rw [hW3] at HAP hR hBR
  clear hW3 hN hS mk
  go_wp2_with (at_builtin; refine wpList_append_eq rfl (.tmp 20) (.tmp 27) 120 rfl _ _ _ _ rfl rfl HAP.out ?_)
  rw [rounds_succ]
  go_wp2
  exact bodyPost_ret (results_tmp2 rfl _ _ _) rfl ⟨hBR, w.heap.size, Nat.le_refl _, rfl, hR⟩
set_option maxRecDepth 100000 in
set_option maxHeartbeats 400000 in
theorem taken1_bad (c e : Int) (K : Nat) (w : World) (he : ¬ within e) (hK : Row w K 38 #[.int .i64 c, .int .i64 e]) :
    Calls Tryz.prog 79 #[.slice (some ⟨K, 0, none⟩) 1 1] w fun r w' => Below w.heap.size w w' ∧ r = .returned (.tuple #[.slice none 0 0, .int .i64 1]) := by
  obtain ⟨k0, k1⟩ := hK.duo
  have mk := make57 1 (by omega)
  have HI : Hid (decide (-18 ≤ e ∧ e ≤ 18) = false) := decide_eq_false he
  have hKlt := hK.lt
  clear he
  go_enter Tryz.func79, Tryz.ntmps79
  go_wp2_with fail
  rw [show (1 : Int) = ((1 : Nat) : Int) from rfl, mk]
  rw [show madeCells #[.bool false, .int .u64 0, .int .u64 0, .int .i64 0] (1 * 4) = #[.bool false, .int .u64 0, .int .u64 0, .int .i64 0] by kernel_rfl]
  go_wp2_with fail
  refine wp_loop_rounds 2 ?_
  rw [rounds_succ]
  go_wp2_with (go_at_call 74; refine (within_any _ _).mono ?_; rintro _ w10 ⟨rfl, hw10⟩; subst hw10; rw [HI.out])
  exact bodyPost_ret (results_tmp2 rfl _ _ _) rfl ⟨((Below.refl _ w).alloc (Nat.le_refl _) _).alloc (by simp) _, rfl⟩
end Go.Proofs.YtoncpcdepemlcaaGreatDoor
/- taken: two Decs as numbers in their short form. -/
namespace Go.Proofs.YtoncpcdepemlcaaGreatDoor
open Go.RowKit

set_option maxRecDepth 100000 in
set_option maxHeartbeats 1000000 in
theorem taken2 (c e c2 e2 : Int) (K : Nat) (w : World) (hc : I64 c) (he : within e) (hc2 : I64 c2) (he2 : within e2) (hK : Row w K 38 #[.int .i64 c, .int .i64 e, .int .i64 c2, .int .i64 e2]) :
    Calls Tryz.prog 79 #[.slice (some ⟨K, 0, none⟩) 2 2] w fun r w' => Below w.heap.size w w' ∧ ∃ G, w.heap.size ≤ G ∧ r = .returned (.tuple #[.slice (some ⟨G, 0, none⟩) 2 2, .int .i64 0]) ∧ Row w' G 125 ((decW c e).cells ++ (decW c2 e2).cells) := by
  obtain ⟨k0, k1, k2, k3⟩ := hK.four
  have mk := make57 2 (by omega)
  have hKlt := hK.lt
  have hN := number_W c e hc.1 hc.2
  have hS := short_any (numW c e) (by unfold numW M128; have := hc.1; have := hc.2; simp only; omega) (by have := he.2; unfold numW; simp only; omega) (by have := he.1; unfold numW; simp only; omega)
  rw [show shortW (numW c e) = decW c e from rfl] at hS
  generalize decW c e = y at *
  obtain ⟨y0, y1, y2, y3, hy, hy1⟩ : ∃ y0 y1 y2 y3, y.cells = #[y0, y1, y2, y3] ∧ ∀ u ∈ [y0, y1, y2, y3], u.oneCell' = true := ⟨_, _, _, _, rfl, by simp [Value.oneCell']⟩
  simp only [Wd.val_eq] at hN hS
  rw [hy] at hS
  have HI : Hid (decide (-18 ≤ e ∧ e ≤ 18) = true) := decide_eq_true he
  have hN2 := number_W c2 e2 hc2.1 hc2.2
  have hS2 := short_any (numW c2 e2) (by unfold numW M128; have := hc2.1; have := hc2.2; simp only; omega) (by have := he2.2; unfold numW; simp only; omega) (by have := he2.1; unfold numW; simp only; omega)
  rw [show shortW (numW c2 e2) = decW c2 e2 from rfl] at hS2
  generalize decW c2 e2 = z at *
  obtain ⟨z0, z1, z2, z3, hz, hz1⟩ : ∃ y0 y1 y2 y3, z.cells = #[y0, y1, y2, y3] ∧ ∀ u ∈ [y0, y1, y2, y3], u.oneCell' = true := ⟨_, _, _, _, rfl, by simp [Value.oneCell']⟩
  simp only [Wd.val_eq] at hN2 hS2
  rw [hz] at hS2
  have HI2 : Hid (decide (-18 ≤ e2 ∧ e2 ≤ 18) = true) := decide_eq_true he2
  go_enter Tryz.func79, Tryz.ntmps79
  go_wp2_with fail
  rw [show (2 : Int) = ((2 : Nat) : Int) from rfl, mk]
  rw [show madeCells #[.bool false, .int .u64 0, .int .u64 0, .int .i64 0] (2 * 4) = #[.bool false, .int .u64 0, .int .u64 0, .int .i64 0, .bool false, .int .u64 0, .int .u64 0, .int .i64 0] by kernel_rfl]
  go_wp2_with fail
  refine wp_loop_rounds 3 ?_
  rw [rounds_succ]
  go_wp2_with (go_at_call 74; refine (within_any _ _).mono ?_; rintro _ w10 ⟨rfl, hw10⟩; subst hw10; rw [HI.out])
  refine (hN _).mono ?_
  rintro _ wa ⟨rfl, ha⟩
  obtain ⟨hG, _, hB⟩ := two_rows w wa _ _ _ _ ha
  clear ha
  go_wp2_with fail
  refine (hS _).mono ?_
  rintro _ wb ⟨rfl, hb⟩
  have hG := hG.below hb hG.lt
  have hB := hB.trans (hb.mono hB.size)
  clear hb
  have hA := Row.new wb 125 #[y0, y1, y2, y3]
  have hG2 := hG.alloc (.cells #[y0, y1, y2, y3] 125)
  have HAP := app57 _ w.heap.size 2 0 _ hG2 wb.heap.size 1 y0 y1 y2 y3 hA hy1 (by omega) (by simp)
  have HAP : Hid ((Builtin.append_ #[120, 120] 120 #[.slice (some ⟨w.heap.size, 0, none⟩) 0 2, .slice (some ⟨wb.heap.size, 0, none⟩) 1 1]).run Tryz.prog (wb.alloc (.cells #[y0, y1, y2, y3] 125)) = .ok (.slice (some ⟨w.heap.size, 0, none⟩) 1 2) ((wb.alloc (.cells #[y0, y1, y2, y3] 125)).setRow w.heap.size #[y0, y1, y2, y3, .bool false, .int .u64 0, .int .u64 0, .int .i64 0])) := HAP
  have hGlt := hG.lt
  have hR := hG2.setRow #[y0, y1, y2, y3, .bool false, .int .u64 0, .int .u64 0, .int .i64 0]
  have hBR := below_setRow (hB.alloc (by omega) (.cells #[y0, y1, y2, y3] 125)) (Nat.le_refl w.heap.size) #[y0, y1, y2, y3, .bool false, .int .u64 0, .int .u64 0, .int .i64 0]
  obtain ⟨W3, hW3⟩ : ∃ W3, (wb.alloc (.cells #[y0, y1, y2, y3] 125)).setRow w.heap.size #[y0, y1, y2, y3, .bool false, .int .u64 0, .int .u64 0, .int .i64 0] = W3 := ⟨_, rfl⟩
  rw [hW3] at HAP hR hBR
  clear hW3 hN hS mk hG hG2 hB hA k0 k1 k2 k3
  obtain ⟨k0, k1, k2, k3⟩ := (hK.below hBR hKlt).four
  have hsz : w.heap.size < W3.heap.size := hR.lt
  go_wp2_with (at_builtin; refine wpList_append_eq rfl (.tmp 20) (.tmp 27) 120 rfl _ _ _ _ rfl rfl HAP.out ?_)
  clear HAP
  rw [rounds_succ]
  go_wp2_with (go_at_call 74; refine (within_any _ _).mono ?_; rintro _ w10 ⟨rfl, hw10⟩; subst hw10; rw [HI2.out])
  refine (hN2 _).mono ?_
  rintro _ wc ⟨rfl, hc⟩
  have hR := (hR.alloc (.cells #[.int .i64 c2, .int .i64 e2] 38)).below hc (by simp; omega)
  have hBR := (hBR.alloc (by omega) (.cells #[.int .i64 c2, .int .i64 e2] 38)).trans (hc.mono (by simp; omega))
  clear hc
  go_wp2_with fail
  refine (hS2 _).mono ?_
  rintro _ wd ⟨rfl, hd⟩
  have hR := hR.below hd hR.lt
  have hBR := hBR.trans (hd.mono hBR.size)
  clear hd
  have hA := Row.new wd 125 #[z0, z1, z2, z3]
  have hG2 := hR.alloc (.cells #[z0, z1, z2, z3] 125)
  have HAP := app57 _ w.heap.size 2 1 _ hG2 wd.heap.size 1 z0 z1 z2 z3 hA hz1 (by omega) (by simp)
  have HAP : Hid ((Builtin.append_ #[120, 120] 120 #[.slice (some ⟨w.heap.size, 0, none⟩) 1 2, .slice (some ⟨wd.heap.size, 0, none⟩) 1 1]).run Tryz.prog (wd.alloc (.cells #[z0, z1, z2, z3] 125)) = .ok (.slice (some ⟨w.heap.size, 0, none⟩) 2 2) ((wd.alloc (.cells #[z0, z1, z2, z3] 125)).setRow w.heap.size #[y0, y1, y2, y3, z0, z1, z2, z3])) := HAP
  have hRlt := hR.lt
  have hR9 := hG2.setRow #[y0, y1, y2, y3, z0, z1, z2, z3]
  have hB9 := below_setRow (hBR.alloc (by omega) (.cells #[z0, z1, z2, z3] 125)) (Nat.le_refl w.heap.size) #[y0, y1, y2, y3, z0, z1, z2, z3]
  obtain ⟨W4, hW4⟩ : ∃ W4, (wd.alloc (.cells #[z0, z1, z2, z3] 125)).setRow w.heap.size #[y0, y1, y2, y3, z0, z1, z2, z3] = W4 := ⟨_, rfl⟩
  rw [hW4] at HAP hR9 hB9
  clear hW4 hN2 hS2 hG2 hA
  go_wp2_with (at_builtin; refine wpList_append_eq rfl (.tmp 20) (.tmp 27) 120 rfl _ _ _ _ rfl rfl HAP.out ?_)
  clear HAP
  rw [rounds_succ]
  go_wp2
  exact bodyPost_ret (results_tmp2 rfl _ _ _) rfl ⟨hB9, w.heap.size, Nat.le_refl _, rfl, by rw [hy, hz]; exact hR9⟩
set_option maxRecDepth 100000 in
set_option maxHeartbeats 1000000 in
theorem taken2_bad1 (c e c2 e2 : Int) (K : Nat) (w : World) (he : ¬ within e) (hK : Row w K 38 #[.int .i64 c, .int .i64 e, .int .i64 c2, .int .i64 e2]) :
    Calls Tryz.prog 79 #[.slice (some ⟨K, 0, none⟩) 2 2] w fun r w' => Below w.heap.size w w' ∧ r = .returned (.tuple #[.slice none 0 0, .int .i64 1]) := by
  obtain ⟨k0, k1, k2, k3⟩ := hK.four
  have mk := make57 2 (by omega)
  have hKlt := hK.lt
  have HI : Hid (decide (-18 ≤ e ∧ e ≤ 18) = false) := decide_eq_false he
  clear he
  go_enter Tryz.func79, Tryz.ntmps79
  go_wp2_with fail
  rw [show (2 : Int) = ((2 : Nat) : Int) from rfl, mk]
  rw [show madeCells #[.bool false, .int .u64 0, .int .u64 0, .int .i64 0] (2 * 4) = #[.bool false, .int .u64 0, .int .u64 0, .int .i64 0, .bool false, .int .u64 0, .int .u64 0, .int .i64 0] by kernel_rfl]
  go_wp2_with fail
  refine wp_loop_rounds 3 ?_
  rw [rounds_succ]
  go_wp2_with (go_at_call 74; refine (within_any _ _).mono ?_; rintro _ w10 ⟨rfl, hw10⟩; subst hw10; rw [HI.out])
  exact bodyPost_ret (results_tmp2 rfl _ _ _) rfl ⟨((Below.refl _ w).alloc (Nat.le_refl _) _).alloc (by simp) _, rfl⟩
set_option maxRecDepth 100000 in
set_option maxHeartbeats 1000000 in
theorem taken2_bad2 (c e c2 e2 : Int) (K : Nat) (w : World) (hc : I64 c) (he : within e) (he2 : ¬ within e2) (hK : Row w K 38 #[.int .i64 c, .int .i64 e, .int .i64 c2, .int .i64 e2]) :
    Calls Tryz.prog 79 #[.slice (some ⟨K, 0, none⟩) 2 2] w fun r w' => Below w.heap.size w w' ∧ r = .returned (.tuple #[.slice none 0 0, .int .i64 1]) := by
  obtain ⟨k0, k1, k2, k3⟩ := hK.four
  have mk := make57 2 (by omega)
  have hKlt := hK.lt
  have hN := number_W c e hc.1 hc.2
  have hS := short_any (numW c e) (by unfold numW M128; have := hc.1; have := hc.2; simp only; omega) (by have := he.2; unfold numW; simp only; omega) (by have := he.1; unfold numW; simp only; omega)
  rw [show shortW (numW c e) = decW c e from rfl] at hS
  generalize decW c e = y at *
  obtain ⟨y0, y1, y2, y3, hy, hy1⟩ : ∃ y0 y1 y2 y3, y.cells = #[y0, y1, y2, y3] ∧ ∀ u ∈ [y0, y1, y2, y3], u.oneCell' = true := ⟨_, _, _, _, rfl, by simp [Value.oneCell']⟩
  simp only [Wd.val_eq] at hN hS
  rw [hy] at hS
  have HI : Hid (decide (-18 ≤ e ∧ e ≤ 18) = true) := decide_eq_true he
  have HI2 : Hid (decide (-18 ≤ e2 ∧ e2 ≤ 18) = false) := decide_eq_false he2
  clear he2 hy
  go_enter Tryz.func79, Tryz.ntmps79
  go_wp2_with fail
  rw [show (2 : Int) = ((2 : Nat) : Int) from rfl, mk]
  rw [show madeCells #[.bool false, .int .u64 0, .int .u64 0, .int .i64 0] (2 * 4) = #[.bool false, .int .u64 0, .int .u64 0, .int .i64 0, .bool false, .int .u64 0, .int .u64 0, .int .i64 0] by kernel_rfl]
  go_wp2_with fail
  refine wp_loop_rounds 3 ?_
  rw [rounds_succ]
  go_wp2_with (go_at_call 74; refine (within_any _ _).mono ?_; rintro _ w10 ⟨rfl, hw10⟩; subst hw10; rw [HI.out])
  refine (hN _).mono ?_
  rintro _ wa ⟨rfl, ha⟩
  obtain ⟨hG, _, hB⟩ := two_rows w wa _ _ _ _ ha
  clear ha
  go_wp2_with fail
  refine (hS _).mono ?_
  rintro _ wb ⟨rfl, hb⟩
  have hG := hG.below hb hG.lt
  have hB := hB.trans (hb.mono hB.size)
  clear hb
  have hA := Row.new wb 125 #[y0, y1, y2, y3]
  have hG2 := hG.alloc (.cells #[y0, y1, y2, y3] 125)
  have HAP := app57 _ w.heap.size 2 0 _ hG2 wb.heap.size 1 y0 y1 y2 y3 hA hy1 (by omega) (by simp)
  have HAP : Hid ((Builtin.append_ #[120, 120] 120 #[.slice (some ⟨w.heap.size, 0, none⟩) 0 2, .slice (some ⟨wb.heap.size, 0, none⟩) 1 1]).run Tryz.prog (wb.alloc (.cells #[y0, y1, y2, y3] 125)) = .ok (.slice (some ⟨w.heap.size, 0, none⟩) 1 2) ((wb.alloc (.cells #[y0, y1, y2, y3] 125)).setRow w.heap.size #[y0, y1, y2, y3, .bool false, .int .u64 0, .int .u64 0, .int .i64 0])) := HAP
  have hGlt := hG.lt
  have hR := hG2.setRow #[y0, y1, y2, y3, .bool false, .int .u64 0, .int .u64 0, .int .i64 0]
  have hBR := below_setRow (hB.alloc (by omega) (.cells #[y0, y1, y2, y3] 125)) (Nat.le_refl w.heap.size) #[y0, y1, y2, y3, .bool false, .int .u64 0, .int .u64 0, .int .i64 0]
  obtain ⟨W3, hW3⟩ : ∃ W3, (wb.alloc (.cells #[y0, y1, y2, y3] 125)).setRow w.heap.size #[y0, y1, y2, y3, .bool false, .int .u64 0, .int .u64 0, .int .i64 0] = W3 := ⟨_, rfl⟩
  rw [hW3] at HAP hR hBR
  clear hW3 hN hS mk hG hG2 hB hA k0 k1 k2 k3
  obtain ⟨k0, k1, k2, k3⟩ := (hK.below hBR hKlt).four
  have hsz : w.heap.size < W3.heap.size := hR.lt
  go_wp2_with (at_builtin; refine wpList_append_eq rfl (.tmp 20) (.tmp 27) 120 rfl _ _ _ _ rfl rfl HAP.out ?_)
  clear HAP
  rw [rounds_succ]
  go_wp2_with (go_at_call 74; refine (within_any _ _).mono ?_; rintro _ w10 ⟨rfl, hw10⟩; subst hw10; rw [HI2.out])
  exact bodyPost_ret (results_tmp2 rfl _ _ _) rfl ⟨hBR.alloc (by omega) _, rfl⟩
end Go.Proofs.YtoncpcdepemlcaaGreatDoor
/- Make; which of two sizes is greater; product; less. -/
namespace Go.Proofs.YtoncpcdepemlcaaGreatDoor
open Go.RowKit

end Go.Proofs.YtoncpcdepemlcaaGreatDoor
