import Derived.Test.YtdmddclfjjfcgaaDoorDexM
/- dec's read: a number's text, taken apart. -/
namespace Go.Proofs.YtdmddclfjjfcgaaDoor
open Go.RowKit

/-- A number's text: its sign, the digits ahead of the point and behind it, the exponent. -/
structure Wr where
  neg : Bool
  whole : List UInt8
  part : List UInt8
  e : Int
def Wr.cells (x : Wr) : Array Value := #[.bool x.neg, .string (bs x.whole), .string (bs x.part), .int .i64 x.e]
def Wr.v (x : Wr) : Value := .agg x.cells
/-- Behind the whole digits: the digits behind a point, what stands behind these, and whether that is right. -/
def partR (l : List UInt8) : List UInt8 × List UInt8 × Bool :=
  if Lib.hasPrefix l [46] then (aheadL (Lib.trimPrefix l [46]) digL, behL (Lib.trimPrefix l [46]) digL, !(aheadL (Lib.trimPrefix l [46]) digL).isEmpty) else ([], l, true)
def expO (l : List UInt8) : Int × Bool := if l.isEmpty then (0, true) else expR l
def readR (l : List UInt8) : Wr × Bool :=
  (⟨Lib.hasPrefix l [45], aheadL (Lib.trimPrefix l [45]) digL, (partR (behL (Lib.trimPrefix l [45]) digL)).1, (expO (partR (behL (Lib.trimPrefix l [45]) digL)).2.1).1⟩,
    !(aheadL (Lib.trimPrefix l [45]) digL).isEmpty && (partR (behL (Lib.trimPrefix l [45]) digL)).2.2 && (expO (partR (behL (Lib.trimPrefix l [45]) digL)).2.1).2)
theorem Tryd.zero71 : (Tryd.prog.info? 71).map (fun i => (i.zero, i.size)) = some (some (.agg #[.bool false, .string .empty, .string .empty, .int .i64 0]), 4) := by kernel_rfl
theorem load71 {W : World} {B : Nat} {cs : Array Value} (h : Row W B 71 cs) (hs : cs.size = 4) : (loadVar 71 ⟨B, 0, none⟩).run Tryd.prog W = .ok (.agg cs) W :=
  run_loadVar_row _ _ 71 71 cs (0, 0) _ h Tryd.underlying71 rfl (by rw [hs]; exact (zero_of_info Tryd.zero71).2)
theorem Row.fourR {W : World} {B : Nat} {t : TypeId} {a b c d : Value} (h : Row W B t #[a, b, c, d]) :
    W.cell? ⟨B, 0, none⟩ = some a ∧ W.cell? ⟨B, 1, none⟩ = some b ∧ W.cell? ⟨B, 2, none⟩ = some c ∧ W.cell? ⟨B, 3, none⟩ = some d :=
  ⟨h.cell rfl, h.cell rfl, h.cell rfl, h.cell rfl⟩
theorem Row.set4R {W : World} {B : Nat} {t : TypeId} {a b c d : Value} (h : Row W B t #[a, b, c, d]) (a' b' c' d' : Value) :
    Row ((((W.setCell ⟨B, 0, none⟩ a').setCell ⟨B, 1, none⟩ b').setCell ⟨B, 2, none⟩ c').setCell ⟨B, 3, none⟩ d') B t #[a', b', c', d'] := (((h.set 0 a').set 1 b').set 2 c').set 3 d'
theorem below_set4R {N : Nat} {x W : World} (h : Below N x W) {B' : Nat} (hN : N ≤ B') (a b c d : Value) :
    Below N x ((((W.setCell ⟨B', 0, none⟩ a).setCell ⟨B', 1, none⟩ b).setCell ⟨B', 2, none⟩ c).setCell ⟨B', 3, none⟩ d) := below_set (below_set (below_set (below_set h 0 a hN) 1 b hN) 2 c hN) 3 d hN
set_option maxRecDepth 100000 in
set_option maxHeartbeats 1000000 in
theorem read_p (l l1 wh l2 l3 P R : List UInt8) (ng : Bool) (ex : Int) (xb : Bool) (w : World)
    (h1 : ∀ W, Hid (Calls Tryd.prog 82 #[.string (bs l), .string ⟨#[45]⟩] W fun e w' => e = .returned (.tuple #[.string (bs l1), .bool ng]) ∧ w' = W))
    (h2 : ∀ W, Hid (Calls Tryd.prog 83 #[.string (bs l1)] W fun e w' => e = .returned (.tuple #[.string (bs wh), .string (bs l2)]) ∧ Below W.heap.size W w'))
    (h3 : ∀ W, Hid (Calls Tryd.prog 82 #[.string (bs l2), .string ⟨#[46]⟩] W fun e w' => e = .returned (.tuple #[.string (bs l3), .bool true]) ∧ w' = W))
    (h4 : ∀ W, Hid (Calls Tryd.prog 83 #[.string (bs l3)] W fun e w' => e = .returned (.tuple #[.string (bs P), .string (bs R)]) ∧ Below W.heap.size W w'))
    (h5 : R ≠ [] → ∀ W, Hid (Calls Tryd.prog 84 #[.string (bs R)] W fun e w' => e = .returned (.tuple #[.int .i64 ex, .bool xb]) ∧ Below W.heap.size W w'))
    (h6 : R = [] → ex = 0 ∧ xb = true) (ok : Bool) (HO : Hid ((!wh.isEmpty && !P.isEmpty && xb) = ok)) :
    Calls Tryd.prog 58 #[.string (bs l)] w fun e w' => e = .returned (.tuple #[(⟨ng, wh, P, ex⟩ : Wr).v, .bool ok]) ∧ Below w.heap.size w w' := by
  have nE : ∀ (a : UInt8) (x : List UInt8), (bs (a :: x)).toList.isEmpty = false := fun a x => by rw [bs_toList]; rfl
  have eE : (bs []).toList.isEmpty = true := by rw [bs_toList]; rfl
  have H5 : Hid (R ≠ [] → ∀ W, Hid (Calls Tryd.prog 84 #[.string (bs R)] W fun e w' => e = .returned (.tuple #[.int .i64 ex, .bool xb]) ∧ Below W.heap.size W w')) := h5
  have H6 : Hid (R = [] → ex = 0 ∧ xb = true) := h6
  clear h5 h6
  go_enter Tryd.func58, Tryd.ntmps58
  go_wp2_with fail
  refine Calls.mono (h1 _).out ?_
  rintro _ w0 ⟨rfl, hw⟩
  rw [hw]
  clear hw w0 h1
  go_wp2_with fail
  refine Calls.mono (h2 _).out ?_
  rintro _ w1 ⟨rfl, b1⟩
  obtain ⟨hZ, hB⟩ := one_row w w1 _ _ b1
  clear b1 h2
  have hZ0 := hZ.alloc (.cells #[.bool ng, .string (bs wh), .string .empty, .int .i64 0] 71)
  have hX0 := Row.new w1 71 #[.bool ng, .string (bs wh), .string .empty, .int .i64 0]
  have hB0 := below_allocS hB (.cells #[.bool ng, .string (bs wh), .string .empty, .int .i64 0] 71)
  have hlt : w.heap.size < w1.heap.size := hZ.lt
  have HZq : Hid (Row w1 w.heap.size 71 #[.bool false, .string .empty, .string .empty, .int .i64 0]) := hZ
  have HBq : Hid (Below w.heap.size w w1) := hB
  clear hZ hB
  obtain ⟨wb, hwb⟩ : ∃ wb, wh.isEmpty = wb := ⟨_, rfl⟩
  have hwe : (bs wh).toList.isEmpty = wb := by rw [bs_toList, hwb]
  rw [hwb] at HO
  clear hwb
  go_wp2_with fail
  refine Calls.mono (h3 _).out ?_
  rintro _ w0 ⟨rfl, hw⟩
  rw [hw]
  clear hw w0 h3
  go_wp2_with fail
  refine Calls.mono (h4 _).out ?_
  rintro _ w2 ⟨rfl, b2⟩
  have hZ1 := (hZ0.below b2 hZ0.lt).off (B' := w1.heap.size) 2 (.string (bs P)) (by omega)
  have hX1 := (hX0.below b2 hX0.lt).set 2 (.string (bs P))
  have hB1 := below_set (hB0.trans (b2.mono hB0.size)) (B := w1.heap.size) 2 (.string (bs P)) (by omega)
  have hXc := (hX0.below b2 hX0.lt)
  obtain ⟨y0, y1, y2, y3⟩ := hXc.fourR
  have fX := hXc.frozen
  have lX := hXc.lt
  clear hXc b2 h4 hZ0 hX0 hB0
  change Row (w2.setCell ⟨w1.heap.size, 2, none⟩ (.string (bs P))) w1.heap.size 71 #[.bool ng, .string (bs wh), .string (bs P), .int .i64 0] at hX1
  obtain ⟨pb, hpb⟩ : ∃ pb, P.isEmpty = pb := ⟨_, rfl⟩
  have hpe : (bs P).toList.isEmpty = pb := by rw [bs_toList, hpb]
  rw [hpb] at HO
  clear hpb
  cases wb
  · cases pb
    · rcases R with _ | ⟨a, R⟩
      · obtain ⟨rfl, rfl⟩ := H6.out rfl
        obtain ⟨z0, z1, z2, z3⟩ := hZ1.fourR
        have fZ := hZ1.frozen
        have lZ := hZ1.lt
        have hE4 := Row.set4R hZ1 (.bool ng) (.string (bs wh)) (.string (bs P)) (.int .i64 0)
        have hF4 := below_set4R hB1 (B' := w.heap.size) (Nat.le_refl _) (.bool ng) (.string (bs wh)) (.string (bs P)) (.int .i64 0)
        clear H5 H6 nE
        go_wp2
        exact bodyPost_ret (ret_two (u := 3) rfl (g := w.heap.size) rfl rfl (load71 hE4 rfl)) rfl ⟨by rw [← HO.out]; rfl, hF4⟩
      · have h5 := H5.out (by simp)
        have hne := nE a R
        clear H5 H6 eE
        go_wp2_with fail
        refine Calls.mono (h5 _).out ?_
        rintro _ w3 ⟨rfl, b3⟩
        have hX2 := hX1.below b3 hX1.lt
        have hZ2 := (hZ1.below b3 hZ1.lt).off (B' := w1.heap.size) 3 (.int .i64 ex) (by omega)
        have hX3 := hX2.set 3 (.int .i64 ex)
        have hB2 := below_set (hB1.trans (b3.mono hB1.size)) (B := w1.heap.size) 3 (.int .i64 ex) (by omega)
        change Row (w3.setCell ⟨w1.heap.size, 3, none⟩ (.int .i64 ex)) w1.heap.size 71 #[.bool ng, .string (bs wh), .string (bs P), .int .i64 ex] at hX3
        obtain ⟨c0, c1, c2, c3⟩ := hX2.fourR
        have fC := hX2.frozen
        have lC := hX2.lt
        obtain ⟨z0, z1, z2, z3⟩ := (hZ1.below b3 hZ1.lt).fourR
        have fZ := (hZ1.below b3 hZ1.lt).frozen
        have lZ := (hZ1.below b3 hZ1.lt).lt
        have hE4 := Row.set4R hZ2 (.bool ng) (.string (bs wh)) (.string (bs P)) (.int .i64 ex)
        have hF4 := below_set4R hB2 (B' := w.heap.size) (Nat.le_refl _) (.bool ng) (.string (bs wh)) (.string (bs P)) (.int .i64 ex)
        clear hX1 hZ1 hB1 hX2 hZ2 hX3 hB2 b3 h5
        go_wp2
        exact bodyPost_ret (ret_two (u := 3) rfl (g := w.heap.size) rfl rfl (load71 hE4 rfl)) rfl ⟨by rw [← HO.out]; rfl, hF4⟩
    · rcases R with _ | ⟨a, R⟩
      · obtain ⟨rfl, rfl⟩ := H6.out rfl
        obtain ⟨z0, z1, z2, z3⟩ := hZ1.fourR
        have fZ := hZ1.frozen
        have lZ := hZ1.lt
        have hE4 := Row.set4R hZ1 (.bool ng) (.string (bs wh)) (.string (bs P)) (.int .i64 0)
        have hF4 := below_set4R hB1 (B' := w.heap.size) (Nat.le_refl _) (.bool ng) (.string (bs wh)) (.string (bs P)) (.int .i64 0)
        clear H5 H6 nE
        go_wp2
        exact bodyPost_ret (ret_two (u := 3) rfl (g := w.heap.size) rfl rfl (load71 hE4 rfl)) rfl ⟨by rw [← HO.out]; rfl, hF4⟩
      · have h5 := H5.out (by simp)
        have hne := nE a R
        clear H5 H6 eE
        go_wp2_with fail
        refine Calls.mono (h5 _).out ?_
        rintro _ w3 ⟨rfl, b3⟩
        have hX2 := hX1.below b3 hX1.lt
        have hZ2 := (hZ1.below b3 hZ1.lt).off (B' := w1.heap.size) 3 (.int .i64 ex) (by omega)
        have hX3 := hX2.set 3 (.int .i64 ex)
        have hB2 := below_set (hB1.trans (b3.mono hB1.size)) (B := w1.heap.size) 3 (.int .i64 ex) (by omega)
        change Row (w3.setCell ⟨w1.heap.size, 3, none⟩ (.int .i64 ex)) w1.heap.size 71 #[.bool ng, .string (bs wh), .string (bs P), .int .i64 ex] at hX3
        obtain ⟨c0, c1, c2, c3⟩ := hX2.fourR
        have fC := hX2.frozen
        have lC := hX2.lt
        obtain ⟨z0, z1, z2, z3⟩ := (hZ1.below b3 hZ1.lt).fourR
        have fZ := (hZ1.below b3 hZ1.lt).frozen
        have lZ := (hZ1.below b3 hZ1.lt).lt
        have hE4 := Row.set4R hZ2 (.bool ng) (.string (bs wh)) (.string (bs P)) (.int .i64 ex)
        have hF4 := below_set4R hB2 (B' := w.heap.size) (Nat.le_refl _) (.bool ng) (.string (bs wh)) (.string (bs P)) (.int .i64 ex)
        clear hX1 hZ1 hB1 hX2 hZ2 hX3 hB2 b3 h5
        go_wp2
        exact bodyPost_ret (ret_two (u := 3) rfl (g := w.heap.size) rfl rfl (load71 hE4 rfl)) rfl ⟨by rw [← HO.out]; rfl, hF4⟩
  · cases pb
    · rcases R with _ | ⟨a, R⟩
      · obtain ⟨rfl, rfl⟩ := H6.out rfl
        obtain ⟨z0, z1, z2, z3⟩ := hZ1.fourR
        have fZ := hZ1.frozen
        have lZ := hZ1.lt
        have hE4 := Row.set4R hZ1 (.bool ng) (.string (bs wh)) (.string (bs P)) (.int .i64 0)
        have hF4 := below_set4R hB1 (B' := w.heap.size) (Nat.le_refl _) (.bool ng) (.string (bs wh)) (.string (bs P)) (.int .i64 0)
        clear H5 H6 nE
        go_wp2
        exact bodyPost_ret (ret_two (u := 3) rfl (g := w.heap.size) rfl rfl (load71 hE4 rfl)) rfl ⟨by rw [← HO.out]; rfl, hF4⟩
      · have h5 := H5.out (by simp)
        have hne := nE a R
        clear H5 H6 eE
        go_wp2_with fail
        refine Calls.mono (h5 _).out ?_
        rintro _ w3 ⟨rfl, b3⟩
        have hX2 := hX1.below b3 hX1.lt
        have hZ2 := (hZ1.below b3 hZ1.lt).off (B' := w1.heap.size) 3 (.int .i64 ex) (by omega)
        have hX3 := hX2.set 3 (.int .i64 ex)
        have hB2 := below_set (hB1.trans (b3.mono hB1.size)) (B := w1.heap.size) 3 (.int .i64 ex) (by omega)
        change Row (w3.setCell ⟨w1.heap.size, 3, none⟩ (.int .i64 ex)) w1.heap.size 71 #[.bool ng, .string (bs wh), .string (bs P), .int .i64 ex] at hX3
        obtain ⟨c0, c1, c2, c3⟩ := hX2.fourR
        have fC := hX2.frozen
        have lC := hX2.lt
        obtain ⟨z0, z1, z2, z3⟩ := (hZ1.below b3 hZ1.lt).fourR
        have fZ := (hZ1.below b3 hZ1.lt).frozen
        have lZ := (hZ1.below b3 hZ1.lt).lt
        have hE4 := Row.set4R hZ2 (.bool ng) (.string (bs wh)) (.string (bs P)) (.int .i64 ex)
        have hF4 := below_set4R hB2 (B' := w.heap.size) (Nat.le_refl _) (.bool ng) (.string (bs wh)) (.string (bs P)) (.int .i64 ex)
        clear hX1 hZ1 hB1 hX2 hZ2 hX3 hB2 b3 h5
        go_wp2
        exact bodyPost_ret (ret_two (u := 3) rfl (g := w.heap.size) rfl rfl (load71 hE4 rfl)) rfl ⟨by rw [← HO.out]; rfl, hF4⟩
    · rcases R with _ | ⟨a, R⟩
      · obtain ⟨rfl, rfl⟩ := H6.out rfl
        obtain ⟨z0, z1, z2, z3⟩ := hZ1.fourR
        have fZ := hZ1.frozen
        have lZ := hZ1.lt
        have hE4 := Row.set4R hZ1 (.bool ng) (.string (bs wh)) (.string (bs P)) (.int .i64 0)
        have hF4 := below_set4R hB1 (B' := w.heap.size) (Nat.le_refl _) (.bool ng) (.string (bs wh)) (.string (bs P)) (.int .i64 0)
        clear H5 H6 nE
        go_wp2
        exact bodyPost_ret (ret_two (u := 3) rfl (g := w.heap.size) rfl rfl (load71 hE4 rfl)) rfl ⟨by rw [← HO.out]; rfl, hF4⟩
      · have h5 := H5.out (by simp)
        have hne := nE a R
        clear H5 H6 eE
        go_wp2_with fail
        refine Calls.mono (h5 _).out ?_
        rintro _ w3 ⟨rfl, b3⟩
        have hX2 := hX1.below b3 hX1.lt
        have hZ2 := (hZ1.below b3 hZ1.lt).off (B' := w1.heap.size) 3 (.int .i64 ex) (by omega)
        have hX3 := hX2.set 3 (.int .i64 ex)
        have hB2 := below_set (hB1.trans (b3.mono hB1.size)) (B := w1.heap.size) 3 (.int .i64 ex) (by omega)
        change Row (w3.setCell ⟨w1.heap.size, 3, none⟩ (.int .i64 ex)) w1.heap.size 71 #[.bool ng, .string (bs wh), .string (bs P), .int .i64 ex] at hX3
        obtain ⟨c0, c1, c2, c3⟩ := hX2.fourR
        have fC := hX2.frozen
        have lC := hX2.lt
        obtain ⟨z0, z1, z2, z3⟩ := (hZ1.below b3 hZ1.lt).fourR
        have fZ := (hZ1.below b3 hZ1.lt).frozen
        have lZ := (hZ1.below b3 hZ1.lt).lt
        have hE4 := Row.set4R hZ2 (.bool ng) (.string (bs wh)) (.string (bs P)) (.int .i64 ex)
        have hF4 := below_set4R hB2 (B' := w.heap.size) (Nat.le_refl _) (.bool ng) (.string (bs wh)) (.string (bs P)) (.int .i64 ex)
        clear hX1 hZ1 hB1 hX2 hZ2 hX3 hB2 b3 h5
        go_wp2
        exact bodyPost_ret (ret_two (u := 3) rfl (g := w.heap.size) rfl rfl (load71 hE4 rfl)) rfl ⟨by rw [← HO.out]; rfl, hF4⟩
set_option maxRecDepth 100000 in
set_option maxHeartbeats 1000000 in
theorem read_n (l l1 wh l2 l3 P R : List UInt8) (ng : Bool) (ex : Int) (xb : Bool) (w : World)
    (h1 : ∀ W, Hid (Calls Tryd.prog 82 #[.string (bs l), .string ⟨#[45]⟩] W fun e w' => e = .returned (.tuple #[.string (bs l1), .bool ng]) ∧ w' = W))
    (h2 : ∀ W, Hid (Calls Tryd.prog 83 #[.string (bs l1)] W fun e w' => e = .returned (.tuple #[.string (bs wh), .string (bs l2)]) ∧ Below W.heap.size W w'))
    (h3 : ∀ W, Hid (Calls Tryd.prog 82 #[.string (bs l2), .string ⟨#[46]⟩] W fun e w' => e = .returned (.tuple #[.string (bs l3), .bool false]) ∧ w' = W))
    (h5 : R ≠ [] → ∀ W, Hid (Calls Tryd.prog 84 #[.string (bs R)] W fun e w' => e = .returned (.tuple #[.int .i64 ex, .bool xb]) ∧ Below W.heap.size W w'))
    (h6 : R = [] → ex = 0 ∧ xb = true) (hP : P = []) (hR : l2 = R) (ok : Bool) (HO : Hid ((!wh.isEmpty && true && xb) = ok)) :
    Calls Tryd.prog 58 #[.string (bs l)] w fun e w' => e = .returned (.tuple #[(⟨ng, wh, P, ex⟩ : Wr).v, .bool ok]) ∧ Below w.heap.size w w' := by
  subst hP hR
  have nE : ∀ (a : UInt8) (x : List UInt8), (bs (a :: x)).toList.isEmpty = false := fun a x => by rw [bs_toList]; rfl
  have eE : (bs []).toList.isEmpty = true := by rw [bs_toList]; rfl
  have H5 : Hid (l2 ≠ [] → ∀ W, Hid (Calls Tryd.prog 84 #[.string (bs l2)] W fun e w' => e = .returned (.tuple #[.int .i64 ex, .bool xb]) ∧ Below W.heap.size W w')) := h5
  have H6 : Hid (l2 = [] → ex = 0 ∧ xb = true) := h6
  clear h5 h6
  go_enter Tryd.func58, Tryd.ntmps58
  go_wp2_with fail
  refine Calls.mono (h1 _).out ?_
  rintro _ w0 ⟨rfl, hw⟩
  rw [hw]
  clear hw w0 h1
  go_wp2_with fail
  refine Calls.mono (h2 _).out ?_
  rintro _ w1 ⟨rfl, b1⟩
  obtain ⟨hZ, hB⟩ := one_row w w1 _ _ b1
  clear b1 h2
  have hZ0 := hZ.alloc (.cells #[.bool ng, .string (bs wh), .string .empty, .int .i64 0] 71)
  have hX0 := Row.new w1 71 #[.bool ng, .string (bs wh), .string .empty, .int .i64 0]
  have hB0 := below_allocS hB (.cells #[.bool ng, .string (bs wh), .string .empty, .int .i64 0] 71)
  have hlt : w.heap.size < w1.heap.size := hZ.lt
  have HZq : Hid (Row w1 w.heap.size 71 #[.bool false, .string .empty, .string .empty, .int .i64 0]) := hZ
  have HBq : Hid (Below w.heap.size w w1) := hB
  clear hZ hB
  obtain ⟨wb, hwb⟩ : ∃ wb, wh.isEmpty = wb := ⟨_, rfl⟩
  have hwe : (bs wh).toList.isEmpty = wb := by rw [bs_toList, hwb]
  rw [hwb] at HO
  clear hwb
  go_wp2_with fail
  refine Calls.mono (h3 _).out ?_
  rintro _ w0 ⟨rfl, hw⟩
  rw [hw]
  clear hw w0 h3
  have hZ1 := hZ0
  have hX1 := hX0
  have hB1 := hB0
  clear hZ0 hX0 hB0
  cases wb
  · rcases l2 with _ | ⟨a, R⟩
    · obtain ⟨rfl, rfl⟩ := H6.out rfl
      obtain ⟨z0, z1, z2, z3⟩ := HZq.out.fourR
      have fZ := HZq.out.frozen
      have lZ := HZq.out.lt
      have hE4 := (Row.set4R HZq.out (.bool ng) (.string (bs wh)) (.string .empty) (.int .i64 0)).alloc (.cells #[.bool ng, .string (bs wh), .string .empty, .int .i64 0] 71)
      have hF4 := below_allocS (below_set4R HBq.out (B' := w.heap.size) (Nat.le_refl _) (.bool ng) (.string (bs wh)) (.string .empty) (.int .i64 0)) (.cells #[.bool ng, .string (bs wh), .string .empty, .int .i64 0] 71)
      clear H5 H6 nE
      go_wp2
      exact bodyPost_ret (ret_two (u := 3) rfl (g := w.heap.size) rfl rfl (load71 hE4 rfl)) rfl ⟨by rw [← HO.out]; rfl, hF4⟩
    · have h5 := H5.out (by simp)
      have hne := nE a R
      clear H5 H6 eE
      go_wp2_with fail
      refine Calls.mono (h5 _).out ?_
      rintro _ w3 ⟨rfl, b3⟩
      have hX2 := hX1.below b3 hX1.lt
      have hZ2 := (hZ1.below b3 hZ1.lt).off (B' := w1.heap.size) 3 (.int .i64 ex) (by omega)
      have hX3 := hX2.set 3 (.int .i64 ex)
      have hB2 := below_set (hB1.trans (b3.mono hB1.size)) (B := w1.heap.size) 3 (.int .i64 ex) (by omega)
      change Row (w3.setCell ⟨w1.heap.size, 3, none⟩ (.int .i64 ex)) w1.heap.size 71 #[.bool ng, .string (bs wh), .string .empty, .int .i64 ex] at hX3
      obtain ⟨c0, c1, c2, c3⟩ := hX2.fourR
      have fC := hX2.frozen
      have lC := hX2.lt
      obtain ⟨z0, z1, z2, z3⟩ := (hZ1.below b3 hZ1.lt).fourR
      have fZ := (hZ1.below b3 hZ1.lt).frozen
      have lZ := (hZ1.below b3 hZ1.lt).lt
      have hE4 := Row.set4R hZ2 (.bool ng) (.string (bs wh)) (.string .empty) (.int .i64 ex)
      have hF4 := below_set4R hB2 (B' := w.heap.size) (Nat.le_refl _) (.bool ng) (.string (bs wh)) (.string .empty) (.int .i64 ex)
      clear hX1 hZ1 hB1 hX2 hZ2 hX3 hB2 b3 h5
      go_wp2
      exact bodyPost_ret (ret_two (u := 3) rfl (g := w.heap.size) rfl rfl (load71 hE4 rfl)) rfl ⟨by rw [← HO.out]; rfl, hF4⟩
  · rcases l2 with _ | ⟨a, R⟩
    · obtain ⟨rfl, rfl⟩ := H6.out rfl
      obtain ⟨z0, z1, z2, z3⟩ := HZq.out.fourR
      have fZ := HZq.out.frozen
      have lZ := HZq.out.lt
      have hE4 := (Row.set4R HZq.out (.bool ng) (.string (bs wh)) (.string .empty) (.int .i64 0)).alloc (.cells #[.bool ng, .string (bs wh), .string .empty, .int .i64 0] 71)
      have hF4 := below_allocS (below_set4R HBq.out (B' := w.heap.size) (Nat.le_refl _) (.bool ng) (.string (bs wh)) (.string .empty) (.int .i64 0)) (.cells #[.bool ng, .string (bs wh), .string .empty, .int .i64 0] 71)
      clear H5 H6 nE
      go_wp2
      exact bodyPost_ret (ret_two (u := 3) rfl (g := w.heap.size) rfl rfl (load71 hE4 rfl)) rfl ⟨by rw [← HO.out]; rfl, hF4⟩
    · have h5 := H5.out (by simp)
      have hne := nE a R
      clear H5 H6 eE
      go_wp2_with fail
      refine Calls.mono (h5 _).out ?_
      rintro _ w3 ⟨rfl, b3⟩
      have hX2 := hX1.below b3 hX1.lt
      have hZ2 := (hZ1.below b3 hZ1.lt).off (B' := w1.heap.size) 3 (.int .i64 ex) (by omega)
      have hX3 := hX2.set 3 (.int .i64 ex)
      have hB2 := below_set (hB1.trans (b3.mono hB1.size)) (B := w1.heap.size) 3 (.int .i64 ex) (by omega)
      change Row (w3.setCell ⟨w1.heap.size, 3, none⟩ (.int .i64 ex)) w1.heap.size 71 #[.bool ng, .string (bs wh), .string .empty, .int .i64 ex] at hX3
      obtain ⟨c0, c1, c2, c3⟩ := hX2.fourR
      have fC := hX2.frozen
      have lC := hX2.lt
      obtain ⟨z0, z1, z2, z3⟩ := (hZ1.below b3 hZ1.lt).fourR
      have fZ := (hZ1.below b3 hZ1.lt).frozen
      have lZ := (hZ1.below b3 hZ1.lt).lt
      have hE4 := Row.set4R hZ2 (.bool ng) (.string (bs wh)) (.string .empty) (.int .i64 ex)
      have hF4 := below_set4R hB2 (B' := w.heap.size) (Nat.le_refl _) (.bool ng) (.string (bs wh)) (.string .empty) (.int .i64 ex)
      clear hX1 hZ1 hB1 hX2 hZ2 hX3 hB2 b3 h5
      go_wp2
      exact bodyPost_ret (ret_two (u := 3) rfl (g := w.heap.size) rfl rfl (load71 hE4 rfl)) rfl ⟨by rw [← HO.out]; rfl, hF4⟩
end Go.Proofs.YtdmddclfjjfcgaaDoor
/- dec's read, whole. -/
namespace Go.Proofs.YtdmddclfjjfcgaaDoor
open Go.RowKit

theorem dread_any (l : List UInt8) (hl : l.length ≤ 140737488351232) (w : World) :
    Calls Tryd.prog 58 #[.string (bs l)] w fun e w' => e = .returned (.tuple #[(readR l).1.v, .bool (readR l).2]) ∧ Below w.heap.size w w' := by
  have h1 : ∀ W, Hid (Calls Tryd.prog 82 #[.string (bs l), .string ⟨#[45]⟩] W fun e w' => e = .returned (.tuple #[.string (bs (Lib.trimPrefix l [45])), .bool (Lib.hasPrefix l [45])]) ∧ w' = W) := fun W => Tryd.strings_CutPrefix (bs l) (bs [45]) W
  have g1 := trim_len l [45]
  have h2 : ∀ W, Hid _ := fun W => digitsAhead_any (Lib.trimPrefix l [45]) (by omega) W
  have g2 : (behL (Lib.trimPrefix l [45]) digL).length ≤ l.length := by have := ahead_len (Lib.trimPrefix l [45]) digL; omega
  unfold readR
  generalize Lib.trimPrefix l [45] = l1 at *
  generalize aheadL l1 digL = wh at *
  generalize behL l1 digL = l2 at *
  generalize Lib.hasPrefix l [45] = ng at *
  have h3 : ∀ W, Hid (Calls Tryd.prog 82 #[.string (bs l2), .string ⟨#[46]⟩] W fun e w' => e = .returned (.tuple #[.string (bs (Lib.trimPrefix l2 [46])), .bool (Lib.hasPrefix l2 [46])]) ∧ w' = W) := fun W => Tryd.strings_CutPrefix (bs l2) (bs [46]) W
  have hx : ∀ R : List UInt8, R.length ≤ l.length → (R ≠ [] → ∀ W, Hid (Calls Tryd.prog 84 #[.string (bs R)] W fun e w' => e = .returned (.tuple #[.int .i64 (expO R).1, .bool (expO R).2]) ∧ Below W.heap.size W w')) ∧ (R = [] → (expO R).1 = 0 ∧ (expO R).2 = true) := by
    intro R hR
    refine ⟨fun hne W => ?_, fun h => by subst h; exact ⟨rfl, rfl⟩⟩
    cases R with
    | nil => exact absurd rfl hne
    | cons a r =>
      have : expO (a :: r) = expR (a :: r) := rfl
      rw [this]
      exact exponent_any a r (by omega) W
  unfold partR
  cases hp : Lib.hasPrefix l2 [46]
  · rw [hp] at h3
    simp only [Bool.false_eq_true, if_false]
    obtain ⟨q1, q2⟩ := hx l2 g2
    exact read_n l l1 wh l2 (Lib.trimPrefix l2 [46]) [] l2 ng (expO l2).1 (expO l2).2 w h1 h2 h3 q1 q2 rfl rfl _ rfl
  · rw [hp] at h3
    simp only [if_true]
    have g3 := trim_len l2 [46]
    have g4 := ahead_len (Lib.trimPrefix l2 [46]) digL
    obtain ⟨q1, q2⟩ := hx (behL (Lib.trimPrefix l2 [46]) digL) (by omega)
    exact read_p l l1 wh l2 (Lib.trimPrefix l2 [46]) (aheadL (Lib.trimPrefix l2 [46]) digL) (behL (Lib.trimPrefix l2 [46]) digL) ng _ _ w h1 h2 h3 (fun W => digitsAhead_any _ (by omega) W) q1 q2 _ rfl
end Go.Proofs.YtdmddclfjjfcgaaDoor
