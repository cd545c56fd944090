import Derived.Test.YtgihginfegckcaaGreatDoorLlxM
/- lex's document: what a letter begins. -/
namespace Go.Proofs.YtgihginfegckcaaGreatDoor
open Go.RowKit

set_option maxRecDepth 100000 in
set_option maxHeartbeats 1000000 in
theorem wo_S (l V : List UInt8) (i k k2 : Nat) (x : UInt8) (w : World) (hik : i ≤ k) (hk2 : k ≤ (bs l).size) (hk3 : k + 1 ≤ 1000001) (t : Tk) (er : Int)
    (hV : Hid ((bs l).extract i k = bs V))
    (h42 : ∀ W, Hid (Calls Tryz.prog 42 #[.string (bs l), .int .i64 (i : Int), .bool false] W fun e w' => e = .returned (.int .i64 (k : Int)) ∧ w' = W))
    (h40 : ∀ W, Hid (Calls Tryz.prog 40 #[.string (bs l), .int .i64 (k : Int)] W fun e w' => e = .returned (.int .u8 (x.toNat : Int)) ∧ w' = W))
    (t33 : ((x.toNat : Int) == 33) = true)
    (h36 : ∀ W, Hid (Calls Tryz.prog 68 #[.string (bs V), .int .u8 36] W fun e w' => e = .returned (.bool false) ∧ w' = W))
    (h46 : ∀ W, Hid (Calls Tryz.prog 68 #[.string (bs V), .int .u8 46] W fun e w' => e = .returned (.bool false) ∧ w' = W))
    (h42b : ∀ z : Int, z = (k : Int) + 1 → ∀ W, Hid (Calls Tryz.prog 42 #[.string (bs l), .int .i64 z, .bool true] W fun e w' => e = .returned (.int .i64 (k2 : Int)) ∧ w' = W))
    (h41 : ∀ W, Hid (Calls Tryz.prog 41 #[.string (bs l), .int .i64 (i : Int), .int .i64 (k2 : Int)] W fun e w' => e = tokR t k2 er ∧ Below W.heap.size W w')) :
    Calls Tryz.prog 44 #[.string (bs l), .int .i64 (i : Int)] w fun e w' => e = tokR t k2 er ∧ Below w.heap.size w w' := by
  have t1 : (i : Int) ≤ (k : Int) := by omega
  have t2 : (k : Int) ≤ ((bs l).size : Int) := by omega
  have HZ : ∀ W, Below (w.alloc (.cells z10 35)).heap.size (w.alloc (.cells z10 35)) W → Hid (Row W w.heap.size 35 z10 ∧ Below w.heap.size w W) := fun W hW => one_row w W _ _ hW
  unfold z10 at HZ
  have hV1 := hV.out
  unfold tokR Tk.v Tk.cells at h41
  go_enter Tryz.func44, Tryz.ntmps44
  go_wp2_with fail
  refine Calls.mono (h42 _).out ?_
  rintro _ w0 ⟨rfl, hw⟩
  rw [hw]
  clear hw w0
  go_wp2_with fail
  refine Calls.mono (h40 _).out ?_
  rintro _ w0 ⟨rfl, hw⟩
  rw [hw]
  clear hw w0
  go_wp2_with fail
  refine Calls.mono (h36 _).out ?_
  rintro _ w0 ⟨rfl, hw⟩
  rw [hw]
  clear hw w0
  go_wp2_with fail
  refine Calls.mono (h46 _).out ?_
  rintro _ w0 ⟨rfl, hw⟩
  rw [hw]
  clear hw w0
  go_wp2_with fail
  refine Calls.mono (h42b _ (by omega) _).out ?_
  rintro _ w0 ⟨rfl, hw⟩
  rw [hw]
  clear hw w0
  go_wp2_with fail
  refine Calls.mono (h41 _).out ?_
  rintro _ w3 ⟨rfl, q3⟩
  clear h41
  obtain ⟨hZ, hB⟩ := (HZ _ q3).out
  clear q3 HZ
  obtain ⟨c0, c1, c2, c3, c4, c5, c6, c7, c8, c9⟩ := hZ.ten
  have fZ := hZ.frozen
  have lZ := hZ.lt
  have hE := Row.set10 hZ (.int .i64 t.k) (.int .i64 t.at') (.string (bs t.s)) (.int .i64 t.c) (.int .i64 t.e) (.string t.r.s) (.int .i64 t.r.c) (.int .i64 t.r.r) (.bool t.r.ac) (.bool t.r.ar)
  have hF := below_set10 hB (B := w.heap.size) (Nat.le_refl _) (.int .i64 t.k) (.int .i64 t.at') (.string (bs t.s)) (.int .i64 t.c) (.int .i64 t.e) (.string t.r.s) (.int .i64 t.r.c) (.int .i64 t.r.r) (.bool t.r.ac) (.bool t.r.ar)
  clear hZ hB
  go_wp2
  exact bodyPost_ret (ret_three_b (u := 5) (u2 := 6) rfl (g := w.heap.size) rfl rfl rfl (load35 hE rfl)) rfl ⟨rfl, hF⟩
set_option maxRecDepth 100000 in
set_option maxHeartbeats 1000000 in
theorem wo_N1_0_R (l V : List UInt8) (i k : Nat) (x : UInt8) (w : World) (hik : i ≤ k) (hk2 : k ≤ (bs l).size) (xs : ByteArray) (xc xr : Int) (xa xb : Bool) (pe : Int) (t : Tk) (er : Int)
    (hV : Hid ((bs l).extract i k = bs V))
    (h42 : ∀ W, Hid (Calls Tryz.prog 42 #[.string (bs l), .int .i64 (i : Int), .bool false] W fun e w' => e = .returned (.int .i64 (k : Int)) ∧ w' = W))
    (h40 : ∀ W, Hid (Calls Tryz.prog 40 #[.string (bs l), .int .i64 (k : Int)] W fun e w' => e = .returned (.int .u8 (x.toNat : Int)) ∧ w' = W))
    (t33 : ((x.toNat : Int) == 33) = false)
    (h65 : ∀ W, Hid (Calls Tryz.prog 65 #[.string (bs V)] W fun e w' => e = .returned (.tuple #[.agg #[.string xs, .int .i64 xc, .int .i64 xr, .bool xa, .bool xb], .int .i64 pe]) ∧ Below W.heap.size W w'))
    (tp0 : (pe == 0) = true)
    (t40 : ((x.toNat : Int) != 40) = true)
    (h41 : ∀ W, Hid (Calls Tryz.prog 41 #[.string (bs l), .int .i64 (i : Int), .int .i64 (k : Int)] W fun e w' => e = tokR t k er ∧ Below W.heap.size W w')) :
    Calls Tryz.prog 44 #[.string (bs l), .int .i64 (i : Int)] w fun e w' => e = tokR t k er ∧ Below w.heap.size w w' := by
  have t1 : (i : Int) ≤ (k : Int) := by omega
  have t2 : (k : Int) ≤ ((bs l).size : Int) := by omega
  have HZ : ∀ W, Below (w.alloc (.cells z10 35)).heap.size (w.alloc (.cells z10 35)) W → Hid (Row W w.heap.size 35 z10 ∧ Below w.heap.size w W) := fun W hW => one_row w W _ _ hW
  unfold z10 at HZ
  have hV1 := hV.out
  unfold tokR Tk.v Tk.cells at h41
  go_enter Tryz.func44, Tryz.ntmps44
  go_wp2_with fail
  refine Calls.mono (h42 _).out ?_
  rintro _ w0 ⟨rfl, hw⟩
  rw [hw]
  clear hw w0
  go_wp2_with fail
  refine Calls.mono (h40 _).out ?_
  rintro _ w0 ⟨rfl, hw⟩
  rw [hw]
  clear hw w0
  go_wp2_with fail
  refine Calls.mono (h65 _).out ?_
  rintro _ w2 ⟨rfl, q2⟩
  clear h65
  obtain ⟨hZ, hB⟩ := (HZ _ q2).out
  clear q2 HZ
  have hZ := hZ.alloc (.cells #[.string xs, .int .i64 xc, .int .i64 xr, .bool xa, .bool xb] 32)
  have hB := below_allocS hB (.cells #[.string xs, .int .i64 xc, .int .i64 xr, .bool xa, .bool xb] 32)
  have HZB : Hid (Row (w2.alloc (.cells #[.string xs, .int .i64 xc, .int .i64 xr, .bool xa, .bool xb] 32)) w.heap.size 35 #[.int .i64 0, .int .i64 0, .string .empty, .int .i64 0, .int .i64 0, .string .empty, .int .i64 0, .int .i64 0, .bool false, .bool false] ∧ Below w.heap.size w (w2.alloc (.cells #[.string xs, .int .i64 xc, .int .i64 xr, .bool xa, .bool xb] 32))) := ⟨hZ, hB⟩
  clear hZ hB
  go_wp2_with fail
  refine Calls.mono (h40 _).out ?_
  rintro _ w0 ⟨rfl, hw⟩
  rw [hw]
  clear hw w0
  go_wp2_with fail
  refine Calls.mono (h41 _).out ?_
  rintro _ w3 ⟨rfl, q3⟩
  clear h41
  have hZ := HZB.out.1.below q3 HZB.out.1.lt
  have hB := HZB.out.2.trans (q3.mono HZB.out.2.size)
  clear q3 HZB
  obtain ⟨c0, c1, c2, c3, c4, c5, c6, c7, c8, c9⟩ := hZ.ten
  have fZ := hZ.frozen
  have lZ := hZ.lt
  have hE := Row.set10 hZ (.int .i64 t.k) (.int .i64 t.at') (.string (bs t.s)) (.int .i64 t.c) (.int .i64 t.e) (.string t.r.s) (.int .i64 t.r.c) (.int .i64 t.r.r) (.bool t.r.ac) (.bool t.r.ar)
  have hF := below_set10 hB (B := w.heap.size) (Nat.le_refl _) (.int .i64 t.k) (.int .i64 t.at') (.string (bs t.s)) (.int .i64 t.c) (.int .i64 t.e) (.string t.r.s) (.int .i64 t.r.c) (.int .i64 t.r.r) (.bool t.r.ac) (.bool t.r.ar)
  clear hZ hB
  go_wp2
  exact bodyPost_ret (ret_three_b (u := 5) (u2 := 6) rfl (g := w.heap.size) rfl rfl rfl (load35 hE rfl)) rfl ⟨rfl, hF⟩
set_option maxRecDepth 100000 in
set_option maxHeartbeats 1000000 in
theorem wo_N1_0_pt (l V : List UInt8) (i k : Nat) (x : UInt8) (w : World) (hik : i ≤ k) (hk2 : k ≤ (bs l).size) (xs : ByteArray) (xc xr : Int) (xa xb : Bool) (pe : Int)
    (hV : Hid ((bs l).extract i k = bs V))
    (h42 : ∀ W, Hid (Calls Tryz.prog 42 #[.string (bs l), .int .i64 (i : Int), .bool false] W fun e w' => e = .returned (.int .i64 (k : Int)) ∧ w' = W))
    (h40 : ∀ W, Hid (Calls Tryz.prog 40 #[.string (bs l), .int .i64 (k : Int)] W fun e w' => e = .returned (.int .u8 (x.toNat : Int)) ∧ w' = W))
    (t33 : ((x.toNat : Int) == 33) = false)
    (h65 : ∀ W, Hid (Calls Tryz.prog 65 #[.string (bs V)] W fun e w' => e = .returned (.tuple #[.agg #[.string xs, .int .i64 xc, .int .i64 xr, .bool xa, .bool xb], .int .i64 pe]) ∧ Below W.heap.size W w'))
    (tp0 : (pe == 0) = true)
    (t40 : ((x.toNat : Int) != 40) = false)
    (h36 : ∀ W, Hid (Calls Tryz.prog 68 #[.string (bs V), .int .u8 36] W fun e w' => e = .returned (.bool true) ∧ w' = W)) :
    Calls Tryz.prog 44 #[.string (bs l), .int .i64 (i : Int)] w fun e w' => e = tokR Tk.zero 0 40 ∧ Below w.heap.size w w' := by
  have t1 : (i : Int) ≤ (k : Int) := by omega
  have t2 : (k : Int) ≤ ((bs l).size : Int) := by omega
  have HZ : ∀ W, Below (w.alloc (.cells z10 35)).heap.size (w.alloc (.cells z10 35)) W → Hid (Row W w.heap.size 35 z10 ∧ Below w.heap.size w W) := fun W hW => one_row w W _ _ hW
  unfold z10 at HZ
  have hV1 := hV.out
  go_enter Tryz.func44, Tryz.ntmps44
  go_wp2_with fail
  refine Calls.mono (h42 _).out ?_
  rintro _ w0 ⟨rfl, hw⟩
  rw [hw]
  clear hw w0
  go_wp2_with fail
  refine Calls.mono (h40 _).out ?_
  rintro _ w0 ⟨rfl, hw⟩
  rw [hw]
  clear hw w0
  go_wp2_with fail
  refine Calls.mono (h65 _).out ?_
  rintro _ w2 ⟨rfl, q2⟩
  clear h65
  obtain ⟨hZ, hB⟩ := (HZ _ q2).out
  clear q2 HZ
  have hZ := hZ.alloc (.cells #[.string xs, .int .i64 xc, .int .i64 xr, .bool xa, .bool xb] 32)
  have hB := below_allocS hB (.cells #[.string xs, .int .i64 xc, .int .i64 xr, .bool xa, .bool xb] 32)
  have HZB : Hid (Row (w2.alloc (.cells #[.string xs, .int .i64 xc, .int .i64 xr, .bool xa, .bool xb] 32)) w.heap.size 35 #[.int .i64 0, .int .i64 0, .string .empty, .int .i64 0, .int .i64 0, .string .empty, .int .i64 0, .int .i64 0, .bool false, .bool false] ∧ Below w.heap.size w (w2.alloc (.cells #[.string xs, .int .i64 xc, .int .i64 xr, .bool xa, .bool xb] 32))) := ⟨hZ, hB⟩
  clear hZ hB
  go_wp2_with fail
  refine Calls.mono (h40 _).out ?_
  rintro _ w0 ⟨rfl, hw⟩
  rw [hw]
  clear hw w0
  go_wp2_with fail
  refine Calls.mono (h36 _).out ?_
  rintro _ w0 ⟨rfl, hw⟩
  rw [hw]
  clear hw w0
  have hZ := HZB.out.1
  have hB := HZB.out.2
  clear HZB
  obtain ⟨c0, c1, c2, c3, c4, c5, c6, c7, c8, c9⟩ := hZ.ten
  have fZ := hZ.frozen
  have lZ := hZ.lt
  have hE := Row.set10 hZ (.int .i64 0) (.int .i64 0) (.string .empty) (.int .i64 0) (.int .i64 0) (.string .empty) (.int .i64 0) (.int .i64 0) (.bool false) (.bool false)
  have hF := below_set10 hB (B := w.heap.size) (Nat.le_refl _) (.int .i64 0) (.int .i64 0) (.string .empty) (.int .i64 0) (.int .i64 0) (.string .empty) (.int .i64 0) (.int .i64 0) (.bool false) (.bool false)
  clear hZ hB
  go_wp2
  exact bodyPost_ret (ret_three_b (u := 5) (u2 := 6) rfl (g := w.heap.size) rfl rfl rfl (load35 hE rfl)) rfl ⟨rfl, hF⟩
set_option maxRecDepth 100000 in
set_option maxHeartbeats 1000000 in
theorem wo_N1_0_pf (l V : List UInt8) (i k : Nat) (x : UInt8) (w : World) (hik : i ≤ k) (hk2 : k ≤ (bs l).size) (xs : ByteArray) (xc xr : Int) (xa xb : Bool) (pe : Int)
    (hV : Hid ((bs l).extract i k = bs V))
    (h42 : ∀ W, Hid (Calls Tryz.prog 42 #[.string (bs l), .int .i64 (i : Int), .bool false] W fun e w' => e = .returned (.int .i64 (k : Int)) ∧ w' = W))
    (h40 : ∀ W, Hid (Calls Tryz.prog 40 #[.string (bs l), .int .i64 (k : Int)] W fun e w' => e = .returned (.int .u8 (x.toNat : Int)) ∧ w' = W))
    (t33 : ((x.toNat : Int) == 33) = false)
    (h65 : ∀ W, Hid (Calls Tryz.prog 65 #[.string (bs V)] W fun e w' => e = .returned (.tuple #[.agg #[.string xs, .int .i64 xc, .int .i64 xr, .bool xa, .bool xb], .int .i64 pe]) ∧ Below W.heap.size W w'))
    (tp0 : (pe == 0) = true)
    (t40 : ((x.toNat : Int) != 40) = false)
    (h36 : ∀ W, Hid (Calls Tryz.prog 68 #[.string (bs V), .int .u8 36] W fun e w' => e = .returned (.bool false) ∧ w' = W)) :
    Calls Tryz.prog 44 #[.string (bs l), .int .i64 (i : Int)] w fun e w' => e = tokR ⟨4, (i : Int), V, 0, 0, Rf.zero⟩ k 0 ∧ Below w.heap.size w w' := by
  have t1 : (i : Int) ≤ (k : Int) := by omega
  have t2 : (k : Int) ≤ ((bs l).size : Int) := by omega
  have HZ : ∀ W, Below (w.alloc (.cells z10 35)).heap.size (w.alloc (.cells z10 35)) W → Hid (Row W w.heap.size 35 z10 ∧ Below w.heap.size w W) := fun W hW => one_row w W _ _ hW
  unfold z10 at HZ
  have hV1 := hV.out
  go_enter Tryz.func44, Tryz.ntmps44
  go_wp2_with fail
  refine Calls.mono (h42 _).out ?_
  rintro _ w0 ⟨rfl, hw⟩
  rw [hw]
  clear hw w0
  go_wp2_with fail
  refine Calls.mono (h40 _).out ?_
  rintro _ w0 ⟨rfl, hw⟩
  rw [hw]
  clear hw w0
  go_wp2_with fail
  refine Calls.mono (h65 _).out ?_
  rintro _ w2 ⟨rfl, q2⟩
  clear h65
  obtain ⟨hZ, hB⟩ := (HZ _ q2).out
  clear q2 HZ
  have hZ := hZ.alloc (.cells #[.string xs, .int .i64 xc, .int .i64 xr, .bool xa, .bool xb] 32)
  have hB := below_allocS hB (.cells #[.string xs, .int .i64 xc, .int .i64 xr, .bool xa, .bool xb] 32)
  have HZB : Hid (Row (w2.alloc (.cells #[.string xs, .int .i64 xc, .int .i64 xr, .bool xa, .bool xb] 32)) w.heap.size 35 #[.int .i64 0, .int .i64 0, .string .empty, .int .i64 0, .int .i64 0, .string .empty, .int .i64 0, .int .i64 0, .bool false, .bool false] ∧ Below w.heap.size w (w2.alloc (.cells #[.string xs, .int .i64 xc, .int .i64 xr, .bool xa, .bool xb] 32))) := ⟨hZ, hB⟩
  clear hZ hB
  go_wp2_with fail
  refine Calls.mono (h40 _).out ?_
  rintro _ w0 ⟨rfl, hw⟩
  rw [hw]
  clear hw w0
  go_wp2_with fail
  refine Calls.mono (h36 _).out ?_
  rintro _ w0 ⟨rfl, hw⟩
  rw [hw]
  clear hw w0
  have hZ := HZB.out.1
  have hB := HZB.out.2
  clear HZB
  obtain ⟨c0, c1, c2, c3, c4, c5, c6, c7, c8, c9⟩ := hZ.ten
  have fZ := hZ.frozen
  have lZ := hZ.lt
  have hE := Row.set10 hZ (.int .i64 4) (.int .i64 (i : Int)) (.string (bs V)) (.int .i64 0) (.int .i64 0) (.string .empty) (.int .i64 0) (.int .i64 0) (.bool false) (.bool false)
  have hF := below_set10 hB (B := w.heap.size) (Nat.le_refl _) (.int .i64 4) (.int .i64 (i : Int)) (.string (bs V)) (.int .i64 0) (.int .i64 0) (.string .empty) (.int .i64 0) (.int .i64 0) (.bool false) (.bool false)
  clear hZ hB
  go_wp2
  exact bodyPost_ret (ret_three_b (u := 5) (u2 := 6) rfl (g := w.heap.size) rfl rfl rfl (load35 hE rfl)) rfl ⟨rfl, hF⟩
set_option maxRecDepth 100000 in
set_option maxHeartbeats 1000000 in
theorem wo_N1_41_R (l V : List UInt8) (i k : Nat) (x : UInt8) (w : World) (hik : i ≤ k) (hk2 : k ≤ (bs l).size) (xs : ByteArray) (xc xr : Int) (xa xb : Bool) (pe : Int) (t : Tk) (er : Int)
    (hV : Hid ((bs l).extract i k = bs V))
    (h42 : ∀ W, Hid (Calls Tryz.prog 42 #[.string (bs l), .int .i64 (i : Int), .bool false] W fun e w' => e = .returned (.int .i64 (k : Int)) ∧ w' = W))
    (h40 : ∀ W, Hid (Calls Tryz.prog 40 #[.string (bs l), .int .i64 (k : Int)] W fun e w' => e = .returned (.int .u8 (x.toNat : Int)) ∧ w' = W))
    (t33 : ((x.toNat : Int) == 33) = false)
    (h65 : ∀ W, Hid (Calls Tryz.prog 65 #[.string (bs V)] W fun e w' => e = .returned (.tuple #[.agg #[.string xs, .int .i64 xc, .int .i64 xr, .bool xa, .bool xb], .int .i64 pe]) ∧ Below W.heap.size W w'))
    (tp0 : (pe == 0) = false)
    (tp1 : (pe == 41) = true)
    (t40 : ((x.toNat : Int) != 40) = true)
    (h41 : ∀ W, Hid (Calls Tryz.prog 41 #[.string (bs l), .int .i64 (i : Int), .int .i64 (k : Int)] W fun e w' => e = tokR t k er ∧ Below W.heap.size W w')) :
    Calls Tryz.prog 44 #[.string (bs l), .int .i64 (i : Int)] w fun e w' => e = tokR t k er ∧ Below w.heap.size w w' := by
  have t1 : (i : Int) ≤ (k : Int) := by omega
  have t2 : (k : Int) ≤ ((bs l).size : Int) := by omega
  have HZ : ∀ W, Below (w.alloc (.cells z10 35)).heap.size (w.alloc (.cells z10 35)) W → Hid (Row W w.heap.size 35 z10 ∧ Below w.heap.size w W) := fun W hW => one_row w W _ _ hW
  unfold z10 at HZ
  have hV1 := hV.out
  unfold tokR Tk.v Tk.cells at h41
  go_enter Tryz.func44, Tryz.ntmps44
  go_wp2_with fail
  refine Calls.mono (h42 _).out ?_
  rintro _ w0 ⟨rfl, hw⟩
  rw [hw]
  clear hw w0
  go_wp2_with fail
  refine Calls.mono (h40 _).out ?_
  rintro _ w0 ⟨rfl, hw⟩
  rw [hw]
  clear hw w0
  go_wp2_with fail
  refine Calls.mono (h65 _).out ?_
  rintro _ w2 ⟨rfl, q2⟩
  clear h65
  obtain ⟨hZ, hB⟩ := (HZ _ q2).out
  clear q2 HZ
  have hZ := hZ.alloc (.cells #[.string xs, .int .i64 xc, .int .i64 xr, .bool xa, .bool xb] 32)
  have hB := below_allocS hB (.cells #[.string xs, .int .i64 xc, .int .i64 xr, .bool xa, .bool xb] 32)
  have HZB : Hid (Row (w2.alloc (.cells #[.string xs, .int .i64 xc, .int .i64 xr, .bool xa, .bool xb] 32)) w.heap.size 35 #[.int .i64 0, .int .i64 0, .string .empty, .int .i64 0, .int .i64 0, .string .empty, .int .i64 0, .int .i64 0, .bool false, .bool false] ∧ Below w.heap.size w (w2.alloc (.cells #[.string xs, .int .i64 xc, .int .i64 xr, .bool xa, .bool xb] 32))) := ⟨hZ, hB⟩
  clear hZ hB
  go_wp2_with fail
  refine Calls.mono (h40 _).out ?_
  rintro _ w0 ⟨rfl, hw⟩
  rw [hw]
  clear hw w0
  go_wp2_with fail
  refine Calls.mono (h41 _).out ?_
  rintro _ w3 ⟨rfl, q3⟩
  clear h41
  have hZ := HZB.out.1.below q3 HZB.out.1.lt
  have hB := HZB.out.2.trans (q3.mono HZB.out.2.size)
  clear q3 HZB
  obtain ⟨c0, c1, c2, c3, c4, c5, c6, c7, c8, c9⟩ := hZ.ten
  have fZ := hZ.frozen
  have lZ := hZ.lt
  have hE := Row.set10 hZ (.int .i64 t.k) (.int .i64 t.at') (.string (bs t.s)) (.int .i64 t.c) (.int .i64 t.e) (.string t.r.s) (.int .i64 t.r.c) (.int .i64 t.r.r) (.bool t.r.ac) (.bool t.r.ar)
  have hF := below_set10 hB (B := w.heap.size) (Nat.le_refl _) (.int .i64 t.k) (.int .i64 t.at') (.string (bs t.s)) (.int .i64 t.c) (.int .i64 t.e) (.string t.r.s) (.int .i64 t.r.c) (.int .i64 t.r.r) (.bool t.r.ac) (.bool t.r.ar)
  clear hZ hB
  go_wp2
  exact bodyPost_ret (ret_three_b (u := 5) (u2 := 6) rfl (g := w.heap.size) rfl rfl rfl (load35 hE rfl)) rfl ⟨rfl, hF⟩
set_option maxRecDepth 100000 in
set_option maxHeartbeats 1000000 in
theorem wo_N1_41_pt (l V : List UInt8) (i k : Nat) (x : UInt8) (w : World) (hik : i ≤ k) (hk2 : k ≤ (bs l).size) (xs : ByteArray) (xc xr : Int) (xa xb : Bool) (pe : Int)
    (hV : Hid ((bs l).extract i k = bs V))
    (h42 : ∀ W, Hid (Calls Tryz.prog 42 #[.string (bs l), .int .i64 (i : Int), .bool false] W fun e w' => e = .returned (.int .i64 (k : Int)) ∧ w' = W))
    (h40 : ∀ W, Hid (Calls Tryz.prog 40 #[.string (bs l), .int .i64 (k : Int)] W fun e w' => e = .returned (.int .u8 (x.toNat : Int)) ∧ w' = W))
    (t33 : ((x.toNat : Int) == 33) = false)
    (h65 : ∀ W, Hid (Calls Tryz.prog 65 #[.string (bs V)] W fun e w' => e = .returned (.tuple #[.agg #[.string xs, .int .i64 xc, .int .i64 xr, .bool xa, .bool xb], .int .i64 pe]) ∧ Below W.heap.size W w'))
    (tp0 : (pe == 0) = false)
    (tp1 : (pe == 41) = true)
    (t40 : ((x.toNat : Int) != 40) = false)
    (h36 : ∀ W, Hid (Calls Tryz.prog 68 #[.string (bs V), .int .u8 36] W fun e w' => e = .returned (.bool true) ∧ w' = W)) :
    Calls Tryz.prog 44 #[.string (bs l), .int .i64 (i : Int)] w fun e w' => e = tokR Tk.zero 0 40 ∧ Below w.heap.size w w' := by
  have t1 : (i : Int) ≤ (k : Int) := by omega
  have t2 : (k : Int) ≤ ((bs l).size : Int) := by omega
  have HZ : ∀ W, Below (w.alloc (.cells z10 35)).heap.size (w.alloc (.cells z10 35)) W → Hid (Row W w.heap.size 35 z10 ∧ Below w.heap.size w W) := fun W hW => one_row w W _ _ hW
  unfold z10 at HZ
  have hV1 := hV.out
  go_enter Tryz.func44, Tryz.ntmps44
  go_wp2_with fail
  refine Calls.mono (h42 _).out ?_
  rintro _ w0 ⟨rfl, hw⟩
  rw [hw]
  clear hw w0
  go_wp2_with fail
  refine Calls.mono (h40 _).out ?_
  rintro _ w0 ⟨rfl, hw⟩
  rw [hw]
  clear hw w0
  go_wp2_with fail
  refine Calls.mono (h65 _).out ?_
  rintro _ w2 ⟨rfl, q2⟩
  clear h65
  obtain ⟨hZ, hB⟩ := (HZ _ q2).out
  clear q2 HZ
  have hZ := hZ.alloc (.cells #[.string xs, .int .i64 xc, .int .i64 xr, .bool xa, .bool xb] 32)
  have hB := below_allocS hB (.cells #[.string xs, .int .i64 xc, .int .i64 xr, .bool xa, .bool xb] 32)
  have HZB : Hid (Row (w2.alloc (.cells #[.string xs, .int .i64 xc, .int .i64 xr, .bool xa, .bool xb] 32)) w.heap.size 35 #[.int .i64 0, .int .i64 0, .string .empty, .int .i64 0, .int .i64 0, .string .empty, .int .i64 0, .int .i64 0, .bool false, .bool false] ∧ Below w.heap.size w (w2.alloc (.cells #[.string xs, .int .i64 xc, .int .i64 xr, .bool xa, .bool xb] 32))) := ⟨hZ, hB⟩
  clear hZ hB
  go_wp2_with fail
  refine Calls.mono (h40 _).out ?_
  rintro _ w0 ⟨rfl, hw⟩
  rw [hw]
  clear hw w0
  go_wp2_with fail
  refine Calls.mono (h36 _).out ?_
  rintro _ w0 ⟨rfl, hw⟩
  rw [hw]
  clear hw w0
  have hZ := HZB.out.1
  have hB := HZB.out.2
  clear HZB
  obtain ⟨c0, c1, c2, c3, c4, c5, c6, c7, c8, c9⟩ := hZ.ten
  have fZ := hZ.frozen
  have lZ := hZ.lt
  have hE := Row.set10 hZ (.int .i64 0) (.int .i64 0) (.string .empty) (.int .i64 0) (.int .i64 0) (.string .empty) (.int .i64 0) (.int .i64 0) (.bool false) (.bool false)
  have hF := below_set10 hB (B := w.heap.size) (Nat.le_refl _) (.int .i64 0) (.int .i64 0) (.string .empty) (.int .i64 0) (.int .i64 0) (.string .empty) (.int .i64 0) (.int .i64 0) (.bool false) (.bool false)
  clear hZ hB
  go_wp2
  exact bodyPost_ret (ret_three_b (u := 5) (u2 := 6) rfl (g := w.heap.size) rfl rfl rfl (load35 hE rfl)) rfl ⟨rfl, hF⟩
set_option maxRecDepth 100000 in
set_option maxHeartbeats 1000000 in
theorem wo_N1_41_pf (l V : List UInt8) (i k : Nat) (x : UInt8) (w : World) (hik : i ≤ k) (hk2 : k ≤ (bs l).size) (xs : ByteArray) (xc xr : Int) (xa xb : Bool) (pe : Int)
    (hV : Hid ((bs l).extract i k = bs V))
    (h42 : ∀ W, Hid (Calls Tryz.prog 42 #[.string (bs l), .int .i64 (i : Int), .bool false] W fun e w' => e = .returned (.int .i64 (k : Int)) ∧ w' = W))
    (h40 : ∀ W, Hid (Calls Tryz.prog 40 #[.string (bs l), .int .i64 (k : Int)] W fun e w' => e = .returned (.int .u8 (x.toNat : Int)) ∧ w' = W))
    (t33 : ((x.toNat : Int) == 33) = false)
    (h65 : ∀ W, Hid (Calls Tryz.prog 65 #[.string (bs V)] W fun e w' => e = .returned (.tuple #[.agg #[.string xs, .int .i64 xc, .int .i64 xr, .bool xa, .bool xb], .int .i64 pe]) ∧ Below W.heap.size W w'))
    (tp0 : (pe == 0) = false)
    (tp1 : (pe == 41) = true)
    (t40 : ((x.toNat : Int) != 40) = false)
    (h36 : ∀ W, Hid (Calls Tryz.prog 68 #[.string (bs V), .int .u8 36] W fun e w' => e = .returned (.bool false) ∧ w' = W)) :
    Calls Tryz.prog 44 #[.string (bs l), .int .i64 (i : Int)] w fun e w' => e = tokR ⟨4, (i : Int), V, 0, 0, Rf.zero⟩ k 0 ∧ Below w.heap.size w w' := by
  have t1 : (i : Int) ≤ (k : Int) := by omega
  have t2 : (k : Int) ≤ ((bs l).size : Int) := by omega
  have HZ : ∀ W, Below (w.alloc (.cells z10 35)).heap.size (w.alloc (.cells z10 35)) W → Hid (Row W w.heap.size 35 z10 ∧ Below w.heap.size w W) := fun W hW => one_row w W _ _ hW
  unfold z10 at HZ
  have hV1 := hV.out
  go_enter Tryz.func44, Tryz.ntmps44
  go_wp2_with fail
  refine Calls.mono (h42 _).out ?_
  rintro _ w0 ⟨rfl, hw⟩
  rw [hw]
  clear hw w0
  go_wp2_with fail
  refine Calls.mono (h40 _).out ?_
  rintro _ w0 ⟨rfl, hw⟩
  rw [hw]
  clear hw w0
  go_wp2_with fail
  refine Calls.mono (h65 _).out ?_
  rintro _ w2 ⟨rfl, q2⟩
  clear h65
  obtain ⟨hZ, hB⟩ := (HZ _ q2).out
  clear q2 HZ
  have hZ := hZ.alloc (.cells #[.string xs, .int .i64 xc, .int .i64 xr, .bool xa, .bool xb] 32)
  have hB := below_allocS hB (.cells #[.string xs, .int .i64 xc, .int .i64 xr, .bool xa, .bool xb] 32)
  have HZB : Hid (Row (w2.alloc (.cells #[.string xs, .int .i64 xc, .int .i64 xr, .bool xa, .bool xb] 32)) w.heap.size 35 #[.int .i64 0, .int .i64 0, .string .empty, .int .i64 0, .int .i64 0, .string .empty, .int .i64 0, .int .i64 0, .bool false, .bool false] ∧ Below w.heap.size w (w2.alloc (.cells #[.string xs, .int .i64 xc, .int .i64 xr, .bool xa, .bool xb] 32))) := ⟨hZ, hB⟩
  clear hZ hB
  go_wp2_with fail
  refine Calls.mono (h40 _).out ?_
  rintro _ w0 ⟨rfl, hw⟩
  rw [hw]
  clear hw w0
  go_wp2_with fail
  refine Calls.mono (h36 _).out ?_
  rintro _ w0 ⟨rfl, hw⟩
  rw [hw]
  clear hw w0
  have hZ := HZB.out.1
  have hB := HZB.out.2
  clear HZB
  obtain ⟨c0, c1, c2, c3, c4, c5, c6, c7, c8, c9⟩ := hZ.ten
  have fZ := hZ.frozen
  have lZ := hZ.lt
  have hE := Row.set10 hZ (.int .i64 4) (.int .i64 (i : Int)) (.string (bs V)) (.int .i64 0) (.int .i64 0) (.string .empty) (.int .i64 0) (.int .i64 0) (.bool false) (.bool false)
  have hF := below_set10 hB (B := w.heap.size) (Nat.le_refl _) (.int .i64 4) (.int .i64 (i : Int)) (.string (bs V)) (.int .i64 0) (.int .i64 0) (.string .empty) (.int .i64 0) (.int .i64 0) (.bool false) (.bool false)
  clear hZ hB
  go_wp2
  exact bodyPost_ret (ret_three_b (u := 5) (u2 := 6) rfl (g := w.heap.size) rfl rfl rfl (load35 hE rfl)) rfl ⟨rfl, hF⟩
set_option maxRecDepth 100000 in
set_option maxHeartbeats 1000000 in
theorem wo_N1_x_t (l V : List UInt8) (i k : Nat) (x : UInt8) (w : World) (hik : i ≤ k) (hk2 : k ≤ (bs l).size) (xs : ByteArray) (xc xr : Int) (xa xb : Bool) (pe : Int)
    (hV : Hid ((bs l).extract i k = bs V))
    (h42 : ∀ W, Hid (Calls Tryz.prog 42 #[.string (bs l), .int .i64 (i : Int), .bool false] W fun e w' => e = .returned (.int .i64 (k : Int)) ∧ w' = W))
    (h40 : ∀ W, Hid (Calls Tryz.prog 40 #[.string (bs l), .int .i64 (k : Int)] W fun e w' => e = .returned (.int .u8 (x.toNat : Int)) ∧ w' = W))
    (t33 : ((x.toNat : Int) == 33) = false)
    (h65 : ∀ W, Hid (Calls Tryz.prog 65 #[.string (bs V)] W fun e w' => e = .returned (.tuple #[.agg #[.string xs, .int .i64 xc, .int .i64 xr, .bool xa, .bool xb], .int .i64 pe]) ∧ Below W.heap.size W w'))
    (tp0 : (pe == 0) = false)
    (tp1 : (pe == 41) = false)
    (h36 : ∀ W, Hid (Calls Tryz.prog 68 #[.string (bs V), .int .u8 36] W fun e w' => e = .returned (.bool true) ∧ w' = W)) :
    Calls Tryz.prog 44 #[.string (bs l), .int .i64 (i : Int)] w fun e w' => e = tokR Tk.zero 0 40 ∧ Below w.heap.size w w' := by
  have t1 : (i : Int) ≤ (k : Int) := by omega
  have t2 : (k : Int) ≤ ((bs l).size : Int) := by omega
  have HZ : ∀ W, Below (w.alloc (.cells z10 35)).heap.size (w.alloc (.cells z10 35)) W → Hid (Row W w.heap.size 35 z10 ∧ Below w.heap.size w W) := fun W hW => one_row w W _ _ hW
  unfold z10 at HZ
  have hV1 := hV.out
  go_enter Tryz.func44, Tryz.ntmps44
  go_wp2_with fail
  refine Calls.mono (h42 _).out ?_
  rintro _ w0 ⟨rfl, hw⟩
  rw [hw]
  clear hw w0
  go_wp2_with fail
  refine Calls.mono (h40 _).out ?_
  rintro _ w0 ⟨rfl, hw⟩
  rw [hw]
  clear hw w0
  go_wp2_with fail
  refine Calls.mono (h65 _).out ?_
  rintro _ w2 ⟨rfl, q2⟩
  clear h65
  obtain ⟨hZ, hB⟩ := (HZ _ q2).out
  clear q2 HZ
  have hZ := hZ.alloc (.cells #[.string xs, .int .i64 xc, .int .i64 xr, .bool xa, .bool xb] 32)
  have hB := below_allocS hB (.cells #[.string xs, .int .i64 xc, .int .i64 xr, .bool xa, .bool xb] 32)
  have HZB : Hid (Row (w2.alloc (.cells #[.string xs, .int .i64 xc, .int .i64 xr, .bool xa, .bool xb] 32)) w.heap.size 35 #[.int .i64 0, .int .i64 0, .string .empty, .int .i64 0, .int .i64 0, .string .empty, .int .i64 0, .int .i64 0, .bool false, .bool false] ∧ Below w.heap.size w (w2.alloc (.cells #[.string xs, .int .i64 xc, .int .i64 xr, .bool xa, .bool xb] 32))) := ⟨hZ, hB⟩
  clear hZ hB
  go_wp2_with fail
  refine Calls.mono (h36 _).out ?_
  rintro _ w0 ⟨rfl, hw⟩
  rw [hw]
  clear hw w0
  have hZ := HZB.out.1
  have hB := HZB.out.2
  clear HZB
  obtain ⟨c0, c1, c2, c3, c4, c5, c6, c7, c8, c9⟩ := hZ.ten
  have fZ := hZ.frozen
  have lZ := hZ.lt
  have hE := Row.set10 hZ (.int .i64 0) (.int .i64 0) (.string .empty) (.int .i64 0) (.int .i64 0) (.string .empty) (.int .i64 0) (.int .i64 0) (.bool false) (.bool false)
  have hF := below_set10 hB (B := w.heap.size) (Nat.le_refl _) (.int .i64 0) (.int .i64 0) (.string .empty) (.int .i64 0) (.int .i64 0) (.string .empty) (.int .i64 0) (.int .i64 0) (.bool false) (.bool false)
  clear hZ hB
  go_wp2
  exact bodyPost_ret (ret_three_b (u := 5) (u2 := 6) rfl (g := w.heap.size) rfl rfl rfl (load35 hE rfl)) rfl ⟨rfl, hF⟩
set_option maxRecDepth 100000 in
set_option maxHeartbeats 1000000 in
theorem wo_N1_x_f (l V : List UInt8) (i k : Nat) (x : UInt8) (w : World) (hik : i ≤ k) (hk2 : k ≤ (bs l).size) (xs : ByteArray) (xc xr : Int) (xa xb : Bool) (pe : Int)
    (hV : Hid ((bs l).extract i k = bs V))
    (h42 : ∀ W, Hid (Calls Tryz.prog 42 #[.string (bs l), .int .i64 (i : Int), .bool false] W fun e w' => e = .returned (.int .i64 (k : Int)) ∧ w' = W))
    (h40 : ∀ W, Hid (Calls Tryz.prog 40 #[.string (bs l), .int .i64 (k : Int)] W fun e w' => e = .returned (.int .u8 (x.toNat : Int)) ∧ w' = W))
    (t33 : ((x.toNat : Int) == 33) = false)
    (h65 : ∀ W, Hid (Calls Tryz.prog 65 #[.string (bs V)] W fun e w' => e = .returned (.tuple #[.agg #[.string xs, .int .i64 xc, .int .i64 xr, .bool xa, .bool xb], .int .i64 pe]) ∧ Below W.heap.size W w'))
    (tp0 : (pe == 0) = false)
    (tp1 : (pe == 41) = false)
    (h36 : ∀ W, Hid (Calls Tryz.prog 68 #[.string (bs V), .int .u8 36] W fun e w' => e = .returned (.bool false) ∧ w' = W)) :
    Calls Tryz.prog 44 #[.string (bs l), .int .i64 (i : Int)] w fun e w' => e = tokR ⟨4, (i : Int), V, 0, 0, Rf.zero⟩ k 0 ∧ Below w.heap.size w w' := by
  have t1 : (i : Int) ≤ (k : Int) := by omega
  have t2 : (k : Int) ≤ ((bs l).size : Int) := by omega
  have HZ : ∀ W, Below (w.alloc (.cells z10 35)).heap.size (w.alloc (.cells z10 35)) W → Hid (Row W w.heap.size 35 z10 ∧ Below w.heap.size w W) := fun W hW => one_row w W _ _ hW
  unfold z10 at HZ
  have hV1 := hV.out
  go_enter Tryz.func44, Tryz.ntmps44
  go_wp2_with fail
  refine Calls.mono (h42 _).out ?_
  rintro _ w0 ⟨rfl, hw⟩
  rw [hw]
  clear hw w0
  go_wp2_with fail
  refine Calls.mono (h40 _).out ?_
  rintro _ w0 ⟨rfl, hw⟩
  rw [hw]
  clear hw w0
  go_wp2_with fail
  refine Calls.mono (h65 _).out ?_
  rintro _ w2 ⟨rfl, q2⟩
  clear h65
  obtain ⟨hZ, hB⟩ := (HZ _ q2).out
  clear q2 HZ
  have hZ := hZ.alloc (.cells #[.string xs, .int .i64 xc, .int .i64 xr, .bool xa, .bool xb] 32)
  have hB := below_allocS hB (.cells #[.string xs, .int .i64 xc, .int .i64 xr, .bool xa, .bool xb] 32)
  have HZB : Hid (Row (w2.alloc (.cells #[.string xs, .int .i64 xc, .int .i64 xr, .bool xa, .bool xb] 32)) w.heap.size 35 #[.int .i64 0, .int .i64 0, .string .empty, .int .i64 0, .int .i64 0, .string .empty, .int .i64 0, .int .i64 0, .bool false, .bool false] ∧ Below w.heap.size w (w2.alloc (.cells #[.string xs, .int .i64 xc, .int .i64 xr, .bool xa, .bool xb] 32))) := ⟨hZ, hB⟩
  clear hZ hB
  go_wp2_with fail
  refine Calls.mono (h36 _).out ?_
  rintro _ w0 ⟨rfl, hw⟩
  rw [hw]
  clear hw w0
  have hZ := HZB.out.1
  have hB := HZB.out.2
  clear HZB
  obtain ⟨c0, c1, c2, c3, c4, c5, c6, c7, c8, c9⟩ := hZ.ten
  have fZ := hZ.frozen
  have lZ := hZ.lt
  have hE := Row.set10 hZ (.int .i64 4) (.int .i64 (i : Int)) (.string (bs V)) (.int .i64 0) (.int .i64 0) (.string .empty) (.int .i64 0) (.int .i64 0) (.bool false) (.bool false)
  have hF := below_set10 hB (B := w.heap.size) (Nat.le_refl _) (.int .i64 4) (.int .i64 (i : Int)) (.string (bs V)) (.int .i64 0) (.int .i64 0) (.string .empty) (.int .i64 0) (.int .i64 0) (.bool false) (.bool false)
  clear hZ hB
  go_wp2
  exact bodyPost_ret (ret_three_b (u := 5) (u2 := 6) rfl (g := w.heap.size) rfl rfl rfl (load35 hE rfl)) rfl ⟨rfl, hF⟩
set_option maxRecDepth 100000 in
set_option maxHeartbeats 1000000 in
theorem wo_N2_0_R (l V : List UInt8) (i k : Nat) (x : UInt8) (w : World) (hik : i ≤ k) (hk2 : k ≤ (bs l).size) (xs : ByteArray) (xc xr : Int) (xa xb : Bool) (pe : Int) (t : Tk) (er : Int)
    (hV : Hid ((bs l).extract i k = bs V))
    (h42 : ∀ W, Hid (Calls Tryz.prog 42 #[.string (bs l), .int .i64 (i : Int), .bool false] W fun e w' => e = .returned (.int .i64 (k : Int)) ∧ w' = W))
    (h40 : ∀ W, Hid (Calls Tryz.prog 40 #[.string (bs l), .int .i64 (k : Int)] W fun e w' => e = .returned (.int .u8 (x.toNat : Int)) ∧ w' = W))
    (t33 : ((x.toNat : Int) == 33) = true)
    (h36 : ∀ W, Hid (Calls Tryz.prog 68 #[.string (bs V), .int .u8 36] W fun e w' => e = .returned (.bool true) ∧ w' = W))
    (h65 : ∀ W, Hid (Calls Tryz.prog 65 #[.string (bs V)] W fun e w' => e = .returned (.tuple #[.agg #[.string xs, .int .i64 xc, .int .i64 xr, .bool xa, .bool xb], .int .i64 pe]) ∧ Below W.heap.size W w'))
    (tp0 : (pe == 0) = true)
    (t40 : ((x.toNat : Int) != 40) = true)
    (h41 : ∀ W, Hid (Calls Tryz.prog 41 #[.string (bs l), .int .i64 (i : Int), .int .i64 (k : Int)] W fun e w' => e = tokR t k er ∧ Below W.heap.size W w')) :
    Calls Tryz.prog 44 #[.string (bs l), .int .i64 (i : Int)] w fun e w' => e = tokR t k er ∧ Below w.heap.size w w' := by
  have t1 : (i : Int) ≤ (k : Int) := by omega
  have t2 : (k : Int) ≤ ((bs l).size : Int) := by omega
  have HZ : ∀ W, Below (w.alloc (.cells z10 35)).heap.size (w.alloc (.cells z10 35)) W → Hid (Row W w.heap.size 35 z10 ∧ Below w.heap.size w W) := fun W hW => one_row w W _ _ hW
  unfold z10 at HZ
  have hV1 := hV.out
  unfold tokR Tk.v Tk.cells at h41
  go_enter Tryz.func44, Tryz.ntmps44
  go_wp2_with fail
  refine Calls.mono (h42 _).out ?_
  rintro _ w0 ⟨rfl, hw⟩
  rw [hw]
  clear hw w0
  go_wp2_with fail
  refine Calls.mono (h40 _).out ?_
  rintro _ w0 ⟨rfl, hw⟩
  rw [hw]
  clear hw w0
  go_wp2_with fail
  refine Calls.mono (h36 _).out ?_
  rintro _ w0 ⟨rfl, hw⟩
  rw [hw]
  clear hw w0
  go_wp2_with fail
  refine Calls.mono (h65 _).out ?_
  rintro _ w2 ⟨rfl, q2⟩
  clear h65
  obtain ⟨hZ, hB⟩ := (HZ _ q2).out
  clear q2 HZ
  have hZ := hZ.alloc (.cells #[.string xs, .int .i64 xc, .int .i64 xr, .bool xa, .bool xb] 32)
  have hB := below_allocS hB (.cells #[.string xs, .int .i64 xc, .int .i64 xr, .bool xa, .bool xb] 32)
  have HZB : Hid (Row (w2.alloc (.cells #[.string xs, .int .i64 xc, .int .i64 xr, .bool xa, .bool xb] 32)) w.heap.size 35 #[.int .i64 0, .int .i64 0, .string .empty, .int .i64 0, .int .i64 0, .string .empty, .int .i64 0, .int .i64 0, .bool false, .bool false] ∧ Below w.heap.size w (w2.alloc (.cells #[.string xs, .int .i64 xc, .int .i64 xr, .bool xa, .bool xb] 32))) := ⟨hZ, hB⟩
  clear hZ hB
  go_wp2_with fail
  refine Calls.mono (h40 _).out ?_
  rintro _ w0 ⟨rfl, hw⟩
  rw [hw]
  clear hw w0
  go_wp2_with fail
  refine Calls.mono (h41 _).out ?_
  rintro _ w3 ⟨rfl, q3⟩
  clear h41
  have hZ := HZB.out.1.below q3 HZB.out.1.lt
  have hB := HZB.out.2.trans (q3.mono HZB.out.2.size)
  clear q3 HZB
  obtain ⟨c0, c1, c2, c3, c4, c5, c6, c7, c8, c9⟩ := hZ.ten
  have fZ := hZ.frozen
  have lZ := hZ.lt
  have hE := Row.set10 hZ (.int .i64 t.k) (.int .i64 t.at') (.string (bs t.s)) (.int .i64 t.c) (.int .i64 t.e) (.string t.r.s) (.int .i64 t.r.c) (.int .i64 t.r.r) (.bool t.r.ac) (.bool t.r.ar)
  have hF := below_set10 hB (B := w.heap.size) (Nat.le_refl _) (.int .i64 t.k) (.int .i64 t.at') (.string (bs t.s)) (.int .i64 t.c) (.int .i64 t.e) (.string t.r.s) (.int .i64 t.r.c) (.int .i64 t.r.r) (.bool t.r.ac) (.bool t.r.ar)
  clear hZ hB
  go_wp2
  exact bodyPost_ret (ret_three_b (u := 5) (u2 := 6) rfl (g := w.heap.size) rfl rfl rfl (load35 hE rfl)) rfl ⟨rfl, hF⟩
set_option maxRecDepth 100000 in
set_option maxHeartbeats 1000000 in
theorem wo_N2_41_R (l V : List UInt8) (i k : Nat) (x : UInt8) (w : World) (hik : i ≤ k) (hk2 : k ≤ (bs l).size) (xs : ByteArray) (xc xr : Int) (xa xb : Bool) (pe : Int) (t : Tk) (er : Int)
    (hV : Hid ((bs l).extract i k = bs V))
    (h42 : ∀ W, Hid (Calls Tryz.prog 42 #[.string (bs l), .int .i64 (i : Int), .bool false] W fun e w' => e = .returned (.int .i64 (k : Int)) ∧ w' = W))
    (h40 : ∀ W, Hid (Calls Tryz.prog 40 #[.string (bs l), .int .i64 (k : Int)] W fun e w' => e = .returned (.int .u8 (x.toNat : Int)) ∧ w' = W))
    (t33 : ((x.toNat : Int) == 33) = true)
    (h36 : ∀ W, Hid (Calls Tryz.prog 68 #[.string (bs V), .int .u8 36] W fun e w' => e = .returned (.bool true) ∧ w' = W))
    (h65 : ∀ W, Hid (Calls Tryz.prog 65 #[.string (bs V)] W fun e w' => e = .returned (.tuple #[.agg #[.string xs, .int .i64 xc, .int .i64 xr, .bool xa, .bool xb], .int .i64 pe]) ∧ Below W.heap.size W w'))
    (tp0 : (pe == 0) = false)
    (tp1 : (pe == 41) = true)
    (t40 : ((x.toNat : Int) != 40) = true)
    (h41 : ∀ W, Hid (Calls Tryz.prog 41 #[.string (bs l), .int .i64 (i : Int), .int .i64 (k : Int)] W fun e w' => e = tokR t k er ∧ Below W.heap.size W w')) :
    Calls Tryz.prog 44 #[.string (bs l), .int .i64 (i : Int)] w fun e w' => e = tokR t k er ∧ Below w.heap.size w w' := by
  have t1 : (i : Int) ≤ (k : Int) := by omega
  have t2 : (k : Int) ≤ ((bs l).size : Int) := by omega
  have HZ : ∀ W, Below (w.alloc (.cells z10 35)).heap.size (w.alloc (.cells z10 35)) W → Hid (Row W w.heap.size 35 z10 ∧ Below w.heap.size w W) := fun W hW => one_row w W _ _ hW
  unfold z10 at HZ
  have hV1 := hV.out
  unfold tokR Tk.v Tk.cells at h41
  go_enter Tryz.func44, Tryz.ntmps44
  go_wp2_with fail
  refine Calls.mono (h42 _).out ?_
  rintro _ w0 ⟨rfl, hw⟩
  rw [hw]
  clear hw w0
  go_wp2_with fail
  refine Calls.mono (h40 _).out ?_
  rintro _ w0 ⟨rfl, hw⟩
  rw [hw]
  clear hw w0
  go_wp2_with fail
  refine Calls.mono (h36 _).out ?_
  rintro _ w0 ⟨rfl, hw⟩
  rw [hw]
  clear hw w0
  go_wp2_with fail
  refine Calls.mono (h65 _).out ?_
  rintro _ w2 ⟨rfl, q2⟩
  clear h65
  obtain ⟨hZ, hB⟩ := (HZ _ q2).out
  clear q2 HZ
  have hZ := hZ.alloc (.cells #[.string xs, .int .i64 xc, .int .i64 xr, .bool xa, .bool xb] 32)
  have hB := below_allocS hB (.cells #[.string xs, .int .i64 xc, .int .i64 xr, .bool xa, .bool xb] 32)
  have HZB : Hid (Row (w2.alloc (.cells #[.string xs, .int .i64 xc, .int .i64 xr, .bool xa, .bool xb] 32)) w.heap.size 35 #[.int .i64 0, .int .i64 0, .string .empty, .int .i64 0, .int .i64 0, .string .empty, .int .i64 0, .int .i64 0, .bool false, .bool false] ∧ Below w.heap.size w (w2.alloc (.cells #[.string xs, .int .i64 xc, .int .i64 xr, .bool xa, .bool xb] 32))) := ⟨hZ, hB⟩
  clear hZ hB
  go_wp2_with fail
  refine Calls.mono (h40 _).out ?_
  rintro _ w0 ⟨rfl, hw⟩
  rw [hw]
  clear hw w0
  go_wp2_with fail
  refine Calls.mono (h41 _).out ?_
  rintro _ w3 ⟨rfl, q3⟩
  clear h41
  have hZ := HZB.out.1.below q3 HZB.out.1.lt
  have hB := HZB.out.2.trans (q3.mono HZB.out.2.size)
  clear q3 HZB
  obtain ⟨c0, c1, c2, c3, c4, c5, c6, c7, c8, c9⟩ := hZ.ten
  have fZ := hZ.frozen
  have lZ := hZ.lt
  have hE := Row.set10 hZ (.int .i64 t.k) (.int .i64 t.at') (.string (bs t.s)) (.int .i64 t.c) (.int .i64 t.e) (.string t.r.s) (.int .i64 t.r.c) (.int .i64 t.r.r) (.bool t.r.ac) (.bool t.r.ar)
  have hF := below_set10 hB (B := w.heap.size) (Nat.le_refl _) (.int .i64 t.k) (.int .i64 t.at') (.string (bs t.s)) (.int .i64 t.c) (.int .i64 t.e) (.string t.r.s) (.int .i64 t.r.c) (.int .i64 t.r.r) (.bool t.r.ac) (.bool t.r.ar)
  clear hZ hB
  go_wp2
  exact bodyPost_ret (ret_three_b (u := 5) (u2 := 6) rfl (g := w.heap.size) rfl rfl rfl (load35 hE rfl)) rfl ⟨rfl, hF⟩
set_option maxRecDepth 100000 in
set_option maxHeartbeats 1000000 in
theorem wo_N2_x_t (l V : List UInt8) (i k : Nat) (x : UInt8) (w : World) (hik : i ≤ k) (hk2 : k ≤ (bs l).size) (xs : ByteArray) (xc xr : Int) (xa xb : Bool) (pe : Int)
    (hV : Hid ((bs l).extract i k = bs V))
    (h42 : ∀ W, Hid (Calls Tryz.prog 42 #[.string (bs l), .int .i64 (i : Int), .bool false] W fun e w' => e = .returned (.int .i64 (k : Int)) ∧ w' = W))
    (h40 : ∀ W, Hid (Calls Tryz.prog 40 #[.string (bs l), .int .i64 (k : Int)] W fun e w' => e = .returned (.int .u8 (x.toNat : Int)) ∧ w' = W))
    (t33 : ((x.toNat : Int) == 33) = true)
    (h36 : ∀ W, Hid (Calls Tryz.prog 68 #[.string (bs V), .int .u8 36] W fun e w' => e = .returned (.bool true) ∧ w' = W))
    (h65 : ∀ W, Hid (Calls Tryz.prog 65 #[.string (bs V)] W fun e w' => e = .returned (.tuple #[.agg #[.string xs, .int .i64 xc, .int .i64 xr, .bool xa, .bool xb], .int .i64 pe]) ∧ Below W.heap.size W w'))
    (tp0 : (pe == 0) = false)
    (tp1 : (pe == 41) = false) :
    Calls Tryz.prog 44 #[.string (bs l), .int .i64 (i : Int)] w fun e w' => e = tokR Tk.zero 0 40 ∧ Below w.heap.size w w' := by
  have t1 : (i : Int) ≤ (k : Int) := by omega
  have t2 : (k : Int) ≤ ((bs l).size : Int) := by omega
  have HZ : ∀ W, Below (w.alloc (.cells z10 35)).heap.size (w.alloc (.cells z10 35)) W → Hid (Row W w.heap.size 35 z10 ∧ Below w.heap.size w W) := fun W hW => one_row w W _ _ hW
  unfold z10 at HZ
  have hV1 := hV.out
  go_enter Tryz.func44, Tryz.ntmps44
  go_wp2_with fail
  refine Calls.mono (h42 _).out ?_
  rintro _ w0 ⟨rfl, hw⟩
  rw [hw]
  clear hw w0
  go_wp2_with fail
  refine Calls.mono (h40 _).out ?_
  rintro _ w0 ⟨rfl, hw⟩
  rw [hw]
  clear hw w0
  go_wp2_with fail
  refine Calls.mono (h36 _).out ?_
  rintro _ w0 ⟨rfl, hw⟩
  rw [hw]
  clear hw w0
  go_wp2_with fail
  refine Calls.mono (h65 _).out ?_
  rintro _ w2 ⟨rfl, q2⟩
  clear h65
  obtain ⟨hZ, hB⟩ := (HZ _ q2).out
  clear q2 HZ
  have hZ := hZ.alloc (.cells #[.string xs, .int .i64 xc, .int .i64 xr, .bool xa, .bool xb] 32)
  have hB := below_allocS hB (.cells #[.string xs, .int .i64 xc, .int .i64 xr, .bool xa, .bool xb] 32)
  have HZB : Hid (Row (w2.alloc (.cells #[.string xs, .int .i64 xc, .int .i64 xr, .bool xa, .bool xb] 32)) w.heap.size 35 #[.int .i64 0, .int .i64 0, .string .empty, .int .i64 0, .int .i64 0, .string .empty, .int .i64 0, .int .i64 0, .bool false, .bool false] ∧ Below w.heap.size w (w2.alloc (.cells #[.string xs, .int .i64 xc, .int .i64 xr, .bool xa, .bool xb] 32))) := ⟨hZ, hB⟩
  clear hZ hB
  go_wp2_with fail
  refine Calls.mono (h36 _).out ?_
  rintro _ w0 ⟨rfl, hw⟩
  rw [hw]
  clear hw w0
  have hZ := HZB.out.1
  have hB := HZB.out.2
  clear HZB
  obtain ⟨c0, c1, c2, c3, c4, c5, c6, c7, c8, c9⟩ := hZ.ten
  have fZ := hZ.frozen
  have lZ := hZ.lt
  have hE := Row.set10 hZ (.int .i64 0) (.int .i64 0) (.string .empty) (.int .i64 0) (.int .i64 0) (.string .empty) (.int .i64 0) (.int .i64 0) (.bool false) (.bool false)
  have hF := below_set10 hB (B := w.heap.size) (Nat.le_refl _) (.int .i64 0) (.int .i64 0) (.string .empty) (.int .i64 0) (.int .i64 0) (.string .empty) (.int .i64 0) (.int .i64 0) (.bool false) (.bool false)
  clear hZ hB
  go_wp2
  exact bodyPost_ret (ret_three_b (u := 5) (u2 := 6) rfl (g := w.heap.size) rfl rfl rfl (load35 hE rfl)) rfl ⟨rfl, hF⟩
set_option maxRecDepth 100000 in
set_option maxHeartbeats 1000000 in
theorem wo_N3_0_R (l V : List UInt8) (i k : Nat) (x : UInt8) (w : World) (hik : i ≤ k) (hk2 : k ≤ (bs l).size) (xs : ByteArray) (xc xr : Int) (xa xb : Bool) (pe : Int) (t : Tk) (er : Int)
    (hV : Hid ((bs l).extract i k = bs V))
    (h42 : ∀ W, Hid (Calls Tryz.prog 42 #[.string (bs l), .int .i64 (i : Int), .bool false] W fun e w' => e = .returned (.int .i64 (k : Int)) ∧ w' = W))
    (h40 : ∀ W, Hid (Calls Tryz.prog 40 #[.string (bs l), .int .i64 (k : Int)] W fun e w' => e = .returned (.int .u8 (x.toNat : Int)) ∧ w' = W))
    (t33 : ((x.toNat : Int) == 33) = true)
    (h36 : ∀ W, Hid (Calls Tryz.prog 68 #[.string (bs V), .int .u8 36] W fun e w' => e = .returned (.bool false) ∧ w' = W))
    (h46 : ∀ W, Hid (Calls Tryz.prog 68 #[.string (bs V), .int .u8 46] W fun e w' => e = .returned (.bool true) ∧ w' = W))
    (h65 : ∀ W, Hid (Calls Tryz.prog 65 #[.string (bs V)] W fun e w' => e = .returned (.tuple #[.agg #[.string xs, .int .i64 xc, .int .i64 xr, .bool xa, .bool xb], .int .i64 pe]) ∧ Below W.heap.size W w'))
    (tp0 : (pe == 0) = true)
    (t40 : ((x.toNat : Int) != 40) = true)
    (h41 : ∀ W, Hid (Calls Tryz.prog 41 #[.string (bs l), .int .i64 (i : Int), .int .i64 (k : Int)] W fun e w' => e = tokR t k er ∧ Below W.heap.size W w')) :
    Calls Tryz.prog 44 #[.string (bs l), .int .i64 (i : Int)] w fun e w' => e = tokR t k er ∧ Below w.heap.size w w' := by
  have t1 : (i : Int) ≤ (k : Int) := by omega
  have t2 : (k : Int) ≤ ((bs l).size : Int) := by omega
  have HZ : ∀ W, Below (w.alloc (.cells z10 35)).heap.size (w.alloc (.cells z10 35)) W → Hid (Row W w.heap.size 35 z10 ∧ Below w.heap.size w W) := fun W hW => one_row w W _ _ hW
  unfold z10 at HZ
  have hV1 := hV.out
  unfold tokR Tk.v Tk.cells at h41
  go_enter Tryz.func44, Tryz.ntmps44
  go_wp2_with fail
  refine Calls.mono (h42 _).out ?_
  rintro _ w0 ⟨rfl, hw⟩
  rw [hw]
  clear hw w0
  go_wp2_with fail
  refine Calls.mono (h40 _).out ?_
  rintro _ w0 ⟨rfl, hw⟩
  rw [hw]
  clear hw w0
  go_wp2_with fail
  refine Calls.mono (h36 _).out ?_
  rintro _ w0 ⟨rfl, hw⟩
  rw [hw]
  clear hw w0
  go_wp2_with fail
  refine Calls.mono (h46 _).out ?_
  rintro _ w0 ⟨rfl, hw⟩
  rw [hw]
  clear hw w0
  go_wp2_with fail
  refine Calls.mono (h65 _).out ?_
  rintro _ w2 ⟨rfl, q2⟩
  clear h65
  obtain ⟨hZ, hB⟩ := (HZ _ q2).out
  clear q2 HZ
  have hZ := hZ.alloc (.cells #[.string xs, .int .i64 xc, .int .i64 xr, .bool xa, .bool xb] 32)
  have hB := below_allocS hB (.cells #[.string xs, .int .i64 xc, .int .i64 xr, .bool xa, .bool xb] 32)
  have HZB : Hid (Row (w2.alloc (.cells #[.string xs, .int .i64 xc, .int .i64 xr, .bool xa, .bool xb] 32)) w.heap.size 35 #[.int .i64 0, .int .i64 0, .string .empty, .int .i64 0, .int .i64 0, .string .empty, .int .i64 0, .int .i64 0, .bool false, .bool false] ∧ Below w.heap.size w (w2.alloc (.cells #[.string xs, .int .i64 xc, .int .i64 xr, .bool xa, .bool xb] 32))) := ⟨hZ, hB⟩
  clear hZ hB
  go_wp2_with fail
  refine Calls.mono (h40 _).out ?_
  rintro _ w0 ⟨rfl, hw⟩
  rw [hw]
  clear hw w0
  go_wp2_with fail
  refine Calls.mono (h41 _).out ?_
  rintro _ w3 ⟨rfl, q3⟩
  clear h41
  have hZ := HZB.out.1.below q3 HZB.out.1.lt
  have hB := HZB.out.2.trans (q3.mono HZB.out.2.size)
  clear q3 HZB
  obtain ⟨c0, c1, c2, c3, c4, c5, c6, c7, c8, c9⟩ := hZ.ten
  have fZ := hZ.frozen
  have lZ := hZ.lt
  have hE := Row.set10 hZ (.int .i64 t.k) (.int .i64 t.at') (.string (bs t.s)) (.int .i64 t.c) (.int .i64 t.e) (.string t.r.s) (.int .i64 t.r.c) (.int .i64 t.r.r) (.bool t.r.ac) (.bool t.r.ar)
  have hF := below_set10 hB (B := w.heap.size) (Nat.le_refl _) (.int .i64 t.k) (.int .i64 t.at') (.string (bs t.s)) (.int .i64 t.c) (.int .i64 t.e) (.string t.r.s) (.int .i64 t.r.c) (.int .i64 t.r.r) (.bool t.r.ac) (.bool t.r.ar)
  clear hZ hB
  go_wp2
  exact bodyPost_ret (ret_three_b (u := 5) (u2 := 6) rfl (g := w.heap.size) rfl rfl rfl (load35 hE rfl)) rfl ⟨rfl, hF⟩
set_option maxRecDepth 100000 in
set_option maxHeartbeats 1000000 in
theorem wo_N3_41_R (l V : List UInt8) (i k : Nat) (x : UInt8) (w : World) (hik : i ≤ k) (hk2 : k ≤ (bs l).size) (xs : ByteArray) (xc xr : Int) (xa xb : Bool) (pe : Int) (t : Tk) (er : Int)
    (hV : Hid ((bs l).extract i k = bs V))
    (h42 : ∀ W, Hid (Calls Tryz.prog 42 #[.string (bs l), .int .i64 (i : Int), .bool false] W fun e w' => e = .returned (.int .i64 (k : Int)) ∧ w' = W))
    (h40 : ∀ W, Hid (Calls Tryz.prog 40 #[.string (bs l), .int .i64 (k : Int)] W fun e w' => e = .returned (.int .u8 (x.toNat : Int)) ∧ w' = W))
    (t33 : ((x.toNat : Int) == 33) = true)
    (h36 : ∀ W, Hid (Calls Tryz.prog 68 #[.string (bs V), .int .u8 36] W fun e w' => e = .returned (.bool false) ∧ w' = W))
    (h46 : ∀ W, Hid (Calls Tryz.prog 68 #[.string (bs V), .int .u8 46] W fun e w' => e = .returned (.bool true) ∧ w' = W))
    (h65 : ∀ W, Hid (Calls Tryz.prog 65 #[.string (bs V)] W fun e w' => e = .returned (.tuple #[.agg #[.string xs, .int .i64 xc, .int .i64 xr, .bool xa, .bool xb], .int .i64 pe]) ∧ Below W.heap.size W w'))
    (tp0 : (pe == 0) = false)
    (tp1 : (pe == 41) = true)
    (t40 : ((x.toNat : Int) != 40) = true)
    (h41 : ∀ W, Hid (Calls Tryz.prog 41 #[.string (bs l), .int .i64 (i : Int), .int .i64 (k : Int)] W fun e w' => e = tokR t k er ∧ Below W.heap.size W w')) :
    Calls Tryz.prog 44 #[.string (bs l), .int .i64 (i : Int)] w fun e w' => e = tokR t k er ∧ Below w.heap.size w w' := by
  have t1 : (i : Int) ≤ (k : Int) := by omega
  have t2 : (k : Int) ≤ ((bs l).size : Int) := by omega
  have HZ : ∀ W, Below (w.alloc (.cells z10 35)).heap.size (w.alloc (.cells z10 35)) W → Hid (Row W w.heap.size 35 z10 ∧ Below w.heap.size w W) := fun W hW => one_row w W _ _ hW
  unfold z10 at HZ
  have hV1 := hV.out
  unfold tokR Tk.v Tk.cells at h41
  go_enter Tryz.func44, Tryz.ntmps44
  go_wp2_with fail
  refine Calls.mono (h42 _).out ?_
  rintro _ w0 ⟨rfl, hw⟩
  rw [hw]
  clear hw w0
  go_wp2_with fail
  refine Calls.mono (h40 _).out ?_
  rintro _ w0 ⟨rfl, hw⟩
  rw [hw]
  clear hw w0
  go_wp2_with fail
  refine Calls.mono (h36 _).out ?_
  rintro _ w0 ⟨rfl, hw⟩
  rw [hw]
  clear hw w0
  go_wp2_with fail
  refine Calls.mono (h46 _).out ?_
  rintro _ w0 ⟨rfl, hw⟩
  rw [hw]
  clear hw w0
  go_wp2_with fail
  refine Calls.mono (h65 _).out ?_
  rintro _ w2 ⟨rfl, q2⟩
  clear h65
  obtain ⟨hZ, hB⟩ := (HZ _ q2).out
  clear q2 HZ
  have hZ := hZ.alloc (.cells #[.string xs, .int .i64 xc, .int .i64 xr, .bool xa, .bool xb] 32)
  have hB := below_allocS hB (.cells #[.string xs, .int .i64 xc, .int .i64 xr, .bool xa, .bool xb] 32)
  have HZB : Hid (Row (w2.alloc (.cells #[.string xs, .int .i64 xc, .int .i64 xr, .bool xa, .bool xb] 32)) w.heap.size 35 #[.int .i64 0, .int .i64 0, .string .empty, .int .i64 0, .int .i64 0, .string .empty, .int .i64 0, .int .i64 0, .bool false, .bool false] ∧ Below w.heap.size w (w2.alloc (.cells #[.string xs, .int .i64 xc, .int .i64 xr, .bool xa, .bool xb] 32))) := ⟨hZ, hB⟩
  clear hZ hB
  go_wp2_with fail
  refine Calls.mono (h40 _).out ?_
  rintro _ w0 ⟨rfl, hw⟩
  rw [hw]
  clear hw w0
  go_wp2_with fail
  refine Calls.mono (h41 _).out ?_
  rintro _ w3 ⟨rfl, q3⟩
  clear h41
  have hZ := HZB.out.1.below q3 HZB.out.1.lt
  have hB := HZB.out.2.trans (q3.mono HZB.out.2.size)
  clear q3 HZB
  obtain ⟨c0, c1, c2, c3, c4, c5, c6, c7, c8, c9⟩ := hZ.ten
  have fZ := hZ.frozen
  have lZ := hZ.lt
  have hE := Row.set10 hZ (.int .i64 t.k) (.int .i64 t.at') (.string (bs t.s)) (.int .i64 t.c) (.int .i64 t.e) (.string t.r.s) (.int .i64 t.r.c) (.int .i64 t.r.r) (.bool t.r.ac) (.bool t.r.ar)
  have hF := below_set10 hB (B := w.heap.size) (Nat.le_refl _) (.int .i64 t.k) (.int .i64 t.at') (.string (bs t.s)) (.int .i64 t.c) (.int .i64 t.e) (.string t.r.s) (.int .i64 t.r.c) (.int .i64 t.r.r) (.bool t.r.ac) (.bool t.r.ar)
  clear hZ hB
  go_wp2
  exact bodyPost_ret (ret_three_b (u := 5) (u2 := 6) rfl (g := w.heap.size) rfl rfl rfl (load35 hE rfl)) rfl ⟨rfl, hF⟩
set_option maxRecDepth 100000 in
set_option maxHeartbeats 1000000 in
theorem wo_N3_x_f (l V : List UInt8) (i k : Nat) (x : UInt8) (w : World) (hik : i ≤ k) (hk2 : k ≤ (bs l).size) (xs : ByteArray) (xc xr : Int) (xa xb : Bool) (pe : Int)
    (hV : Hid ((bs l).extract i k = bs V))
    (h42 : ∀ W, Hid (Calls Tryz.prog 42 #[.string (bs l), .int .i64 (i : Int), .bool false] W fun e w' => e = .returned (.int .i64 (k : Int)) ∧ w' = W))
    (h40 : ∀ W, Hid (Calls Tryz.prog 40 #[.string (bs l), .int .i64 (k : Int)] W fun e w' => e = .returned (.int .u8 (x.toNat : Int)) ∧ w' = W))
    (t33 : ((x.toNat : Int) == 33) = true)
    (h36 : ∀ W, Hid (Calls Tryz.prog 68 #[.string (bs V), .int .u8 36] W fun e w' => e = .returned (.bool false) ∧ w' = W))
    (h46 : ∀ W, Hid (Calls Tryz.prog 68 #[.string (bs V), .int .u8 46] W fun e w' => e = .returned (.bool true) ∧ w' = W))
    (h65 : ∀ W, Hid (Calls Tryz.prog 65 #[.string (bs V)] W fun e w' => e = .returned (.tuple #[.agg #[.string xs, .int .i64 xc, .int .i64 xr, .bool xa, .bool xb], .int .i64 pe]) ∧ Below W.heap.size W w'))
    (tp0 : (pe == 0) = false)
    (tp1 : (pe == 41) = false) :
    Calls Tryz.prog 44 #[.string (bs l), .int .i64 (i : Int)] w fun e w' => e = tokR ⟨4, (i : Int), V, 0, 0, Rf.zero⟩ k 0 ∧ Below w.heap.size w w' := by
  have t1 : (i : Int) ≤ (k : Int) := by omega
  have t2 : (k : Int) ≤ ((bs l).size : Int) := by omega
  have HZ : ∀ W, Below (w.alloc (.cells z10 35)).heap.size (w.alloc (.cells z10 35)) W → Hid (Row W w.heap.size 35 z10 ∧ Below w.heap.size w W) := fun W hW => one_row w W _ _ hW
  unfold z10 at HZ
  have hV1 := hV.out
  go_enter Tryz.func44, Tryz.ntmps44
  go_wp2_with fail
  refine Calls.mono (h42 _).out ?_
  rintro _ w0 ⟨rfl, hw⟩
  rw [hw]
  clear hw w0
  go_wp2_with fail
  refine Calls.mono (h40 _).out ?_
  rintro _ w0 ⟨rfl, hw⟩
  rw [hw]
  clear hw w0
  go_wp2_with fail
  refine Calls.mono (h36 _).out ?_
  rintro _ w0 ⟨rfl, hw⟩
  rw [hw]
  clear hw w0
  go_wp2_with fail
  refine Calls.mono (h46 _).out ?_
  rintro _ w0 ⟨rfl, hw⟩
  rw [hw]
  clear hw w0
  go_wp2_with fail
  refine Calls.mono (h65 _).out ?_
  rintro _ w2 ⟨rfl, q2⟩
  clear h65
  obtain ⟨hZ, hB⟩ := (HZ _ q2).out
  clear q2 HZ
  have hZ := hZ.alloc (.cells #[.string xs, .int .i64 xc, .int .i64 xr, .bool xa, .bool xb] 32)
  have hB := below_allocS hB (.cells #[.string xs, .int .i64 xc, .int .i64 xr, .bool xa, .bool xb] 32)
  have HZB : Hid (Row (w2.alloc (.cells #[.string xs, .int .i64 xc, .int .i64 xr, .bool xa, .bool xb] 32)) w.heap.size 35 #[.int .i64 0, .int .i64 0, .string .empty, .int .i64 0, .int .i64 0, .string .empty, .int .i64 0, .int .i64 0, .bool false, .bool false] ∧ Below w.heap.size w (w2.alloc (.cells #[.string xs, .int .i64 xc, .int .i64 xr, .bool xa, .bool xb] 32))) := ⟨hZ, hB⟩
  clear hZ hB
  go_wp2_with fail
  refine Calls.mono (h36 _).out ?_
  rintro _ w0 ⟨rfl, hw⟩
  rw [hw]
  clear hw w0
  have hZ := HZB.out.1
  have hB := HZB.out.2
  clear HZB
  obtain ⟨c0, c1, c2, c3, c4, c5, c6, c7, c8, c9⟩ := hZ.ten
  have fZ := hZ.frozen
  have lZ := hZ.lt
  have hE := Row.set10 hZ (.int .i64 4) (.int .i64 (i : Int)) (.string (bs V)) (.int .i64 0) (.int .i64 0) (.string .empty) (.int .i64 0) (.int .i64 0) (.bool false) (.bool false)
  have hF := below_set10 hB (B := w.heap.size) (Nat.le_refl _) (.int .i64 4) (.int .i64 (i : Int)) (.string (bs V)) (.int .i64 0) (.int .i64 0) (.string .empty) (.int .i64 0) (.int .i64 0) (.bool false) (.bool false)
  clear hZ hB
  go_wp2
  exact bodyPost_ret (ret_three_b (u := 5) (u2 := 6) rfl (g := w.heap.size) rfl rfl rfl (load35 hE rfl)) rfl ⟨rfl, hF⟩
end Go.Proofs.YtgihginfegckcaaGreatDoor
