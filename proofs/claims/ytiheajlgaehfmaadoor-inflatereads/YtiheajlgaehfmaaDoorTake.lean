import Derived.Test.YtiheajlgaehfmaaDoorStr
import Derived.Test.YtiheajlgaehfmaaDoorMem
import Derived.Stop.RegionWithIn
/- Take: the reader hands out the next n bits as a number. -/
namespace Go.Proofs.YtiheajlgaehfmaaDoor
open Go.RowKit Go.Shelf

attribute [local go_sem] Oper.semAt_some

/-- A region's end: it runs through, the frame is A, the world W. -/
def regPost (A : Act) (W : World) : Exit → Act → World → Prop
  | .normal, a, w => a = A ∧ w = W
  | _, _, _ => False

def orStep (v i : Nat) (b : Int) : Nat := v ||| b.toNat * 2 ^ (min i 32) % 4294967296
def orFold : List (Nat × Bit) → Nat := List.foldl (fun v x => orStep v x.1 x.2.1) 0
theorem orFold_snoc (pre : List (Nat × Bit)) (x : Nat × Bit) : orFold (pre ++ [x]) = orStep (orFold pre) x.1 x.2.1 := by simp [orFold]
theorem orStep_lt (v i : Nat) (b : Int) (h : v < 4294967296) : orStep v i b < 4294967296 := Nat.or_lt_two_pow (n := 32) h (Nat.mod_lt _ (by omega))
theorem orFold_lt (pre : List (Nat × Bit)) : orFold pre < 4294967296 := by
  unfold orFold
  have : ∀ (l : List (Nat × Bit)) (s : Nat), s < 4294967296 → List.foldl (fun v x => orStep v x.1 x.2.1) s l < 4294967296 := by
    intro l
    induction l with
    | nil => exact fun s h => h
    | cons x l ih => exact fun s h => ih _ (orStep_lt s _ _ h)
  exact this pre _ (by omega)
theorem orStep_walk (v i : Nat) (b : Int) (hv : v < 4294967296) (hb : 0 ≤ b) :
    bits .or .u32 (v : Int) (IntKind.u32.wrap (b * 2 ^ min i 32)) = (orStep v i b : Int) := by
  obtain ⟨B, rfl⟩ := Int.eq_ofNat_of_zero_le hb
  have e : IntKind.u32.wrap ((B : Int) * 2 ^ min i 32) = ((B * 2 ^ min i 32 % 4294967296 : Nat) : Int) := by
    rw [IntKind.wrap_u32']
    simp
  have hm : B * 2 ^ min i 32 % 4294967296 < 4294967296 := Nat.mod_lt _ (by omega)
  unfold orStep
  rw [e, Int.toNat_natCast]
  generalize B * 2 ^ min i 32 % 4294967296 = q at hm
  rw [u32_or _ _ (by omega) (by omega) (by omega) (by omega), Int.toNat_natCast, Int.toNat_natCast]

set_option maxRecDepth 100000 in
set_option maxHeartbeats 2000000 in
theorem take_in (D : Nat → Prop) (R : Nat) (g : Option Addr) (c pos n : Nat) (zs : List Int) (hz : AreBytes zs) (hl : zs.length ≤ 140737488351232) (w : World) (hD : ∀ k, D k → k < w.heap.size) (hDR : ¬ D R) (h2 : Two w R 63 (.slice g zs.length c) (.int .i64 pos))
    (hI : BytesIn D w (.slice g zs.length c) zs) (hn : n ≤ 32) (hp : pos + n ≤ 8 * zs.length) :
    CallsIn Fence.wide 6 Tryd.prog 46 #[.pointer (some ⟨R, 0, none⟩), .int .i64 n] w fun e W' => e = .returned (.tuple #[.int .u32 (orFold (upto (bitF zs pos) n)), .int .i64 0]) ∧ Two W' R 63 (.slice g zs.length c) (.int .i64 ((pos + n : Nat) : Int)) ∧ Kept D w W' := by
  have hmx : Tryd.prog.follows .mixedOrders = true := by kernel_rfl
  have hRlt := h2.lt
  have c0 := h2.cell0
  have c1 := h2.cell1
  refine callsIn_of_wp_marks Tryd.func46 rfl trivial ?_ rfl
  simp only [Tryd.ntmps46, List.size_toArray, List.length_cons, List.length_nil, Nat.reduceAdd, Nat.reduceSub, Array.replicate_succ, Array.replicate_zero, List.push_toArray, List.append_toArray, List.nil_append, List.cons_append]
  have t1 : decide ((n : Int) < 0) = false := by simp
  have t2 : decide (32 < (n : Int)) = false := by simp; omega
  have t3 : decide ((8 : Int) * zs.length - pos < n) = false := by simp; omega
  gi_wp2_with (refine ⟨trivial, ?_⟩; gi_at_call 22; refine (callsIn_wide.2 (left_any R g zs.length c pos w (by omega) (by omega) h2)).mono ?_; rintro e wq ⟨rfl, nq, hwq⟩; have hq2 : Two wq R 63 (.slice g zs.length c) (.int .i64 pos) := hwq ▸ h2.drewN nq; have hqs : wq.heap.size = w.heap.size := hwq ▸ rfl; have HQ : Hid (wq = w.drewN nq) := hwq; clear hwq; have d0 := (hq2.alloc (.cells #[.int .u32 0] 51)).cell0; have d1 := (hq2.alloc (.cells #[.int .u32 0] 51)).cell1)
  refine wpIn_mono (Q := regPost { tmps := #[.pointer (some ⟨R, 0, none⟩), .int .i64 n, undef, undef, .int .u32 0, .int .i64 0, .pointer (some ⟨w.heap.size, 0, none⟩), undef, undef, .pointer (some ⟨R, 0, none⟩), .bool false, .int .i64 n, .bool false, .bool false, .int .i64 n, .bool false, .bool false, .int .i64 n, .pointer (some ⟨R, 0, none⟩), .int .i64 (8 * zs.length - pos), .bool false, .pointer (some ⟨R, 0, none⟩), .pointer (some ⟨R, 0, none⟩), .pointer (some ⟨R, 0, none⟩), .slice g zs.length c, .pointer (some ⟨R, 0, none⟩), .pointer (some ⟨R, 0, none⟩), .pointer (some ⟨R, 1, none⟩), .int .i64 pos, .int .i64 n, .func (.func 80) #[] #[.pointer (some ⟨w.heap.size + 1 + 1 + 1, 0, none⟩), .pointer (some ⟨w.heap.size + 1 + 1, 0, none⟩), .pointer (some ⟨w.heap.size + 1, 0, none⟩)], undef, undef, undef, undef, undef, undef, undef, undef, undef, undef, undef, undef, undef, undef, undef, undef], defers := [] }
    ((((wq.alloc (.cells #[.int .u32 0] 51)).alloc (.cells #[.slice g zs.length c] 22)).alloc (.cells #[.int .i64 pos] 3)).alloc (.cells #[.int .i64 n] 3)).drew) ?reg ?rest
  case reg =>
    gi_region_with_o (first | (refine ⟨trivial, ?_⟩; gi_at_call 67; refine (stretch_in Fence.wide _ trivial rfl _ _ _ _ _ _).mono ?_; rintro e w' ⟨rfl, rfl⟩) | (gi_at_call 67; refine (stretch_in Fence.wide _ trivial rfl _ _ _ _ _ _).mono ?_; rintro e w' ⟨rfl, rfl⟩))
    all_goals exact ⟨rfl, rfl⟩
  case rest =>
    intro e a' w' hq
    cases e <;> simp only [regPost] at hq
    obtain ⟨rfl, rfl⟩ := hq
    gi_wp2
    have hB0 : Below w.heap.size w ((((wq.alloc (.cells #[.int .u32 0] 51)).alloc (.cells #[.slice g zs.length c] 22)).alloc (.cells #[.int .i64 pos] 3)).alloc (.cells #[.int .i64 n] 3)).drew := by
      have hb : Below w.heap.size w wq := by rw [HQ.out]; exact ⟨rfl, rfl, rfl, Nat.le_refl _, fun _ _ => rfl⟩
      exact ((((hb.alloc (by omega) _).alloc (by simp; omega) _).alloc (by simp; omega) _).alloc (by simp; omega) _).drew
    have b0 := Boxed.new wq 51 (.int .u32 0)
    have b1 := Boxed.new (wq.alloc (.cells #[.int .u32 0] 51)) 22 (.slice g zs.length c)
    have b2 := Boxed.new ((wq.alloc (.cells #[.int .u32 0] 51)).alloc (.cells #[.slice g zs.length c] 22)) 3 (.int .i64 pos)
    have b3 := Boxed.new (((wq.alloc (.cells #[.int .u32 0] 51)).alloc (.cells #[.slice g zs.length c] 22)).alloc (.cells #[.int .i64 pos] 3)) 3 (.int .i64 n)
    simp only [World.size_alloc, hqs] at b0 b1 b2 b3
    have q0 : Boxed ((((wq.alloc (.cells #[.int .u32 0] 51)).alloc (.cells #[.slice g zs.length c] 22)).alloc (.cells #[.int .i64 pos] 3)).alloc (.cells #[.int .i64 n] 3)).drew w.heap.size 51 (.int .u32 0) := ((b0.alloc (.cells #[.slice g zs.length c] 22)).alloc (.cells #[.int .i64 pos] 3)).alloc (.cells #[.int .i64 n] 3)
    have q1 : Boxed ((((wq.alloc (.cells #[.int .u32 0] 51)).alloc (.cells #[.slice g zs.length c] 22)).alloc (.cells #[.int .i64 pos] 3)).alloc (.cells #[.int .i64 n] 3)).drew (w.heap.size + 1) 22 (.slice g zs.length c) := (b1.alloc (.cells #[.int .i64 pos] 3)).alloc (.cells #[.int .i64 n] 3)
    have q2 : Boxed ((((wq.alloc (.cells #[.int .u32 0] 51)).alloc (.cells #[.slice g zs.length c] 22)).alloc (.cells #[.int .i64 pos] 3)).alloc (.cells #[.int .i64 n] 3)).drew (w.heap.size + 1 + 1) 3 (.int .i64 pos) := b2.alloc (.cells #[.int .i64 n] 3)
    have q3 : Boxed ((((wq.alloc (.cells #[.int .u32 0] 51)).alloc (.cells #[.slice g zs.length c] 22)).alloc (.cells #[.int .i64 pos] 3)).alloc (.cells #[.int .i64 n] 3)).drew (w.heap.size + 1 + 1 + 1) 3 (.int .i64 n) := b3
    have hsz : ((((wq.alloc (.cells #[.int .u32 0] 51)).alloc (.cells #[.slice g zs.length c] 22)).alloc (.cells #[.int .i64 pos] 3)).alloc (.cells #[.int .i64 n] 3)).drew.heap.size = w.heap.size + 4 := by
      show ((((wq.alloc (.cells #[.int .u32 0] 51)).alloc (.cells #[.slice g zs.length c] 22)).alloc (.cells #[.int .i64 pos] 3)).alloc (.cells #[.int .i64 n] 3)).heap.size = _
      simp [hqs]
    generalize ((((wq.alloc (.cells #[.int .u32 0] 51)).alloc (.cells #[.slice g zs.length c] 22)).alloc (.cells #[.int .i64 pos] 3)).alloc (.cells #[.int .i64 n] 3)).drew = Wl at hB0 q0 q1 q2 q3 hsz ⊢
    clear b0 b1 b2 b3 d0 d1 hq2 hqs HQ c0 c1 t1 t2 t3
    have hIb : BytesIn (fun k => k < w.heap.size + 4 ∧ k ≠ w.heap.size) Wl (.slice g zs.length c) zs :=
      (hI.kept (Kept.of_below hB0 hD)).mono (fun k hk => by have := hD k hk; exact ⟨by omega, by omega⟩)
    refine wpIn_rangeFunc_ownG (F := Fence.wide) rfl (by omega) (gf := 80) (lb := #[.pointer (some ⟨w.heap.size + 1 + 1 + 1, 0, none⟩), .pointer (some ⟨w.heap.size + 1 + 1, 0, none⟩), .pointer (some ⟨w.heap.size + 1, 0, none⟩)]) rfl trivial (enters_of Tryd.func80 (by kernel_rfl) rfl)
      (str_stops Fence.wide (6 - 1) trivial rfl (by omega) (w.heap.size + 1) (fun k => k < w.heap.size + 4 ∧ k ≠ w.heap.size) pos n _ zs hp (by omega) hz ⟨by omega, by omega⟩ ⟨by omega, by omega⟩ Wl (fun k hk => by omega) (by omega) q1.cell q2.cell q3.cell hIb)
      Kept.trans (keptK_b (fun k hk => by omega)) (Below.refl _ _) (fun _ => rfl)
      (fun pre W => (W.cell? ⟨w.heap.size, 0, none⟩ = some (.int .u32 (orFold pre)) ∧ W.frozen? ⟨w.heap.size, 0, none⟩ = false) ∧ Below w.heap.size w W)
      (fun _ _ _ => False)
      (OwnFrom.and (Own.from (fun s A B row hs hg hr => ⟨cell_kept hs.1 hg hr, (frozen_kept hs.1 hg hr).trans hs.2⟩) _) (ownFrom_below (Nat.le_refl _) (by omega)))
      (fun _ _ _ _ _ hs _ _ => hs)
      ⟨⟨q0.cell, q0.frozen⟩, hB0⟩
      (fun x => { tmps := #[.pointer (some ⟨R, 0, none⟩), .int .i64 n, undef, undef, .int .u32 0, .int .i64 0, .pointer (some ⟨w.heap.size, 0, none⟩), .int .i64 x.1, .int .u32 x.2.1, .pointer (some ⟨R, 0, none⟩), .bool false, .int .i64 n, .bool false, .bool false, .int .i64 n, .bool false, .bool false, .int .i64 n, .pointer (some ⟨R, 0, none⟩), .int .i64 (8 * zs.length - pos), .bool false, .pointer (some ⟨R, 0, none⟩), .pointer (some ⟨R, 0, none⟩), .pointer (some ⟨R, 0, none⟩), .slice g zs.length c, .pointer (some ⟨R, 0, none⟩), .pointer (some ⟨R, 0, none⟩), .pointer (some ⟨R, 1, none⟩), .int .i64 pos, .int .i64 n, .func (.func 80) #[] #[.pointer (some ⟨w.heap.size + 1 + 1 + 1, 0, none⟩), .pointer (some ⟨w.heap.size + 1 + 1, 0, none⟩), .pointer (some ⟨w.heap.size + 1, 0, none⟩)], .int .i64 x.1, .int .u32 x.2.1, undef, undef, undef, undef, undef, undef, undef, undef, undef, undef, undef, undef, undef, undef], defers := [] }) ?assign ?body ?done ?stop
    case assign =>
      intro l x W K hK
      gi_wp2
      exact hK
    case body =>
      rintro l pre x W ⟨⟨hc, hf⟩, hB⟩ _
      gi_wp2
      gi_region_with_o (fail)
      all_goals gi_wp2
      all_goals exact ⟨((KeepsOthers.setCell _ _ _).trans (KeepsOthers.drew _)).from _, ((Kept.refl _ W).setCell (p := ⟨w.heap.size, 0, none⟩) (by simp) _).drew, ⟨by rw [orFold_snoc, ← orStep_walk _ _ _ (orFold_lt pre) x.2.2.1]; exact World.cell?_setCell_same' _ _ _ (by rw [hc]; rfl), by rw [frozen_drew_own, World.frozen?_setCell]; exact hf⟩, (hB.setCell (p := ⟨w.heap.size, 0, none⟩) (Nat.le_refl _) _).drew⟩
    case done =>
      rintro Dd ys W hD' rfl ⟨⟨hc, hf⟩, hB⟩ hK
      have hT : Two W R 63 (.slice g zs.length c) (.int .i64 pos) := (hB.block R hRlt).trans h2
      have c1 := hT.cell1
      have f1 := hT.frozen 1
      have hne : R ≠ w.heap.size := by omega
      gi_wp2
      have hK' := (KeepsOthers.setCell W ⟨R, 1, none⟩ (.int .i64 ((pos : Int) + n))).same Dd _ hK rfl
      refine ⟨by simp, .inl ⟨_, _, rfl, run_takeDeferred hK', ?_⟩⟩
      refine ⟨.tuple #[.int .u32 (orFold (upto (bitF zs pos) n)), .int .i64 0], by simp [results, Tryd.f46, go_sem], rfl, ?_, ?_⟩
      · exact ((hT.set1 (.int .i64 ((pos : Int) + n)))).kept (Kept.putObj (S := fun k => k = R) _ Dd _ (by omega)) rfl
      · exact ((Kept.of_below hB hD).setCell (p := ⟨R, 1, none⟩) hDR _).trans (Kept.putObj _ Dd _ (fun h => by have := hD Dd h; omega))
    case stop =>
      rintro D c pre W _ _ h _
      exact h.elim
end Go.Proofs.YtiheajlgaehfmaaDoor
