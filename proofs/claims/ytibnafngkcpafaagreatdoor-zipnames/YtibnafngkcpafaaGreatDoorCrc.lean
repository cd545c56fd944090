/- Crc: the program's check sum is the fold of one step over all bits. -/
import Derived.Test.YtibnafngkcpafaaGreatDoorStr
namespace Go.Proofs.YtibnafngkcpafaaGreatDoor
open Go.RowKit Go.Shelf

attribute [local go_sem] Oper.semAt_some

def crcStep (s : Nat) (b : Int) : Nat := s / 2 ^^^ 3988292384 * ((s + b.toNat) % 2)
def crcFold : List (Nat × Bit) → Nat := List.foldl (fun s x => crcStep s x.2.1) 4294967295
theorem crcFold_snoc (pre : List (Nat × Bit)) (x : Nat × Bit) : crcFold (pre ++ [x]) = crcStep (crcFold pre) x.2.1 := by simp [crcFold]
theorem crcStep_lt (s : Nat) (b : Int) (h : s < 4294967296) : crcStep s b < 4294967296 := by
  unfold crcStep
  rcases Nat.mod_two_eq_zero_or_one (s + b.toNat) with e | e <;> rw [e]
  · exact Nat.xor_lt_two_pow (n := 32) (by omega) (by omega)
  · exact Nat.xor_lt_two_pow (n := 32) (by omega) (by omega)
theorem crcFold_lt (pre : List (Nat × Bit)) : crcFold pre < 4294967296 := by
  unfold crcFold
  have : ∀ (l : List (Nat × Bit)) (s : Nat), s < 4294967296 → List.foldl (fun s x => crcStep s x.2.1) s l < 4294967296 := by
    intro l
    induction l with
    | nil => exact fun s h => h
    | cons x l ih => exact fun s h => ih _ (crcStep_lt s _ h)
  exact this pre _ (by omega)
theorem xor_mod_two (a b : Nat) : (a ^^^ b) % 2 = (a + b) % 2 := by
  have h := Nat.xor_mod_two_pow (a := a) (b := b) (n := 1)
  simp only [Nat.pow_one] at h
  rcases Nat.mod_two_eq_zero_or_one a with ea | ea <;> rcases Nat.mod_two_eq_zero_or_one b with eb | eb <;> rw [h, ea, eb] <;> first | (show (0 : Nat) = _; omega) | (show (1 : Nat) = _; omega)
theorem xor_div_two (a b : Nat) : (a ^^^ b) / 2 = a / 2 ^^^ b / 2 := by
  have h := Nat.shiftRight_xor_distrib (a := a) (b := b) (i := 1)
  simpa [Nat.shiftRight_eq_div_pow] using h
/-- What both functions do last: all bits are turned. -/
def crcEnd (c : Nat) : Int := bits .xor .u32 IntKind.u32.max (c : Int)
theorem crcStep_walk (s : Nat) (b : Int) (h : s < 4294967296) (h0 : 0 ≤ b) (h1 : b < 2) :
    bits .xor .u32 ((s : Int) / 2) (3988292384 * bits .and .u32 (bits .xor .u32 (s : Int) b) 1 % 4294967296) = (crcStep s b : Int) := by
  have hx : s ^^^ b.toNat < 4294967296 := Nat.xor_lt_two_pow (n := 32) (by omega) (by omega)
  rw [u32_xor (s : Int) b (by omega) (by omega) (by omega) (by omega), Int.toNat_natCast, u32_and_one _ (by omega) (by omega)]
  have e : ((s ^^^ b.toNat : Nat) : Int) % 2 = (((s + b.toNat) % 2 : Nat) : Int) := by
    have h := xor_mod_two s b.toNat
    omega
  rw [e]
  have hm : (s + b.toNat) % 2 < 2 := Nat.mod_lt _ (by omega)
  rw [u32_xor _ _ (by omega) (by omega) (by omega) (by omega)]
  have e1 : ((s : Int) / 2).toNat = s / 2 := by omega
  have e2 : (3988292384 * (((s + b.toNat) % 2 : Nat) : Int) % 4294967296).toNat = 3988292384 * ((s + b.toNat) % 2) := by omega
  rw [e1, e2]
  rfl

set_option maxRecDepth 100000 in
set_option maxHeartbeats 2000000 in
theorem crc_in (F : Fence) (n : Nat) (h31 : F.fn 38) (h34 : F.fn 55) (h37 : F.fn 71) (hro : F.round = none) (hn : 3 ≤ n) (a : Option Addr) (cap : Nat) (zs : List Int) (hz : AreBytes zs) (hl : zs.length ≤ 140737488355328) (w : World)
    (hI : BytesIn (· < w.heap.size) w (.slice a zs.length cap) zs) :
    CallsIn F n Tryz.prog 38 #[.slice a zs.length cap] w fun e W' => e = .returned (.int .u32 (crcEnd (crcFold (upto (bitF zs 0) (8 * zs.length))))) ∧ Below w.heap.size w W' := by
  have h1 : 1 ≤ n := by omega
  refine callsIn_of_wp_marks Tryz.func38 rfl h31 ?_ hro
  simp only [Tryz.ntmps38, List.size_toArray, List.length_cons, List.length_nil, Nat.reduceAdd, Nat.reduceSub, Array.replicate_succ, Array.replicate_zero, List.push_toArray, List.append_toArray, List.nil_append, List.cons_append]
  gi_wp2_with (gi_at_call 55; refine (stretch_in F (n - 1) h34 hro _ _ _ _ _ _).mono ?_; rintro e w' ⟨rfl, rfl⟩)
  have b0 := Boxed.new w 68 (.int .u32 4294967295)
  have b1 := Boxed.new (w.alloc (.cells #[.int .u32 4294967295] 68)) 28 (.slice a zs.length cap)
  have b2 := Boxed.new ((w.alloc (.cells #[.int .u32 4294967295] 68)).alloc (.cells #[.slice a zs.length cap] 28)) 3 (.int .i64 0)
  have b3 := Boxed.new (((w.alloc (.cells #[.int .u32 4294967295] 68)).alloc (.cells #[.slice a zs.length cap] 28)).alloc (.cells #[.int .i64 0] 3)) 3 (.int .i64 (8 * zs.length))
  simp only [World.size_alloc] at b1 b2 b3
  have hB0 : Below w.heap.size w ((((w.alloc (.cells #[.int .u32 4294967295] 68)).alloc (.cells #[.slice a zs.length cap] 28)).alloc (.cells #[.int .i64 0] 3)).alloc (.cells #[.int .i64 (8 * zs.length)] 3)) :=
    ((((Below.refl _ w).alloc (Nat.le_refl _) _).alloc (by simp) _).alloc (by simp; omega) _).alloc (by simp; omega) _
  have hIb : BytesIn (fun k => k < w.heap.size + 4 ∧ k ≠ w.heap.size) ((((w.alloc (.cells #[.int .u32 4294967295] 68)).alloc (.cells #[.slice a zs.length cap] 28)).alloc (.cells #[.int .i64 0] 3)).alloc (.cells #[.int .i64 (8 * zs.length)] 3)) (.slice a zs.length cap) zs :=
    (hI.kept (Kept.of_below hB0 (fun _ h => h))).mono (fun k hk => ⟨by omega, by omega⟩)
  have q0 := ((b0.alloc (.cells #[.slice a zs.length cap] 28)).alloc (.cells #[.int .i64 0] 3)).alloc (.cells #[.int .i64 (8 * zs.length)] 3)
  have q1 := (b1.alloc (.cells #[.int .i64 0] 3)).alloc (.cells #[.int .i64 (8 * zs.length)] 3)
  have q2 := b2.alloc (.cells #[.int .i64 (8 * zs.length)] 3)
  clear b0 b1 b2 hI
  refine wpIn_rangeFunc_ownG hro h1 (gf := 71) (lb := #[.pointer (some ⟨w.heap.size + 1 + 1 + 1, 0, none⟩), .pointer (some ⟨w.heap.size + 1 + 1, 0, none⟩), .pointer (some ⟨w.heap.size + 1, 0, none⟩)]) rfl h37 (enters_of Tryz.func71 (by kernel_rfl) rfl)
    (str_stops F (n - 1) h37 hro (by omega) (w.heap.size + 1) (fun k => k < w.heap.size + 4 ∧ k ≠ w.heap.size) 0 (8 * zs.length) _ zs (by omega) hl hz ⟨by omega, by omega⟩ ⟨by omega, by omega⟩ _ (fun k hk => by simp; omega) (by simp) q1.cell q2.cell (by simpa using b3.cell) hIb)
    Kept.trans (keptK_b (fun k hk => by simp; omega)) (Below.refl _ _) (fun _ => rfl)
    (fun pre W => (W.cell? ⟨w.heap.size, 0, none⟩ = some (.int .u32 (crcFold pre)) ∧ W.frozen? ⟨w.heap.size, 0, none⟩ = false) ∧ Below w.heap.size w W)
    (fun _ _ _ => False)
    (OwnFrom.and (Own.from (fun s A B row hs hg hr => ⟨cell_kept hs.1 hg hr, (frozen_kept hs.1 hg hr).trans hs.2⟩) _) (ownFrom_below (Nat.le_refl _) (by simp; omega)))
    (fun _ _ _ _ _ hs _ _ => hs)
    ⟨⟨q0.cell, q0.frozen⟩, hB0⟩
    (fun x => { tmps := #[.slice a zs.length cap, undef, .int .u32 0, .pointer (some ⟨w.heap.size, 0, none⟩), undef, .int .u32 x.2.1, .slice a zs.length cap, .slice a zs.length cap, .int .i64 zs.length, .int .i64 (8 * zs.length), .func (.func 71) #[] #[.pointer (some ⟨w.heap.size + 1 + 1 + 1, 0, none⟩), .pointer (some ⟨w.heap.size + 1 + 1, 0, none⟩), .pointer (some ⟨w.heap.size + 1, 0, none⟩)], .int .i64 x.1, .int .u32 x.2.1, undef, undef, undef, undef, undef, undef, undef, undef, undef, undef], defers := [] }) ?assign ?body ?done ?stop
  case assign =>
    intro l x W K hK
    gi_wp2
    exact hK
  case body =>
    rintro l pre x W ⟨⟨hc, hf⟩, hB⟩ _
    gi_wp2
    exact ⟨(KeepsOthers.setCell _ _ _).from _, (Kept.refl _ W).setCell (p := ⟨w.heap.size, 0, none⟩) (by simp) _, ⟨by rw [crcFold_snoc, ← crcStep_walk _ _ (crcFold_lt pre) x.2.2.1 x.2.2.2]; exact World.cell?_setCell_same' _ _ _ (by rw [hc]; rfl), by rw [World.frozen?_setCell]; exact hf⟩, hB.setCell (p := ⟨w.heap.size, 0, none⟩) (Nat.le_refl _) _⟩
  case done =>
    rintro D ys W hD rfl ⟨⟨hc, _⟩, hB⟩ hK
    gi_wp2
    refine ⟨by simp, .inl ⟨_, _, rfl, run_takeDeferred hK, ?_⟩⟩
    exact ⟨_, results_tmp rfl _ _ _, rfl, hB.trans (belowK_b (w := w) (Nat.le_refl _) W D _ _ (by simp at hD; omega) hK rfl rfl)⟩
  case stop =>
    rintro D c pre W _ _ h _
    exact h.elim
end Go.Proofs.YtibnafngkcpafaaGreatDoor
