import Derived.Test.YtfbhonjndepjbaaDoorRpl
import Derived.Test.YtfbhonjndepjbaaDoorRtmM
/- fits: is a whole number the C of a Dec? -/
namespace Go.Proofs.YtfbhonjndepjbaaDoor
open Go.RowKit

def fitsB (z : Int) : Bool := decide (-9223372036854775808 ≤ z) && decide (z ≤ 9223372036854775807)
theorem one_rowD (w w1 : World) (o1 : Array Value) (t1 : TypeId) (h : Below ((w.alloc (.cells o1 t1)).heap.size) (w.alloc (.cells o1 t1)) w1) :
    Row w1 w.heap.size t1 o1 ∧ Below w.heap.size w w1 :=
  ⟨(Row.new w t1 o1).below h (by simp), ((Below.refl _ w).alloc (Nat.le_refl _) _).trans (h.mono (by simp))⟩
theorem digs_big : (digs 9223372036854775808).length ≤ 800 := Nat.le_trans (digs_len _ 19 (by decide)) (by decide)
set_option maxRecDepth 100000 in
set_option maxHeartbeats 1000000 in
theorem fits_any (z : Int) (v : Value) (w : World) (hV : BigV w z v) (hz : (digs z.natAbs).length ≤ 1500) :
    Calls Tryd.prog 79 #[v] w fun r w' => r = .returned (.bool (fitsB z)) ∧ Below w.heap.size w w' := by
  obtain ⟨sa, rfl, hA⟩ := hV
  obtain ⟨fb, HFB⟩ : ∃ fb, Hid (fitsB z = fb) := ⟨_, rfl⟩
  rw [HFB.out]
  have HO : ∀ W, Hid (Calls Tryd.prog 64 #[.int .i64 (-9223372036854775808)] W _) := fun W => of_any (-9223372036854775808) ⟨by decide, by decide⟩ W
  obtain ⟨na, hna⟩ : ∃ na, decide (z < 0) = na := ⟨_, rfl⟩
  have HNA : Hid (decide (z < 0) = na) := hna
  have HMO : ∀ W sb, Below w.heap.size w W → DgAt W sb (digs 9223372036854775808) → Hid (Calls Tryd.prog 70 #[bv na sa, bv na sb] W fun r w' => r = .returned (.int .i64 (cI (z.natAbs : Int) 9223372036854775808)) ∧ Below W.heap.size W w') := fun W sb h hb => by
    have := more_any na na sa sb _ _ W (hA.below h) hb (digs_dg _) (digs_dg _) (by omega) (by have := digs_big; omega)
    rw [dval_digs, dval_digs] at this
    exact this
  rw [hna]
  clear hna
  obtain ⟨_, a1, c1, rfl, _, _⟩ := id hA
  clear hA
  generalize (digs z.natAbs).length = la at *
  unfold bv at *
  go_enter Tryd.func79, Tryd.ntmps79
  go_wp2_with fail
  refine Calls.mono (HO _).out ?_
  rintro _ w1 ⟨v1, rfl, hV1, b1⟩
  obtain ⟨sb, rfl, hB⟩ := hV1
  obtain ⟨r1, hB1⟩ := one_rowD w w1 _ _ b1
  rw [show (-9223372036854775808 : Int).natAbs = 9223372036854775808 from rfl] at hB
  obtain ⟨_, a2, c2, rfl, _, _⟩ := id hB
  obtain ⟨lb, hlb⟩ : ∃ lb, (digs 9223372036854775808).length = lb := ⟨_, rfl⟩
  rw [hlb] at hB
  rw [hlb]
  rw [show decide ((-9223372036854775808 : Int) < 0) = true from rfl]
  unfold bv
  clear b1 HO hlb
  obtain ⟨d0, d1⟩ := r1.duo
  have hz1 := r1.lt
  have hal : ∀ o, Below w1.heap.size w1 (w1.alloc o) := fun o => (Below.refl _ w1).alloc (Nat.le_refl _) o
  have HM := HMO (w1.alloc (.cells #[.bool na, .slice a2 lb c2] 45)) _ (hB1.trans ((hal _).mono hB1.size)) (hB.below (hal _))
  have hB2 := hB1.trans ((hal (.cells #[.bool na, .slice a2 lb c2] 45)).mono hB1.size)
  have r2 := r1.below (hal (.cells #[.bool na, .slice a2 lb c2] 45)) hz1
  clear hB hal HMO hB1 r1
  go_wp2_with fail
  refine Calls.mono HM.out ?_
  rintro _ w2 ⟨rfl, b2⟩
  have r3 := r2.below b2 r2.lt
  have hB3 := hB2.trans (b2.mono (by have := hB2.size; simp at this ⊢; omega))
  clear b2 HM r2 hB2 d0 d1
  obtain ⟨d0, d1⟩ := r3.duo
  have hz3 := r3.lt
  rcases Int.lt_trichotomy (z.natAbs : Int) 9223372036854775808 with h | h | h
  · have hc : cI (z.natAbs : Int) 9223372036854775808 = -1 := by unfold cI; rw [if_neg (by omega), if_pos h]
    have HF : Hid (fb = true) := by
      show _ = _
      rw [← HFB.out]; unfold fitsB; rw [decide_eq_true (by omega), decide_eq_true (by omega)]; rfl
    rw [hc]
    clear hc h
    go_wp2
    go_ret
    exact ⟨by rw [HF.out]; rfl, hB3⟩
  · have hc : cI (z.natAbs : Int) 9223372036854775808 = 0 := by unfold cI; rw [if_neg (by omega), if_neg (by omega)]
    have HF : Hid (fb = na) := by
      show _ = _
      rw [← HFB.out, ← HNA.out]; unfold fitsB
      by_cases hz0 : z < 0
      · rw [decide_eq_true (by omega), decide_eq_true (by omega), decide_eq_true hz0]; rfl
      · rw [decide_eq_true (show (-9223372036854775808 : Int) ≤ z by omega), decide_eq_false (show ¬ z ≤ 9223372036854775807 by omega), decide_eq_false hz0]; rfl
    rw [hc]
    clear hc h
    go_wp2
    go_ret
    exact ⟨by rw [HF.out]; rfl, hB3⟩
  · have hc : cI (z.natAbs : Int) 9223372036854775808 = 1 := by unfold cI; rw [if_pos (by omega)]
    have HF : Hid (fb = false) := by
      show _ = _
      rw [← HFB.out]; unfold fitsB
      by_cases hz0 : z < 0
      · rw [decide_eq_false (show ¬ (-9223372036854775808 : Int) ≤ z by omega)]; rfl
      · rw [decide_eq_false (show ¬ z ≤ 9223372036854775807 by omega), Bool.and_false]
    rw [hc]
    clear hc h
    go_wp2
    go_ret
    exact ⟨by rw [HF.out]; rfl, hB3⟩
end Go.Proofs.YtfbhonjndepjbaaDoor
/- Pure: how a number that ends on no nought is told. -/
namespace Go.Proofs.YtfbhonjndepjbaaDoor

theorem fits_iff (z : Int) : (fitsB z = true) ↔ z.natAbs ≤ 9223372036854775807 + (decide (z < 0)).toNat := by
  unfold fitsB
  by_cases h : z < 0
  · rw [decide_eq_true h]; simp; omega
  · rw [decide_eq_false h]; simp; omega
theorem tell_low (y f : Int) (hy : y.natAbs % 10 ≠ 0) (hf : f ≤ 18) : tell y f = if fitsB y = true ∧ -18 ≤ f then some (y, f) else none := by
  unfold tell tellW
  rw [if_neg (by omega), strip_fix _ _ (.inl hy)]
  have hr : raise (y.natAbs, f) = (y.natAbs, f) := by unfold raise; rw [if_neg (by simp only; omega)]
  rw [hr]
  simp only
  have hval : (if decide (y < 0) = true then -(y.natAbs : Int) else (y.natAbs : Int)) = y := by
    by_cases h0 : y < 0
    · rw [decide_eq_true h0, if_pos rfl]; omega
    · rw [decide_eq_false h0, if_neg (by simp)]; omega
  rw [hval]
  by_cases h : y.natAbs ≤ 9223372036854775807 + (decide (y < 0)).toNat ∧ -18 ≤ f
  · rw [if_pos h, if_pos ⟨(fits_iff y).2 h.1, h.2⟩]
  · rw [if_neg h, if_neg (fun hc => h ⟨(fits_iff y).1 hc.1, hc.2⟩)]
theorem tell_high (y f : Int) (hy : y.natAbs % 10 ≠ 0) (hf : 18 < f) : tell y f = if fitsB (y * 10 ^ (f - 18).toNat) = true then some (y * 10 ^ (f - 18).toNat, 18) else none := by
  have hp : (0 : Int) < 10 ^ (f - 18).toNat := Int.pow_pos (by omega)
  have hna : (y * 10 ^ (f - 18).toNat).natAbs = y.natAbs * 10 ^ (f - 18).toNat := by rw [Int.natAbs_mul, Int.natAbs_pow]; rfl
  have hsg : (y * 10 ^ (f - 18).toNat < 0) ↔ y < 0 := by
    constructor
    · intro h
      apply Int.lt_of_not_ge
      intro hc
      have := Int.mul_nonneg hc (Int.le_of_lt hp)
      omega
    · intro h; exact Int.mul_neg_of_neg_of_pos h hp
  have hd : decide (y * 10 ^ (f - 18).toNat < 0) = decide (y < 0) := by simp only [hsg]
  unfold tell tellW
  rw [if_neg (by omega), strip_fix _ _ (.inl hy)]
  have hr : raise (y.natAbs, f) = (y.natAbs * 10 ^ (f - 18).toNat, 18) := by unfold raise; rw [if_pos (by simpa using hf)]
  rw [hr]
  simp only
  have hfi := fits_iff (y * 10 ^ (f - 18).toNat)
  rw [hna, hd] at hfi
  by_cases h : y.natAbs * 10 ^ (f - 18).toNat ≤ 9223372036854775807 + (decide (y < 0)).toNat
  · rw [if_pos ⟨h, by decide⟩, if_pos (hfi.2 h)]
    congr 2
    by_cases h0 : y < 0
    · rw [decide_eq_true h0, if_pos rfl, ← hna]
      have := hsg.2 h0
      omega
    · rw [decide_eq_false h0, if_neg (by simp), ← hna]
      have : ¬ y * 10 ^ (f - 18).toNat < 0 := fun hc => h0 (hsg.1 hc)
      omega
  · rw [if_neg (fun hc => h hc.1), if_neg (fun hc => h (hfi.1 hc))]
theorem digs_ge (n k : Nat) (h : k + 1 ≤ (digs n).length) : 10 ^ k ≤ n := by
  apply Nat.le_of_not_lt
  intro hc
  have := digs_len n k hc
  omega
/-- A number whose digits are many can't be told. -/
theorem tell_many (y f : Int) (k : Nat) (hy : y.natAbs % 10 ≠ 0) (hk : 18 + (k : Int) < f) (hl : 30 ≤ (digs (y * 10 ^ k).natAbs).length) : tell y f = none := by
  rw [tell_high y f hy (by omega), if_neg]
  intro hc
  have h1 := (fits_iff _).1 hc
  have h2 := digs_ge _ 29 hl
  rw [Int.natAbs_mul, Int.natAbs_pow] at h1 h2
  have h3 : 10 ^ k ≤ 10 ^ (f - 18).toNat := Nat.pow_le_pow_right (by decide) (by omega)
  have h4 := Nat.mul_le_mul_left y.natAbs h3
  have h5 : (decide (y * 10 ^ (f - 18).toNat < 0)).toNat ≤ 1 := Bool.toNat_le _
  rw [show (10 : Int).natAbs = 10 from rfl] at h1 h2
  have : (10 : Nat) ^ 29 = 100000000000000000000000000000 := by decide
  omega
theorem tell_far (y f : Int) (hy : y ≠ 0) (hf : 60 < f) : tell y f = none := by
  obtain ⟨k, h1, h2, h3, h4, h5⟩ := strip_spec y.natAbs f (by omega)
  have h6 : k = 0 := by omega
  subst h6
  unfold tell tellW
  rw [if_neg (by omega), if_neg]
  rintro ⟨ha, -⟩
  have hs : strip y.natAbs f = (y.natAbs, f) := strip_fix _ _ (.inr (by omega))
  rw [hs] at ha
  unfold raise at ha
  rw [if_pos (by simp only; omega)] at ha
  simp only at ha
  have hp : 10 ^ 40 ≤ 10 ^ (f - 18).toNat := Nat.pow_le_pow_right (by decide) (by omega)
  have h7 : 1 * 10 ^ 40 ≤ y.natAbs * 10 ^ (f - 18).toNat := Nat.mul_le_mul (by omega) hp
  have h8 : (decide (y < 0)).toNat ≤ 1 := Bool.toNat_le _
  have : (10 : Nat) ^ 40 = 10000000000000000000000000000000000000000 := by decide
  omega
end Go.Proofs.YtfbhonjndepjbaaDoor
/- Tell: how the document tells a number. -/
namespace Go.Proofs.YtfbhonjndepjbaaDoor
open Go.RowKit

theorem digs_pos_len {n : Nat} (h : n ≠ 0) : 1 ≤ (digs n).length := by rw [digs_pos n h]; simp
/-- What stays of a Tell's boxes. -/
structure TlAt (w : World) (K : Nat) (y : Int) (sv : Value) (wr : World) : Prop where
  res : Row wr (w.heap.size + 1) 23 #[.int .i64 0, .int .i64 0]
  big : Row wr K 45 #[.bool (decide (y < 0)), sv]
  dg : DgAt wr sv (digs y.natAbs)
  below : Below w.heap.size w wr
theorem TlAt.mono {w wr wx : World} {K : Nat} {y : Int} {sv : Value} (h : TlAt w K y sv wr) (hb : Below wr.heap.size wr wx) : TlAt w K y sv wx :=
  ⟨h.res.below hb h.res.lt, h.big.below hb h.big.lt, h.dg.below hb, h.below.trans (hb.mono h.below.size)⟩
/-- Another number is put into the box. -/
theorem TlAt.put {w wr wx : World} {K : Nat} {y y' : Int} {sv : Value} {a a' : Option Addr} {n c n' c' : Nat} (h : TlAt w K y sv wr) (hsv : sv = .slice a n c) (hK : w.heap.size + 1 < K) (hb : Below wr.heap.size wr wx) (hD : DgAt wx (.slice a' n' c') (digs y'.natAbs)) (ng : Bool) (hng : decide (y' < 0) = ng) :
    TlAt w K y' (.slice a' n' c') ((wx.setCell ⟨K, 0, none⟩ (.bool ng)).setCell ⟨K, 1, none⟩ (.slice a' n' c')) := by
  have h2 := h.mono hb
  have hbig := h2.big
  rw [hsv] at hbig
  refine ⟨(h2.res.off 0 _ (by omega)).off 1 _ (by omega), ?_, hD.store hbig _ _, below_set (below_set h2.below 0 _ (by omega)) 1 _ (by omega)⟩
  rw [hng]
  exact Row.set2 hbig _ _
/-- The digits without the first. -/
theorem DgAt.tail {W : World} {a : Option Addr} {n c : Nat} {d : Int} {ds : List Int} (h : DgAt W (.slice a n c) (d :: ds)) :
    ∃ a', (∀ V, (Instr.sliceAt 43 (.slice a n c) (some (.int .i64 1)) none none).run Tryd.prog V = .ok (.slice a' (n - 1) (c - 1)) V) ∧ n = ds.length + 1 ∧ ∀ V, Below W.heap.size W V → DgAt V (.slice a' (n - 1) (c - 1)) ds := by
  obtain ⟨hI, a0, c0, he, hc, hn⟩ := h
  simp only [Value.slice.injEq, List.length_cons] at he
  obtain ⟨rfl, rfl, rfl⟩ := he
  rcases hI with ⟨h0, _⟩ | ⟨b, off, c', he, hb, hcell⟩
  · cases h0
  · simp only [Value.slice.injEq, List.length_cons, true_and] at he
    obtain ⟨rfl, rfl⟩ := he
    rw [List.length_cons] at hc
    refine ⟨if c = 1 then some ⟨b, off, none⟩ else some ⟨b, off + 1, none⟩, fun V => ?_, rfl, fun V hV => ?_⟩
    · have h1 : (1 : Int) ≤ ((ds.length + 1 : Nat) : Int) := by omega
      by_cases hc1 : c = 1
      · subst hc1
        rw [if_pos rfl]
        go_simp
        omega
      · rw [if_neg hc1]
        go_simp
        intro h
        omega
    · have hk := Kept.of_below (S := fun k => k < W.heap.size) hV (fun _ h => h)
      refine ⟨?_, _, _, rfl, by show ds.length ≤ c - 1; omega, fun h => by split at h <;> cases h⟩
      by_cases h0 : ds = []
      · subst h0; exact .inl ⟨rfl, _, _, rfl⟩
      · have hl : 0 < ds.length := List.length_pos_iff.2 h0
        rw [if_neg (by omega)]
        refine .inr ⟨b, off + 1, c - 1, by simp, Nat.lt_of_lt_of_le hb hV.size, fun j hj => ?_⟩
        have := hcell (j + 1) (by rw [List.length_cons]; omega)
        rw [hk.cell (p := ⟨b, off + 1 + j, none⟩) hb, show off + 1 + j = off + (j + 1) by omega, this]
        rfl
theorem tell_fin (y f : Int) (k : Nat) (hy : y.natAbs % 10 ≠ 0) (hk : k = 0 ∨ 18 ≤ f - k) (hg : f - k ≤ 18) : tell y f = if fitsB (y * 10 ^ k) = true ∧ -18 ≤ f - k then some (y * 10 ^ k, f - k) else none := by
  by_cases h0 : k = 0
  · subst h0
    rw [tell_low y f hy (by omega)]
    simp
  · have h1 : f - (k : Int) = 18 := by omega
    rw [tell_high y f hy (by omega), show (f - 18).toNat = k by omega, h1]
    by_cases hf : fitsB (y * 10 ^ k) = true
    · rw [if_pos hf, if_pos ⟨hf, by decide⟩]
    · rw [if_neg hf, if_neg (fun h => hf h.1)]
theorem dval_drop_le {ds : List Int} (h : DgL ds) (m : Nat) : 0 ≤ dval (ds.drop m) ∧ dval (ds.drop m) ≤ dval ds := by
  have h1 := dval_nonneg (fun d hd => h d (List.mem_of_mem_drop hd) : DgL (ds.drop m))
  refine ⟨h1, ?_⟩
  have h2 := dval_nonneg (fun d hd => h d (List.mem_of_mem_take hd) : DgL (ds.take m))
  have e := dval_append (ds.take m) (ds.drop m)
  rw [List.take_append_drop] at e
  have hp := pow10_pos (ds.take m).length
  have : 1 * dval (ds.drop m) ≤ 10 ^ (ds.take m).length * dval (ds.drop m) := Int.mul_le_mul_of_nonneg_right (by omega) h1
  omega
theorem dval_drop (ds : List Int) (m : Nat) (h : m < ds.length) : dval (ds.drop m) = ds[m]?.getD 0 + 10 * dval (ds.drop (m + 1)) := by
  rw [List.drop_eq_getElem_cons h, List.getElem?_eq_getElem h]; rfl
set_option maxRecDepth 100000 in
set_option maxHeartbeats 4000000 in
theorem tell_head (z e : Int) (sv : Value) (w : World) (hz : z ≠ 0) (hD : DgAt w sv (digs z.natAbs)) (v : Value)
    (HV : Hid (v = decV (tell z e)))
    (he1 : -4000 ≤ e) (he2 : e ≤ 4000) (hl : (digs z.natAbs).length ≤ 1400) :
    Calls Tryd.prog 45 #[.agg #[.bool (decide (z < 0)), sv, .int .i64 e]] w fun r w' => r = .returned v ∧ Below w.heap.size w w' := by
  obtain ⟨ng, HNG⟩ : ∃ ng, Hid (decide (z < 0) = ng) := ⟨_, rfl⟩
  rw [HNG.out]
  have hL1 := digs_pos_len (show z.natAbs ≠ 0 by omega)
  obtain ⟨_, a, c, rfl, _, _⟩ := id hD
  obtain ⟨L, HL⟩ : ∃ L, Hid ((digs z.natAbs).length = L) := ⟨_, rfl⟩
  rw [HL.out] at hD hL1 hl
  rw [HL.out]
  have HD : Hid (DgAt w (.slice a L c) (digs z.natAbs)) := hD
  have gL : ((L : Int) == 0) = false := by simp only [beq_eq_false_iff_ne]; omega
  clear hD
  go_enter Tryd.func45, Tryd.ntmps45
  go_wp2_with fail
  have r0 := (Row.new w 47 #[.bool ng, .slice a L c, .int .i64 e]).alloc (.cells #[.int .i64 0, .int .i64 0] 23)
  have r1 := Row.new1 w (.cells #[.bool ng, .slice a L c, .int .i64 e] 47) 23 #[.int .i64 0, .int .i64 0]
  have hB := ((Below.refl _ w).alloc (Nat.le_refl _) (.cells #[.bool ng, .slice a L c, .int .i64 e] 47)).alloc (by simp) (.cells #[.int .i64 0, .int .i64 0] 23)
  have hWs : ((w.alloc (.cells #[.bool ng, .slice a L c, .int .i64 e] 47)).alloc (.cells #[.int .i64 0, .int .i64 0] 23)).heap.size = w.heap.size + 2 := by simp
  generalize (w.alloc (.cells #[.bool ng, .slice a L c, .int .i64 e] 47)).alloc (.cells #[.int .i64 0, .int .i64 0] 23) = W at *
  have HWs : Hid (W.heap.size = w.heap.size + 2) := hWs
  clear hWs
  have hS : Below W.heap.size W W.drew := (Below.refl _ W).drew
  have tri : ∀ wx, Below W.heap.size W wx → wx.cell? ⟨w.heap.size, 0, none⟩ = some (.bool ng) ∧ wx.cell? ⟨w.heap.size, 1, none⟩ = some (.slice a L c) ∧ wx.cell? ⟨w.heap.size, 2, none⟩ = some (.int .i64 e) := fun wx hx =>
    ⟨(r0.below hx r0.lt).cell rfl, (r0.below hx r0.lt).cell rfl, (r0.below hx r0.lt).cell rfl⟩
  refine wp_region_M (fun wx : World => Below W.heap.size W wx) (fun j => decide (j < 7)) 7 rfl (by kernel_rfl) ?_
  refine wpM_held 0 (v := ?_) rfl (by kernel_rfl) (by kernel_rfl) rfl (fun _ _ _ h => h) rfl (by intro wx hx; go_simp <;> rfl) hS ?_
  refine wpM_held 1 (v := .agg #[.bool ng, .slice a L c]) rfl (by kernel_rfl) (by kernel_rfl) rfl (fun _ _ _ h => h) rfl (by intro wx hx; obtain ⟨x0, x1, x2⟩ := tri wx hx; go_simp <;> rfl) hS ?_
  refine wpM_held 2 (v := ?_) rfl (by kernel_rfl) (by kernel_rfl) rfl (fun _ _ _ h => h) rfl (by intro wx hx; go_simp <;> rfl) hS ?_
  refine wpM_held 3 (v := .int .i64 e) rfl (by kernel_rfl) (by kernel_rfl) rfl (fun _ _ _ h => h) rfl (by intro wx hx; obtain ⟨x0, x1, x2⟩ := tri wx hx; go_simp <;> rfl) hS ?_
  refine wpM_one 4 rfl (by kernel_rfl) rfl ?_
  go_wp2_with fail
  have hW1 : ∀ o, Below W.heap.size W (W.alloc o).drew := fun o => ((Below.refl _ W).alloc (Nat.le_refl _) o).drew
  refine ⟨fun _ => hW1 _, ?_⟩
  refine wpM_one 5 rfl (by kernel_rfl) rfl ?_
  go_wp2_with fail
  refine ⟨fun _ => hW1 _, ?_⟩
  refine wpM_one 6 rfl (by kernel_rfl) rfl ?_
  go_wp2_with fail
  refine ⟨fun _ => hW1 _, ?_⟩
  refine wpM_done (by kernel_rfl) ?_
  have hT : TlAt w W.heap.size z (.slice a L c) (W.alloc (.cells #[.bool ng, .slice a L c] 45)).drew := by
    have hx := hW1 (.cells #[.bool ng, .slice a L c] 45)
    refine ⟨r1.below hx r1.lt, ?_, (HD.out.below hB).below hx, hB.trans (hx.mono (by have := HWs.out; omega))⟩
    rw [HNG.out]
    exact Row.new W 45 _
  generalize (W.alloc (.cells #[.bool ng, .slice a L c] 45)).drew = W2 at *
  clear r0 r1 hB hS tri HD hW1
  have hK : w.heap.size + 1 < W.heap.size := by have := HWs.out; omega
  clear HWs
  generalize W.heap.size = K at *
  clear W
  have hbig := hT.big
  rw [HNG.out] at hbig
  obtain ⟨d0, d1⟩ := hbig.duo
  obtain ⟨f0, f1⟩ := hT.res.duo
  have ff := hT.res.frozen
  have hlt1 := hT.res.lt
  by_cases h60 : 60 < e
  · have HVN : Hid (v = .tuple #[.agg #[.int .i64 0, .int .i64 0], .int .i64 30]) := by
      show _ = _
      rw [HV.out, tell_far z e hz h60]; rfl
    have hZe := Row.set2 hT.res (.int .i64 0) (.int .i64 0)
    have hBe := below_set (below_set hT.below (B := w.heap.size + 1) 0 (.int .i64 0) (by omega)) (B := w.heap.size + 1) 1 (.int .i64 0) (by omega)
    clear HV
    go_wp2
    exact bodyPost_ret (ret_two rfl (g := w.heap.size + 1) rfl rfl (load23 hZe rfl)) rfl ⟨by rw [HVN.out]; rfl, hBe⟩
  · have g60 : decide (60 < e) = false := decide_eq_false h60
    clear h60
    go_wp2
    clear d0 d1 f0 f1 ff hlt1 hbig
    go_loopw [5] (fun v5 wr => ∃ (y f : Int) (a : Option Addr) (n c : Nat), v5 = .int .i64 f ∧ TlAt w K y (.slice a n c) wr ∧ Hid (y ≠ 0 ∧ tell y f = tell z e ∧ (digs y.natAbs).length = n ∧ f + n ≤ e + L) ∧ -4000 ≤ f ∧ f ≤ 6000 ∧ n ≤ 1400) (fun v5 _ => (7000 - intOf v5).toNat)
    case atStart => exact ⟨z, e, a, L, c, rfl, hT, ⟨hz, rfl, HL.out, Int.le_refl _⟩, he1, by omega, hl⟩
    case round =>
      obtain ⟨y, f, a1, n, c1, rfl, hT1, HY, hf1, hf2, hn200⟩ := hrel
      clear hT
      obtain ⟨ny, HNY⟩ : ∃ ny, Hid (decide (y < 0) = ny) := ⟨_, rfl⟩
      have hbig := hT1.big
      rw [HNY.out] at hbig
      obtain ⟨d0, d1⟩ := hbig.duo
      have hy0 := HY.out.1
      have hdg := hT1.dg
      have hds := digs_pos y.natAbs (show y.natAbs ≠ 0 by omega)
      rw [hds] at hdg
      obtain ⟨a2, hsl, hn, htl⟩ := hdg.tail
      obtain ⟨bb, off, hab, _, hc0⟩ := hdg.1.at 0 (by simp)
      subst hab
      obtain ⟨d, hd⟩ : ∃ d, y.natAbs % 10 = d := ⟨_, rfl⟩
      simp only [List.getElem?_cons_zero, Option.getD_some, Nat.add_zero] at hc0
      rw [hd] at hc0 hds
      have gn : (0 : Int) < (n : Int) := by omega
      have HN : Hid (n = (digs (y.natAbs / 10)).length + 1) := hn
      have HTL : Hid (∀ V, Below wr.heap.size wr V → DgAt V (.slice a2 (n - 1) (c1 - 1)) (digs (y.natAbs / 10))) := htl
      have HD9 : Hid (y.natAbs % 10 = d) := hd
      clear hn htl hd hdg hds
      by_cases h0 : d = 0
      · subst h0
        obtain ⟨y', hy'⟩ : ∃ y', bval ny (digs (y.natAbs / 10)) = y' := ⟨_, rfl⟩
        have hyq : y = y' * 10 := by
          rw [← hy']
          unfold bval
          rw [dval_digs, ← HNY.out]
          have h9 := HD9.out
          by_cases hs : y < 0
          · rw [decide_eq_true hs, if_pos rfl]; omega
          · rw [decide_eq_false hs, if_neg (by simp)]; omega
        have hln : (digs y'.natAbs).length = n - 1 := by rw [show y'.natAbs = y.natAbs / 10 by omega, HN.out]; omega
        have hn1 := digs_pos_len (show y'.natAbs ≠ 0 by omega)
        have HY2 : Hid (y' ≠ 0 ∧ tell y' (f + 1) = tell z e ∧ (digs y'.natAbs).length = n - 1 ∧ f + 1 + ((n - 1 : Nat) : Int) ≤ e + L) := by
          obtain ⟨i1, i2, i3, i4⟩ := HY.out
          refine ⟨by omega, ?_, hln, by omega⟩
          rw [← i2, hyq]
          have := tell_pow y' (f + 1) 1
          rw [show f + 1 - ((1 : Nat) : Int) = f by omega, Int.pow_succ, Int.pow_zero, Int.one_mul] at this
          exact this.symm
        have hf3 : f + 1 ≤ 6000 := by have := HY.out.2.2.2; omega
        have HNY2 : Hid (decide (y' < 0) = ny) := by
          show _ = _
          rw [← HNY.out]
          by_cases hs : y < 0
          · rw [decide_eq_true hs, decide_eq_true (by omega)]
          · rw [decide_eq_false hs, decide_eq_false (by omega)]
        have HTR : ∀ V, Below wr.heap.size wr V → Hid (Calls Tryd.prog 59 #[.agg #[.bool ny, .slice a2 (n - 1) (c1 - 1)]] V fun r w' => ∃ v', r = .returned v' ∧ BigV w' y' v' ∧ Below V.heap.size V w') := fun V h => by
          have := trim_big ny _ _ V (HTL.out V h) (digs_dg _) (by have := HN.out; omega)
          rw [hy'] at this
          exact this
        have HT1 : Hid (TlAt w K y (.slice (some ⟨bb, off, none⟩) n c1) wr) := hT1
        have hg0 : (1 : Int) ≤ (n : Int) := by omega
        clear hyq hy' hy0 hT1 HV
        go_wp2_with fail
        have hS : Below wr.heap.size wr wr.drew := (Below.refl _ wr).drew
        have duo : ∀ wx, Below wr.heap.size wr wx → wx.cell? ⟨K, 0, none⟩ = some (.bool ny) ∧ wx.cell? ⟨K, 1, none⟩ = some (.slice (some ⟨bb, off, none⟩) n c1) := fun wx hx => (hbig.below hx hbig.lt).duo
        have keyS : ∀ wx x, x = Value.slice (some ⟨bb, off, none⟩) n c1 → (((Instr.sliceAt 43 x (some (.int .i64 1)) none none).run Tryd.prog wx).andThen fun a w' => Result.ok (Next.value a) w') = Result.ok (Next.value (.slice a2 (n - 1) (c1 - 1))) wx := by
          rintro wx _ rfl; rw [hsl wx]; rfl
        refine wp_region_M (fun wx : World => Below wr.heap.size wr wx) (fun j => decide (j < 7)) 8 rfl (by kernel_rfl) ?_
        refine wpM_held 0 (v := ?_) rfl (by kernel_rfl) (by kernel_rfl) rfl (fun _ _ _ h => h) rfl (by intro wx hx; go_simp <;> rfl) hS ?_
        refine wpM_held 1 (v := .bool ny) rfl (by kernel_rfl) (by kernel_rfl) rfl (fun _ _ _ h => h) rfl (by intro wx hx; obtain ⟨x0, x1⟩ := duo wx hx; go_simp <;> rfl) hS ?_
        refine wpM_held 2 (v := ?_) rfl (by kernel_rfl) (by kernel_rfl) rfl (fun _ _ _ h => h) rfl (by intro wx hx; go_simp <;> rfl) hS ?_
        refine wpM_held 3 (v := .slice (some ⟨bb, off, none⟩) n c1) rfl (by kernel_rfl) (by kernel_rfl) rfl (fun _ _ _ h => h) rfl (by intro wx hx; obtain ⟨x0, x1⟩ := duo wx hx; go_simp <;> rfl) hS ?_
        refine wpM_held 4 (v := .slice a2 (n - 1) (c1 - 1)) rfl (by kernel_rfl) (by kernel_rfl) rfl (fun _ _ _ h => h) rfl (by intro wx hx; simp [execOp, Act.eval]; exact keyS wx _ rfl) hS ?_
        refine wpM_one 5 rfl (by kernel_rfl) rfl ?_
        go_wp2_with fail
        refine ⟨fun _ => hS, ?_⟩
        refine wpM_one 6 rfl (by kernel_rfl) rfl ?_
        go_wp2_with fail
        refine Calls.mono (HTR _ hS).out ?_
        rintro _ wb ⟨v2, rfl, hV2, b2⟩
        obtain ⟨s2, rfl, hD2⟩ := hV2
        obtain ⟨_, a6, c6, rfl, _, _⟩ := id hD2
        have hW3 : Below wr.heap.size wr wb := hS.trans (b2.mono hS.size)
        clear b2 HTR hS
        unfold bv
        rw [HNY2.out]
        rw [HY2.out.2.2.1] at hD2
        rw [HY2.out.2.2.1]
        go_wp2_with fail
        refine ⟨fun _ => hW3, ?_⟩
        have p2 := hbig.below hW3 hbig.lt
        obtain ⟨y0, y1⟩ := p2.duo
        have zf := p2.frozen
        have hT2 := HT1.out.put rfl hK hW3 hD2 ny HNY2.out
        refine wpM_one 7 rfl (by kernel_rfl) rfl ?_
        go_wp2_with fail
        refine ⟨fun h => by simp at h, ?_⟩
        refine wpM_done (by kernel_rfl) ?_
        go_wp2
        go_roundw
        case rel => exact ⟨y', f + 1, a6, n - 1, c6, by go_num, hT2, HY2, by omega, hf3, by omega⟩
        case measure => simp [intOf]; omega
      · have gd : ((d : Int) == 0) = false := by simp only [beq_eq_false_iff_ne]; omega
        have HYD : Hid (y.natAbs % 10 ≠ 0 ∧ tell y f = tell z e) := ⟨by rw [HD9.out]; exact h0, HY.out.2.1⟩
        have HY0 : Hid (y ≠ 0) := hy0
        have HNN : Hid ((digs y.natAbs).length = n) := HY.out.2.2.1
        have HT1 : Hid (TlAt w K y (.slice (some ⟨bb, off, none⟩) n c1) wr) := hT1
        clear h0 HY HD9 HTL HN hsl hT1 hy0
        go_wp2
        clear d0 d1 hc0 hbig gd
        go_loopw [5] (fun v5 wx => ∃ (k : Nat) (a : Option Addr) (n c : Nat), v5 = .int .i64 (f - (k : Int)) ∧ Hid (TlAt w K (y * 10 ^ k) (.slice a n c) wx) ∧ Hid ((digs (y * 10 ^ k).natAbs).length = n ∧ (k = 0 ∨ 18 ≤ f - (k : Int))) ∧ n ≤ 1400 ∧ -4000 ≤ f - (k : Int) ∧ (k : Int) ≤ 10000) (fun v5 _ => (intOf v5 + 600).toNat)
        case atStart => exact ⟨0, _, n, c1, by simp, by show TlAt _ _ _ _ _; simpa using HT1.out, by show _ ∧ _; exact ⟨by simpa using HNN.out, .inl rfl⟩, hn200, by simpa using hf1, by omega⟩
        case round =>
          obtain ⟨k, a5, n5, c5, rfl, HT5, HN5, hn5, hk1, hk2⟩ := hrel
          clear HT1 HNN
          obtain ⟨x, hx⟩ : ∃ x, y * 10 ^ k = x := ⟨_, rfl⟩
          rw [hx] at HT5 HN5
          obtain ⟨nx, HNX⟩ : ∃ nx, Hid (decide (x < 0) = nx) := ⟨_, rfl⟩
          obtain ⟨g, hg⟩ : ∃ g, f - (k : Int) = g := ⟨_, rfl⟩
          have hbig := HT5.out.big
          rw [HNX.out] at hbig
          obtain ⟨d0, d1⟩ := hbig.duo
          have hres := HT5.out.res
          obtain ⟨e0, e1⟩ := hres.duo
          have hlK := hbig.lt
          have hlR := hres.lt
          have ff := hres.frozen
          have HG : Hid (f - (k : Int) = g) := hg
          have HX : Hid (y * 10 ^ k = x) := hx
          have hgu : g ≤ 6000 := by omega
          rw [hg] at hk1 ⊢
          clear hx hg
          by_cases hc : 18 < g
          · by_cases hn30 : n5 < 30
            · have g2 : (n5 : Int) < 30 := by omega
              have HSH : ∀ V, Below wr.heap.size wr V → Hid (Calls Tryd.prog 58 #[.agg #[.bool nx, .slice a5 n5 c5], .int .i64 1] V fun r w' => ∃ v', r = .returned v' ∧ BigV w' (x * 10 ^ 1) v' ∧ Below V.heap.size V w') := fun V h => by
                have := shift_any x (bv (decide (x < 0)) (.slice a5 n5 c5)) 1 V ⟨_, rfl, HT5.out.dg.below h⟩ (by omega) (by rw [HN5.out.1]; omega)
                rw [HNX.out] at this
                exact this
              have hx1 : y * 10 ^ (k + 1) = x * 10 ^ 1 := by rw [← HX.out, Int.pow_succ, Int.pow_succ, Int.pow_zero, Int.one_mul, Int.mul_assoc]
              have HX1 : Hid (y * 10 ^ (k + 1) = x * 10 ^ 1) := hx1
              obtain ⟨n6, hn6e⟩ : ∃ n6, (digs (x * 10 ^ 1).natAbs).length = n6 := ⟨_, rfl⟩
              have HN6 : Hid ((digs (x * 10 ^ 1).natAbs).length = n6) := hn6e
              clear hn6e
              have hn6 : n6 ≤ 1400 := by
                rw [← HN6.out]
                refine Nat.le_trans (digs_len _ 31 ?_) (by omega)
                have h1 := HN5.out.1
                have h2 : x.natAbs < 10 ^ 30 := by
                  have := dval_lt (digs_dg x.natAbs)
                  rw [dval_digs, h1] at this
                  have h3 : (10 : Nat) ^ n5 ≤ 10 ^ 30 := Nat.pow_le_pow_right (by decide) (by omega)
                  have h4 : (x.natAbs : Int) < ((10 ^ n5 : Nat) : Int) := by rw [Int.natCast_pow]; exact this
                  omega
                rw [Int.natAbs_mul]
                have : ((10 : Int) ^ 1).natAbs = 10 := rfl
                rw [this, Nat.pow_succ]
                omega
              obtain ⟨nz, hnz⟩ : ∃ nz, decide (x * 10 ^ 1 < 0) = nz := ⟨_, rfl⟩
              have HNZ : Hid (decide (x * 10 ^ 1 < 0) = nz) := hnz
              clear hnz
              clear hx1 hn30 HV e0 e1 ff
              go_wp2_with fail
              refine Calls.mono (HSH _ (Below.refl _ _)).out ?_
              rintro _ wb ⟨v2, rfl, hV2, b2⟩
              obtain ⟨s2, rfl, hD2⟩ := hV2
              obtain ⟨_, a6, c6, rfl, _, _⟩ := id hD2
              unfold bv
              rw [HNZ.out]
              rw [HN6.out] at hD2
              rw [HN6.out]
              have p2 := hbig.below b2 hbig.lt
              clear d0 d1
              obtain ⟨y0, y1⟩ := p2.duo
              have zf := p2.frozen
              have hlb := p2.lt
              have hT6 := HT5.out.put rfl hK b2 hD2 nz HNZ.out
              have HT6 : Hid (TlAt w K (y * 10 ^ (k + 1)) (.slice a6 n6 c6) ((wb.setCell ⟨K, 0, none⟩ (.bool nz)).setCell ⟨K, 1, none⟩ (.slice a6 n6 c6))) := by show TlAt _ _ _ _ _; rw [HX1.out]; exact hT6
              have HN7 : Hid ((digs (y * 10 ^ (k + 1)).natAbs).length = n6 ∧ (k + 1 = 0 ∨ 18 ≤ f - ((k + 1 : Nat) : Int))) := by
                show _ ∧ _
                rw [HX1.out]
                exact ⟨HN6.out, .inr (by have := HG.out; omega)⟩
              have HG2 : Hid (f - ((k + 1 : Nat) : Int) = g - 1) := by show _ = _; have := HG.out; omega
              clear b2 hT6 HSH HT5 p2
              go_wp2
              go_roundw
              case rel => exact ⟨k + 1, a6, n6, c6, by rw [HG2.out], HT6, HN7, hn6, by rw [HG2.out]; omega, by have := HG.out; omega⟩
              case measure => simp [intOf]; omega
            · have g2 : decide ((n5 : Int) < 30) = false := decide_eq_false (by omega)
              have g3 : decide (n5 < 30) = false := decide_eq_false hn30
              have HMA : Hid (tell y f = none) := tell_many y f k HYD.out.1 (by have := HG.out; omega) (by rw [HX.out, HN5.out.1]; omega)
              have HVN : Hid (v = .tuple #[.agg #[.int .i64 0, .int .i64 0], .int .i64 30]) := by
                show _ = _
                rw [HV.out, ← HYD.out.2, HMA.out]; rfl
              have hZe := Row.set2 hres (.int .i64 0) (.int .i64 0)
              have hBe := below_set (below_set HT5.out.below (B := w.heap.size + 1) 0 (.int .i64 0) (by omega)) (B := w.heap.size + 1) 1 (.int .i64 0) (by omega)
              clear HV HT5
              go_wp2
              exact bodyPost_ret (ret_two rfl (g := w.heap.size + 1) rfl rfl (load23 hZe rfl)) rfl ⟨by rw [HVN.out]; rfl, hBe⟩
          · have g1 : decide (18 < g) = false := decide_eq_false hc
            have hfin := tell_fin y f k HYD.out.1 HN5.out.2 (by have := HG.out; omega)
            rw [HX.out, HG.out] at hfin
            have HFI : Hid (tell y f = if fitsB x = true ∧ -18 ≤ g then some (x, g) else none) := hfin
            clear hfin
            by_cases hlow : g < -18
            · have HMA : Hid (tell y f = none) := by show _ = _; rw [HFI.out, if_neg (by omega)]
              have HVN : Hid (v = .tuple #[.agg #[.int .i64 0, .int .i64 0], .int .i64 30]) := by
                show _ = _
                rw [HV.out, ← HYD.out.2, HMA.out]; rfl
              have hZe := Row.set2 hres (.int .i64 0) (.int .i64 0)
              have hBe := below_set (below_set HT5.out.below (B := w.heap.size + 1) 0 (.int .i64 0) (by omega)) (B := w.heap.size + 1) 1 (.int .i64 0) (by omega)
              clear HV HT5
              go_wp2
              exact bodyPost_ret (ret_two rfl (g := w.heap.size + 1) rfl rfl (load23 hZe rfl)) rfl ⟨by rw [HVN.out]; rfl, hBe⟩
            · have g2 : decide (g < -18) = false := decide_eq_false hlow
              have HFT : Hid (Calls Tryd.prog 79 #[.agg #[.bool nx, .slice a5 n5 c5]] wr fun r w' => r = .returned (.bool (fitsB x)) ∧ Below wr.heap.size wr w') := by
                have := fits_any x (bv (decide (x < 0)) (.slice a5 n5 c5)) wr ⟨_, rfl, HT5.out.dg⟩ (by rw [HN5.out.1]; omega)
                rw [HNX.out] at this
                exact this
              obtain ⟨fb, HFB⟩ : ∃ fb, Hid (fitsB x = fb) := ⟨_, rfl⟩
              rw [HFB.out] at HFT
              go_wp2_with fail
              refine Calls.mono HFT.out ?_
              rintro _ wb ⟨rfl, b2⟩
              have HT6 : Hid (TlAt w K x (.slice a5 n5 c5) wb) := HT5.out.mono b2
              have hres := HT6.out.res
              have hbig := HT6.out.big
              rw [HNX.out] at hbig
              clear d0 d1 e0 e1 ff hlR hlK b2 HFT HT5
              obtain ⟨d0, d1⟩ := hbig.duo
              obtain ⟨e0, e1⟩ := hres.duo
              have ff := hres.frozen
              have hlR := hres.lt
              cases fb
              · have HMA : Hid (tell y f = none) := by show _ = _; rw [HFI.out, if_neg (by rw [HFB.out]; simp)]
                have HVN : Hid (v = .tuple #[.agg #[.int .i64 0, .int .i64 0], .int .i64 30]) := by
                  show _ = _
                  rw [HV.out, ← HYD.out.2, HMA.out]; rfl
                have hZe := Row.set2 hres (.int .i64 0) (.int .i64 0)
                have hBe := below_set (below_set HT6.out.below (B := w.heap.size + 1) 0 (.int .i64 0) (by omega)) (B := w.heap.size + 1) 1 (.int .i64 0) (by omega)
                clear HV HT6
                go_wp2
                exact bodyPost_ret (ret_two rfl (g := w.heap.size + 1) rfl rfl (load23 hZe rfl)) rfl ⟨by rw [HVN.out]; rfl, hBe⟩
              · have HVS : Hid (v = .tuple #[.agg #[.int .i64 x, .int .i64 g], .int .i64 0]) := by
                  show _ = _
                  rw [HV.out, ← HYD.out.2, HFI.out, if_pos ⟨HFB.out, by omega⟩]; rfl
                have HXB : Hid (-9223372036854775808 ≤ x ∧ x ≤ 9223372036854775807) := by
                  have := HFB.out
                  unfold fitsB at this
                  simp at this
                  exact this
                clear HV HYD HFI HX HG
                cases nx
                · go_wp2
                  clear d0 d1 e0 e1 ff hlR hres hbig
                  go_loopw [6, 7] (fun v6 v7 wx => ∃ (m : Nat) (c : Int), m ≤ n5 ∧ v7 = .int .i64 ((m : Int) - 1) ∧ v6 = .int .i64 c ∧ Hid (c = bval false ((digs x.natAbs).drop m)) ∧ Hid (TlAt w K x (.slice a5 n5 c5) wx)) (fun _ v7 _ => (intOf v7 + 1).toNat)
                  case atStart => exact ⟨n5, 0, Nat.le_refl _, by first | rfl | go_num, rfl, by show _ = _; rw [List.drop_of_length_le (by rw [HN5.out.1]; exact Nat.le_refl _)]; rfl, HT6⟩
                  case round =>
                  obtain ⟨m, c7, hm, rfl, rfl, HC, HT8⟩ := hrel
                  clear HT6
                  have hres := HT8.out.res
                  have hbig := HT8.out.big
                  rw [HNX.out] at hbig
                  obtain ⟨d0, d1⟩ := hbig.duo
                  obtain ⟨e0, e1⟩ := hres.duo
                  have ff := hres.frozen
                  have hlR := hres.lt
                  by_cases hm0 : m = 0
                  · subst hm0
                    have hcx : c7 = x := by
                      have h1 := HC.out
                      rw [List.drop_zero] at h1
                      rw [h1]
                      have h2 := HNX.out
                      unfold bval
                      rw [dval_digs]
                      simp at h2 ⊢
                      omega
                    have HCX : Hid (c7 = x) := hcx
                    have hZe := Row.set2 hres (.int .i64 c7) (.int .i64 g)
                    have hBe := below_set (below_set HT8.out.below (B := w.heap.size + 1) 0 (.int .i64 c7) (by omega)) (B := w.heap.size + 1) 1 (.int .i64 g) (by omega)
                    clear HT8 hcx
                    go_wp2
                    exact bodyPost_ret (ret_two rfl (g := w.heap.size + 1) rfl rfl (load23 hZe rfl)) rfl ⟨by rw [HVS.out, ← HCX.out]; rfl, hBe⟩
                  · obtain ⟨i, hi⟩ : ∃ i, m = i + 1 := ⟨m - 1, by omega⟩
                    have hki : (m : Int) - 1 = (i : Int) := by omega
                    have HMI : Hid (m = i + 1) := hi
                    have hin : (i : Int) < (n5 : Int) := by omega
                    obtain ⟨b5, off5, hab, _, hci⟩ := HT8.out.dg.1.at i (by rw [HN5.out.1]; omega)
                    subst hab
                    obtain ⟨d7, hd7⟩ : ∃ d7, (digs x.natAbs)[i]?.getD 0 = d7 := ⟨_, rfl⟩
                    rw [hd7] at hci
                    have hdb := (digs_dg x.natAbs).get i
                    rw [hd7] at hdb
                    have hdr := dval_drop (digs x.natAbs) i (by rw [HN5.out.1]; omega)
                    rw [hd7, ← hi] at hdr
                    have hb1 := dval_drop_le (digs_dg x.natAbs) i
                    have hb2 := dval_drop_le (digs_dg x.natAbs) m
                    rw [dval_digs] at hb1 hb2
                    obtain ⟨c8, hc8⟩ : ∃ c8, c7 * 10 + d7 = c8 := ⟨_, rfl⟩
                    have hcv := HC.out
                    have HC8 : Hid (c8 = bval false ((digs x.natAbs).drop i)) := by
                      show _ = _
                      rw [← hc8, hcv]
                      unfold bval
                      simp
                      omega
                    have hc8v := HC8.out
                    have hxs := HNX.out
                    have hfx := HXB.out
                    have k1 : -9223372036854775808 ≤ c7 * 10 := by unfold bval at hcv hc8v; simp at hcv hc8v hxs; omega
                    have k2 : c7 * 10 ≤ 9223372036854775807 := by unfold bval at hcv hc8v; simp at hcv hc8v hxs; omega
                    have k3 : -9223372036854775808 ≤ c8 := by unfold bval at hcv hc8v; simp at hcv hc8v hxs; omega
                    have k4 : c8 ≤ 9223372036854775807 := by unfold bval at hcv hc8v; simp at hcv hc8v hxs; omega
                    clear hi hm0 hdr hb1 hb2 hdb hd7 hcv hc8v hxs hfx hres
                    go_wp2
                    go_roundw
                    case rel => exact ⟨i, c8, by omega, by go_num, by first | rfl | go_num, HC8, HT8⟩
                    case measure => have := HMI.out; simp [intOf]; omega
                · go_wp2
                  clear d0 d1 e0 e1 ff hlR hres hbig
                  go_loopw [6, 7] (fun v6 v7 wx => ∃ (m : Nat) (c : Int), m ≤ n5 ∧ v7 = .int .i64 ((m : Int) - 1) ∧ v6 = .int .i64 c ∧ Hid (c = bval true ((digs x.natAbs).drop m)) ∧ Hid (TlAt w K x (.slice a5 n5 c5) wx)) (fun _ v7 _ => (intOf v7 + 1).toNat)
                  case atStart => exact ⟨n5, 0, Nat.le_refl _, by first | rfl | go_num, rfl, by show _ = _; rw [List.drop_of_length_le (by rw [HN5.out.1]; exact Nat.le_refl _)]; rfl, HT6⟩
                  case round =>
                  obtain ⟨m, c7, hm, rfl, rfl, HC, HT8⟩ := hrel
                  clear HT6
                  have hres := HT8.out.res
                  have hbig := HT8.out.big
                  rw [HNX.out] at hbig
                  obtain ⟨d0, d1⟩ := hbig.duo
                  obtain ⟨e0, e1⟩ := hres.duo
                  have ff := hres.frozen
                  have hlR := hres.lt
                  by_cases hm0 : m = 0
                  · subst hm0
                    have hcx : c7 = x := by
                      have h1 := HC.out
                      rw [List.drop_zero] at h1
                      rw [h1]
                      have h2 := HNX.out
                      unfold bval
                      rw [dval_digs]
                      simp at h2 ⊢
                      omega
                    have HCX : Hid (c7 = x) := hcx
                    have hZe := Row.set2 hres (.int .i64 c7) (.int .i64 g)
                    have hBe := below_set (below_set HT8.out.below (B := w.heap.size + 1) 0 (.int .i64 c7) (by omega)) (B := w.heap.size + 1) 1 (.int .i64 g) (by omega)
                    clear HT8 hcx
                    go_wp2
                    exact bodyPost_ret (ret_two rfl (g := w.heap.size + 1) rfl rfl (load23 hZe rfl)) rfl ⟨by rw [HVS.out, ← HCX.out]; rfl, hBe⟩
                  · obtain ⟨i, hi⟩ : ∃ i, m = i + 1 := ⟨m - 1, by omega⟩
                    have hki : (m : Int) - 1 = (i : Int) := by omega
                    have HMI : Hid (m = i + 1) := hi
                    have hin : (i : Int) < (n5 : Int) := by omega
                    obtain ⟨b5, off5, hab, _, hci⟩ := HT8.out.dg.1.at i (by rw [HN5.out.1]; omega)
                    subst hab
                    obtain ⟨d7, hd7⟩ : ∃ d7, (digs x.natAbs)[i]?.getD 0 = d7 := ⟨_, rfl⟩
                    rw [hd7] at hci
                    have hdb := (digs_dg x.natAbs).get i
                    rw [hd7] at hdb
                    have hdr := dval_drop (digs x.natAbs) i (by rw [HN5.out.1]; omega)
                    rw [hd7, ← hi] at hdr
                    have hb1 := dval_drop_le (digs_dg x.natAbs) i
                    have hb2 := dval_drop_le (digs_dg x.natAbs) m
                    rw [dval_digs] at hb1 hb2
                    obtain ⟨c8, hc8⟩ : ∃ c8, c7 * 10 - d7 = c8 := ⟨_, rfl⟩
                    have hcv := HC.out
                    have HC8 : Hid (c8 = bval true ((digs x.natAbs).drop i)) := by
                      show _ = _
                      rw [← hc8, hcv]
                      unfold bval
                      simp
                      omega
                    have hc8v := HC8.out
                    have hxs := HNX.out
                    have hfx := HXB.out
                    have k1 : -9223372036854775808 ≤ c7 * 10 := by unfold bval at hcv hc8v; simp at hcv hc8v hxs; omega
                    have k2 : c7 * 10 ≤ 9223372036854775807 := by unfold bval at hcv hc8v; simp at hcv hc8v hxs; omega
                    have k3 : -9223372036854775808 ≤ c8 := by unfold bval at hcv hc8v; simp at hcv hc8v hxs; omega
                    have k4 : c8 ≤ 9223372036854775807 := by unfold bval at hcv hc8v; simp at hcv hc8v hxs; omega
                    clear hi hm0 hdr hb1 hb2 hdb hd7 hcv hc8v hxs hfx hres
                    go_wp2
                    go_roundw
                    case rel => exact ⟨i, c8, by omega, by go_num, by first | rfl | go_num, HC8, HT8⟩
                    case measure => have := HMI.out; simp [intOf]; omega
end Go.Proofs.YtfbhonjndepjbaaDoor
/- Tell of any number; num: a Dec's number. -/
namespace Go.Proofs.YtfbhonjndepjbaaDoor
open Go.RowKit

set_option maxRecDepth 100000 in
set_option maxHeartbeats 1000000 in
theorem tell_nought (z e : Int) (sv : Value) (w : World) (hz : z = 0) (hD : DgAt w sv (digs z.natAbs)) :
    Calls Tryd.prog 45 #[.agg #[.bool (decide (z < 0)), sv, .int .i64 e]] w fun r w' => r = .returned (.tuple #[.agg #[.int .i64 0, .int .i64 0], .int .i64 0]) ∧ Below w.heap.size w w' := by
  obtain ⟨ng, HNG⟩ : ∃ ng, Hid (decide (z < 0) = ng) := ⟨_, rfl⟩
  rw [HNG.out]
  obtain ⟨_, a, c, rfl, _, _⟩ := id hD
  obtain ⟨L, HL⟩ : ∃ L, Hid ((digs z.natAbs).length = L) := ⟨_, rfl⟩
  obtain rfl : L = 0 := by rw [← HL.out, hz]; exact congrArg List.length digs_zero
  rw [HL.out] at hD
  rw [HL.out]
  have HD : Hid (DgAt w (.slice a 0 c) (digs z.natAbs)) := hD
  clear hD
  go_enter Tryd.func45, Tryd.ntmps45
  go_wp2_with fail
  have r0 := (Row.new w 47 #[.bool ng, .slice a 0 c, .int .i64 e]).alloc (.cells #[.int .i64 0, .int .i64 0] 23)
  have r1 := Row.new1 w (.cells #[.bool ng, .slice a 0 c, .int .i64 e] 47) 23 #[.int .i64 0, .int .i64 0]
  have hB := ((Below.refl _ w).alloc (Nat.le_refl _) (.cells #[.bool ng, .slice a 0 c, .int .i64 e] 47)).alloc (by simp) (.cells #[.int .i64 0, .int .i64 0] 23)
  have hWs : ((w.alloc (.cells #[.bool ng, .slice a 0 c, .int .i64 e] 47)).alloc (.cells #[.int .i64 0, .int .i64 0] 23)).heap.size = w.heap.size + 2 := by simp
  generalize (w.alloc (.cells #[.bool ng, .slice a 0 c, .int .i64 e] 47)).alloc (.cells #[.int .i64 0, .int .i64 0] 23) = W at *
  have HWs : Hid (W.heap.size = w.heap.size + 2) := hWs
  clear hWs
  have hS : Below W.heap.size W W.drew := (Below.refl _ W).drew
  have tri : ∀ wx, Below W.heap.size W wx → wx.cell? ⟨w.heap.size, 0, none⟩ = some (.bool ng) ∧ wx.cell? ⟨w.heap.size, 1, none⟩ = some (.slice a 0 c) ∧ wx.cell? ⟨w.heap.size, 2, none⟩ = some (.int .i64 e) := fun wx hx =>
    ⟨(r0.below hx r0.lt).cell rfl, (r0.below hx r0.lt).cell rfl, (r0.below hx r0.lt).cell rfl⟩
  refine wp_region_M (fun wx : World => Below W.heap.size W wx) (fun j => decide (j < 7)) 7 rfl (by kernel_rfl) ?_
  refine wpM_held 0 (v := ?_) rfl (by kernel_rfl) (by kernel_rfl) rfl (fun _ _ _ h => h) rfl (by intro wx hx; go_simp <;> rfl) hS ?_
  refine wpM_held 1 (v := .agg #[.bool ng, .slice a 0 c]) rfl (by kernel_rfl) (by kernel_rfl) rfl (fun _ _ _ h => h) rfl (by intro wx hx; obtain ⟨x0, x1, x2⟩ := tri wx hx; go_simp <;> rfl) hS ?_
  refine wpM_held 2 (v := ?_) rfl (by kernel_rfl) (by kernel_rfl) rfl (fun _ _ _ h => h) rfl (by intro wx hx; go_simp <;> rfl) hS ?_
  refine wpM_held 3 (v := .int .i64 e) rfl (by kernel_rfl) (by kernel_rfl) rfl (fun _ _ _ h => h) rfl (by intro wx hx; obtain ⟨x0, x1, x2⟩ := tri wx hx; go_simp <;> rfl) hS ?_
  refine wpM_one 4 rfl (by kernel_rfl) rfl ?_
  go_wp2_with fail
  have hW1 : ∀ o, Below W.heap.size W (W.alloc o).drew := fun o => ((Below.refl _ W).alloc (Nat.le_refl _) o).drew
  refine ⟨fun _ => hW1 _, ?_⟩
  refine wpM_one 5 rfl (by kernel_rfl) rfl ?_
  go_wp2_with fail
  refine ⟨fun _ => hW1 _, ?_⟩
  refine wpM_one 6 rfl (by kernel_rfl) rfl ?_
  go_wp2_with fail
  refine ⟨fun _ => hW1 _, ?_⟩
  refine wpM_done (by kernel_rfl) ?_
  have hT : TlAt w W.heap.size z (.slice a 0 c) (W.alloc (.cells #[.bool ng, .slice a 0 c] 45)).drew := by
    have hx := hW1 (.cells #[.bool ng, .slice a 0 c] 45)
    refine ⟨r1.below hx r1.lt, ?_, (HD.out.below hB).below hx, hB.trans (hx.mono (by have := HWs.out; omega))⟩
    rw [HNG.out]
    exact Row.new W 45 _
  generalize (W.alloc (.cells #[.bool ng, .slice a 0 c] 45)).drew = W2 at *
  clear r0 r1 hB hS tri HD hW1
  have hK : w.heap.size + 1 < W.heap.size := by have := HWs.out; omega
  clear HWs
  generalize W.heap.size = K at *
  clear W
  have hbig := hT.big
  rw [HNG.out] at hbig
  obtain ⟨d0, d1⟩ := hbig.duo
  obtain ⟨f0, f1⟩ := hT.res.duo
  have ff := hT.res.frozen
  have hlt1 := hT.res.lt
  have hZe := Row.set2 hT.res (.int .i64 0) (.int .i64 0)
  have hBe := below_set (below_set hT.below (B := w.heap.size + 1) 0 (.int .i64 0) (by omega)) (B := w.heap.size + 1) 1 (.int .i64 0) (by omega)
  go_wp2
  exact bodyPost_ret (ret_two rfl (g := w.heap.size + 1) rfl rfl (load23 hZe rfl)) rfl ⟨rfl, hBe⟩
/-- A Num: a whole number times ten to the e. -/
def NumV (w : World) (z e : Int) (v : Value) : Prop := ∃ sv, v = .agg #[.bool (decide (z < 0)), sv, .int .i64 e] ∧ DgAt w sv (digs z.natAbs)
theorem told_big (z e : Int) (v : Value) (w : World) (hV : NumV w z e v) (he1 : -4000 ≤ e) (he2 : e ≤ 4000) (hl : (digs z.natAbs).length ≤ 1400) :
    Calls Tryd.prog 45 #[v] w fun r w' => r = .returned (decV (tell z e)) ∧ Below w.heap.size w w' := by
  obtain ⟨sv, rfl, hD⟩ := hV
  by_cases hz : z = 0
  · rw [show tell z e = some (0, 0) by rw [hz]; simp [tell, tellW_zero]]
    exact tell_nought z e sv w hz hD
  · exact tell_head z e sv w hz hD _ rfl he1 he2 hl
theorem told_any' (z e : Int) (v : Value) (w : World) (hV : NumV w z e v) (he1 : -2000 ≤ e) (he2 : e ≤ 2000) (hl : (digs z.natAbs).length ≤ 500) :
    Calls Tryd.prog 45 #[v] w fun r w' => r = .returned (decV (tell z e)) ∧ Below w.heap.size w w' :=
  told_big z e v w hV (by omega) (by omega) (by omega)
section
variable {P : Program} {ops : Array Oper} {Q : Exit → Act → World → Prop} {S : World → Prop} {E : Nat → Bool}
/-- An operation whose guard says no, held beside others. -/
theorem wpM_skiph (i : Nat) {o : Oper} {listed listed' : Array Bool} {fuel : Nat} {a : Act} {w : World} (ho : ops[i]? = some o) (hs : Region.noSelect ops = true)
    (hB : (closedB .any ops listed && Region.free .any ops listed i && (Region.ready .any ops listed).contains i && lateB .any ops E listed i) = true) (hL : listed.setIfInBounds i true = listed')
    (hQ : ∀ c a w, Q (.panic c) (a.put o.dst undef) w → Q (.panic c) a w) (hw : Region.wanted o (yielded ops a.tmps) = false) (hS : S w)
    (h : wpM P ops Q S E fuel listed' (a.put o.dst undef) w) : wpM P ops Q S E (fuel + 1) listed a w := by
  subst hL
  simp only [Bool.and_eq_true] at hB
  refine wpX_first ho (Region.noSelect_spec hs) hQ _ _ a w (closed_of_B hB.1.1.1) ?_ (Region.free_spec ho hB.1.1.2) (by simpa using hB.1.2) (.inr ⟨hw, rfl⟩) hS h
  intro j oj hj hl hE hji
  have := List.all_eq_true.1 hB.2 j (List.mem_range.2 (Array.getElem?_eq_some_iff.1 hj).1)
  simpa [hE, hl, hji] using this
end
theorem Tryd.zero45 : (Tryd.prog.info? 47).map (fun i => (i.zero, i.size)) = some (some (.agg #[.bool false, .slice none 0 0, .int .i64 0]), 3) := by kernel_rfl
theorem load45 {W : World} {B : Nat} {cs : Array Value} (h : Row W B 47 cs) (hs : cs.size = 3) : (loadVar 47 ⟨B, 0, none⟩).run Tryd.prog W = .ok (.agg cs) W :=
  run_loadVar_row _ _ 47 47 cs (0, 0) _ h Tryd.underlying47 rfl (by rw [hs]; exact (zero_of_info Tryd.zero45).2)
/-- A block below the digits is written. -/
theorem DgAt.off {W : World} {sv : Value} {ds : List Int} (h : DgAt W sv ds) {B : Nat} (hN : NewS (B + 1) sv) (i : Nat) (u : Value) : DgAt (W.setCell ⟨B, i, none⟩ u) sv ds := by
  refine ⟨?_, h.2⟩
  have hk := (Kept.refl (fun k => k ≠ B) W).setCell (p := ⟨B, i, none⟩) (by simp) u
  rcases h.1 with h0 | ⟨b, off, c, e, hb, hc⟩
  · exact .inl h0
  · by_cases h0 : ds = []
    · subst h0; exact .inl ⟨rfl, _, _, e⟩
    · have hl : 0 < ds.length := List.length_pos_iff.2 h0
      have hne : b ≠ B := by have := hN b off none ds.length c e hl; omega
      exact .inr ⟨b, off, c, e, Nat.lt_of_lt_of_le hb hk.size, fun j hj => (hk.cell (p := ⟨b, off + j, none⟩) hne).trans (hc j hj)⟩
end Go.Proofs.YtfbhonjndepjbaaDoor
/- Quo: what lies in memory, and a round of it (pure). -/
namespace Go.Proofs.YtfbhonjndepjbaaDoor
open Go.RowKit

/-- What lies in memory while a quotient is made. -/
structure QuSt (w : World) (va vb : Value) (ar : Option Addr) (nr cr : Nat) (qs : List Int) (r : Int) (wr : World) : Prop where
  ra : Row wr w.heap.size 45 #[.bool false, va]
  rb : Row wr (w.heap.size + 1) 45 #[.bool false, vb]
  y1 : Row wr (w.heap.size + 1 + 1) 45 #[.bool false, .slice none 0 0]
  y2 : Row wr (w.heap.size + 1 + 1 + 1) 45 #[.bool false, .slice none 0 0]
  rd : Row wr (w.heap.size + 1 + 1 + 1 + 1) 3 (dcell qs)
  rr : Row wr (w.heap.size + 1 + 1 + 1 + 1 + 1) 45 #[.bool false, .slice ar nr cr]
  dr : DgAt wr (.slice ar nr cr) (digs r.natAbs)
  be : Below w.heap.size w wr
theorem QuSt.mono {w : World} {va vb : Value} {ar : Option Addr} {nr cr : Nat} {qs : List Int} {r : Int} {wr wx : World} (h : QuSt w va vb ar nr cr qs r wr) (hb : Below wr.heap.size wr wx) : QuSt w va vb ar nr cr qs r wx :=
  ⟨h.ra.below hb h.ra.lt, h.rb.below hb h.rb.lt, h.y1.below hb h.y1.lt, h.y2.below hb h.y2.lt, h.rd.below hb h.rd.lt, h.rr.below hb h.rr.lt, h.dr.below hb, h.be.trans (hb.mono h.be.size)⟩
/-- Another rest is put. -/
theorem QuSt.put {w : World} {va vb : Value} {ar ar' : Option Addr} {nr cr nr' cr' : Nat} {qs : List Int} {r r' : Int} {wr : World} (h : QuSt w va vb ar nr cr qs r wr) (hD : DgAt wr (.slice ar' nr' cr') (digs r'.natAbs)) :
    QuSt w va vb ar' nr' cr' qs r' ((wr.setCell ⟨w.heap.size + 1 + 1 + 1 + 1 + 1, 0, none⟩ (.bool false)).setCell ⟨w.heap.size + 1 + 1 + 1 + 1 + 1, 1, none⟩ (.slice ar' nr' cr')) :=
  ⟨(h.ra.other (by omega) _ _).other (by omega) _ _, (h.rb.other (by omega) _ _).other (by omega) _ _, (h.y1.other (by omega) _ _).other (by omega) _ _, (h.y2.other (by omega) _ _).other (by omega) _ _, (h.rd.other (by omega) _ _).other (by omega) _ _,
    Row.set2 h.rr _ _, hD.store h.rr _ _, below_set (below_set h.be 0 _ (by omega)) 1 _ (by omega)⟩
/-- A place of the quotient is written. -/
theorem QuSt.set {w : World} {va vb : Value} {ar : Option Addr} {nr cr : Nat} {qs : List Int} {r : Int} {wr : World} (h : QuSt w va vb ar nr cr qs r wr) (hN : NewS (w.heap.size + 1 + 1 + 1 + 1 + 1) (.slice ar nr cr)) (m : Nat) (v : Int) : QuSt w va vb ar nr cr (qs.set m v) r (wr.setCell ⟨w.heap.size + 1 + 1 + 1 + 1, m, none⟩ (.int .i64 v)) :=
  ⟨h.ra.other (by omega) _ _, h.rb.other (by omega) _ _, h.y1.other (by omega) _ _, h.y2.other (by omega) _ _, by rw [← dcell_set]; exact Row.set m _ h.rd, h.rr.other (by omega) _ _, h.dr.off hN m _, below_set h.be m _ (by omega)⟩
theorem QuSt.at {w : World} {va vb : Value} {ar : Option Addr} {nr cr : Nat} {qs : List Int} {r : Int} {wr : World} (h : QuSt w va vb ar nr cr qs r wr) (m : Nat) (hm : m < qs.length) : wr.cell? ⟨w.heap.size + 1 + 1 + 1 + 1, m, none⟩ = some (.int .i64 (qs[m]?.getD 0)) := h.rd.cell (dcell_get qs m hm)
/-- The outer loop: what stands from place i on is parted. -/
structure QoAt (da qs : List Int) (B r : Int) (i : Nat) : Prop where
  le : qs.length = da.length
  dg : DgL qs
  lo : ∀ m : Nat, m < i → qs[m]?.getD 0 = 0
  re : r = dval (da.drop i) % B
  va : dval (qs.drop i) = dval (da.drop i) / B
/-- The inner loop: how often the divisor was taken off. -/
structure QiAt (da qs : List Int) (B r : Int) (i : Nat) (c : Int) (x : Int) : Prop where
  le : qs.length = da.length
  dg : DgL qs
  lo : ∀ m : Nat, m < i → qs[m]?.getD 0 = 0
  here : qs[i]?.getD 0 = c
  c0 : 0 ≤ c
  eq : x = c * B + r
  r0 : 0 ≤ r
  hi : x < 10 * B
  xe : ∃ X, dval (da.drop i) = 10 * X + (da[i]?.getD 0) ∧ x = 10 * (X % B) + da[i]?.getD 0 ∧ dval (qs.drop (i + 1)) = X / B
theorem QiAt.c9 {da qs : List Int} {B r : Int} {i : Nat} {c x : Int} (h : QiAt da qs B r i c x) (hB : 0 < B) : c ≤ 9 := by
  have h1 := h.eq
  have h2 := h.hi
  have h3 := h.r0
  rcases Int.lt_or_le 9 c with h4 | h4
  · have h5 : 10 * B ≤ c * B := Int.mul_le_mul_of_nonneg_right (by omega) (Int.le_of_lt hB)
    omega
  · exact h4
theorem QiAt.start {da qs : List Int} {B r : Int} {i : Nat} (h : QoAt da qs B r (i + 1)) (hd : DgL da) (hi : i < da.length) (hB : 0 < B) : QiAt da qs B (10 * r + da[i]?.getD 0) i 0 (10 * r + da[i]?.getD 0) := by
  have h1 := Int.emod_nonneg (dval (da.drop (i + 1))) (Int.ne_of_gt hB)
  have h2 := Int.emod_lt_of_pos (dval (da.drop (i + 1))) hB
  have h3 := hd.get i
  have h4 := h.re
  refine ⟨h.le, h.dg, fun m hm => h.lo m (by omega), h.lo i (by omega), Int.le_refl _, by omega, by omega, by omega, dval (da.drop (i + 1)), ?_, by rw [← h4], h.va⟩
  rw [dval_drop da i hi]; omega
theorem QiAt.step {da qs : List Int} {B r : Int} {i : Nat} {c x : Int} (h : QiAt da qs B r i c x) (hi : i < da.length) (hB : 0 < B) (hr : B ≤ r) : QiAt da (qs.set i (c + 1)) B (r - B) i (c + 1) x := by
  have hl : i < qs.length := by rw [h.le]; exact hi
  have e1 : (c + 1) * B = c * B + B := by rw [Int.add_mul, Int.one_mul]
  have h9 : c + 1 ≤ 9 := by
    have h1 := h.eq
    have h2 := h.hi
    rcases Int.lt_or_le 8 c with h4 | h4
    · have h5 : 9 * B ≤ c * B := Int.mul_le_mul_of_nonneg_right (by omega) (Int.le_of_lt hB)
      omega
    · omega
  refine ⟨by rw [List.length_set]; exact h.le, fun d hd => ?_, fun m hm => ?_, by rw [getD_set _ _ _ _ hl, if_pos rfl], by have := h.c0; omega, by have := h.eq; omega, by omega, h.hi, ?_⟩
  · rcases List.mem_or_eq_of_mem_set hd with hd | hd
    · exact h.dg d hd
    · rw [hd]; have := h.c0; omega
  · rw [getD_set _ _ _ _ hl, if_neg (by omega)]; exact h.lo m hm
  · obtain ⟨X, h1, h2, h3⟩ := h.xe
    exact ⟨X, h1, h2, by rw [List.drop_set_of_lt (by omega)]; exact h3⟩
theorem part_step (X d B : Int) (hB : 0 < B) : (10 * X + d) / B = 10 * (X / B) + (10 * (X % B) + d) / B ∧ (10 * X + d) % B = (10 * (X % B) + d) % B := by
  have h1 := Int.mul_ediv_add_emod X B
  have h2 : 10 * X + d = (10 * (X % B) + d) + B * (10 * (X / B)) := by
    rw [Int.mul_left_comm]
    omega
  rw [h2]
  exact ⟨by rw [Int.add_mul_ediv_left _ _ (Int.ne_of_gt hB)]; omega, by rw [Int.add_mul_emod_self_left]⟩
theorem QiAt.done {da qs : List Int} {B r : Int} {i : Nat} {c x : Int} (h : QiAt da qs B r i c x) (hi : i < da.length) (hB : 0 < B) (hr : r < B) : QoAt da qs B r i := by
  obtain ⟨X, h1, h2, h3⟩ := h.xe
  obtain ⟨p1, p2⟩ := part_step X (da[i]?.getD 0) B hB
  have hl : i < qs.length := by rw [h.le]; exact hi
  have e1 := h.eq
  have e2 : x / B = c := by
    rw [e1, Int.add_comm, Int.add_mul_ediv_right _ _ (Int.ne_of_gt hB), Int.ediv_eq_zero_of_lt h.r0 hr]; omega
  have e3 : x % B = r := by
    rw [e1, Int.add_comm, Int.add_mul_emod_self_right, Int.emod_eq_of_lt h.r0 hr]
  refine ⟨h.le, h.dg, h.lo, ?_, ?_⟩
  · rw [h1, p2, ← h2, e3]
  · rw [dval_drop qs i hl, h.here, h3, h1, p1, ← h2, e2]; omega
theorem QoAt.begin (da : List Int) (B : Int) : QoAt da (List.replicate da.length 0) B 0 da.length := by
  refine ⟨List.length_replicate, fun d hd => by rw [(List.mem_replicate.1 hd).2]; omega, fun m hm => by rw [List.getElem?_replicate]; split <;> rfl, ?_, ?_⟩
  · rw [List.drop_of_length_le (Nat.le_refl _)]; simp [dval]
  · rw [List.drop_of_length_le (by simp), List.drop_of_length_le (Nat.le_refl _)]; simp [dval]
end Go.Proofs.YtfbhonjndepjbaaDoor
/- num: a Dec's number. -/
namespace Go.Proofs.YtfbhonjndepjbaaDoor
open Go.RowKit

set_option maxRecDepth 100000 in
set_option maxHeartbeats 1000000 in
theorem num_any (c e : Int) (hc : I64 c) (w : World) : Calls Tryd.prog 53 #[.agg #[.int .i64 c, .int .i64 e]] w fun r w' => ∃ sv, r = .returned (.tuple #[.agg #[.bool (decide (c < 0)), sv, .int .i64 e], .bool (decide (-18 ≤ e ∧ e ≤ 18))]) ∧ DgAt w' sv (digs c.natAbs) ∧ NewS w.heap.size sv ∧ Below w.heap.size w w' := by
  have HO : ∀ W, Hid (Calls Tryd.prog 64 #[.int .i64 c] W fun r w' => ∃ v, r = .returned v ∧ BigV w' c v ∧ NewV W.heap.size v ∧ Below W.heap.size W w') := fun W => of_new c hc W
  obtain ⟨ok, HOK⟩ : ∃ ok, Hid (decide (-18 ≤ e ∧ e ≤ 18) = ok) := ⟨_, rfl⟩
  rw [HOK.out]
  have hcase : (decide (-18 ≤ e) = true ∧ Hid (decide (e ≤ 18) = ok)) ∨ (decide (-18 ≤ e) = false ∧ Hid (false = ok)) := by
    by_cases h : -18 ≤ e
    · exact .inl ⟨decide_eq_true h, by show _ = _; rw [← HOK.out]; simp [h]⟩
    · exact .inr ⟨decide_eq_false h, by show _ = _; rw [← HOK.out]; simp [h]⟩
  rcases hcase with ⟨g1, HO2⟩ | ⟨g1, HO2⟩
  · go_enter Tryd.func53, Tryd.ntmps53
    go_wp2_with fail
    have r0 := (Row.new w 23 #[.int .i64 c, .int .i64 e]).alloc (.cells #[.bool false, .slice none 0 0, .int .i64 0] 47)
    have r1 := Row.new1 w (.cells #[.int .i64 c, .int .i64 e] 23) 47 #[.bool false, .slice none 0 0, .int .i64 0]
    have hB := ((Below.refl _ w).alloc (Nat.le_refl _) (.cells #[.int .i64 c, .int .i64 e] 23)).alloc (by simp) (.cells #[.bool false, .slice none 0 0, .int .i64 0] 47)
    have hWs : w.heap.size + 2 ≤ ((w.alloc (.cells #[.int .i64 c, .int .i64 e] 23)).alloc (.cells #[.bool false, .slice none 0 0, .int .i64 0] 47)).heap.size := by simp
    generalize (w.alloc (.cells #[.int .i64 c, .int .i64 e] 23)).alloc (.cells #[.bool false, .slice none 0 0, .int .i64 0] 47) = W at *
    have hD0 : Below W.heap.size W W.drew := (Below.refl _ W).drew
    have hS : Row W.drew w.heap.size 23 #[.int .i64 c, .int .i64 e] := r0.below hD0 r0.lt
    refine wp_region_M (fun wx : World => Row wx w.heap.size 23 #[.int .i64 c, .int .i64 e]) (fun j => decide (j < 15)) 16 rfl (by kernel_rfl) ?_
    refine wpM_held 0 (v := ?_) rfl (by kernel_rfl) (by kernel_rfl) rfl (fun _ _ _ h => h) rfl (by intro wx hx; go_simp <;> rfl) hS ?_
    refine wpM_held 1 (v := .int .i64 c) rfl (by kernel_rfl) (by kernel_rfl) rfl (fun _ _ _ h => h) rfl (by intro wx hx; obtain ⟨x0, x1⟩ := hx.duo; go_simp <;> rfl) hS ?_
    refine wpM_held 3 (v := ?_) rfl (by kernel_rfl) (by kernel_rfl) rfl (fun _ _ _ h => h) rfl (by intro wx hx; go_simp <;> rfl) hS ?_
    refine wpM_held 4 (v := .int .i64 e) rfl (by kernel_rfl) (by kernel_rfl) rfl (fun _ _ _ h => h) rfl (by intro wx hx; obtain ⟨x0, x1⟩ := hx.duo; go_simp <;> rfl) hS ?_
    refine wpM_held 6 (v := ?_) rfl (by kernel_rfl) (by kernel_rfl) rfl (fun _ _ _ h => h) rfl (by intro wx hx; go_simp <;> rfl) hS ?_
    refine wpM_held 7 (v := .int .i64 e) rfl (by kernel_rfl) (by kernel_rfl) rfl (fun _ _ _ h => h) rfl (by intro wx hx; obtain ⟨x0, x1⟩ := hx.duo; go_simp <;> rfl) hS ?_
    refine wpM_held 8 (v := .bool true) rfl (by kernel_rfl) (by kernel_rfl) rfl (fun _ _ _ h => h) rfl (by intro wx hx; go_simp <;> rfl) hS ?_
    refine wpM_one 2 rfl (by kernel_rfl) rfl ?_
    go_wp2_with fail
    refine Calls.mono (HO _).out ?_
    rintro _ w1 ⟨v1, rfl, hV1, hN1, b1⟩
    obtain ⟨s1, rfl, hD1⟩ := hV1
    have hN1 := hN1.get
    obtain ⟨_, a6, c6, rfl, _, _⟩ := id hD1
    have hW1 : Below W.heap.size W w1 := hD0.trans (b1.mono hD0.size)
    have hS1 : Row w1 w.heap.size 23 #[.int .i64 c, .int .i64 e] := r0.below hW1 r0.lt
    clear b1 HO
    unfold bv
    obtain ⟨ng, hng⟩ : ∃ ng, decide (c < 0) = ng := ⟨_, rfl⟩
    have HNG : Hid (decide (c < 0) = ng) := hng
    rw [hng]
    clear hng
    obtain ⟨ln, hln⟩ : ∃ ln, (digs c.natAbs).length = ln := ⟨_, rfl⟩
    rw [hln] at hD1 hN1
    rw [hln]
    clear hln
    go_wp2_with fail
    refine ⟨fun _ => hS1, ?_⟩
    refine wpM_held 5 (v := .agg #[.bool ng, .slice a6 ln c6, .int .i64 e]) rfl (by kernel_rfl) (by kernel_rfl) rfl (fun _ _ _ h => h) rfl (by intro wx hx; go_simp <;> rfl) hS1 ?_
    refine wpM_held 9 (v := .bool true) rfl (by kernel_rfl) (by kernel_rfl) rfl (fun _ _ _ h => h) rfl (by intro wx hx; go_simp <;> rfl) hS1 ?_
    refine wpM_held 10 (v := ?_) rfl (by kernel_rfl) (by kernel_rfl) rfl (fun _ _ _ h => h) rfl (by intro wx hx; go_simp <;> rfl) hS1 ?_
    refine wpM_held 11 (v := .int .i64 e) rfl (by kernel_rfl) (by kernel_rfl) rfl (fun _ _ _ h => h) rfl (by intro wx hx; obtain ⟨x0, x1⟩ := hx.duo; go_simp <;> rfl) hS1 ?_
    refine wpM_held 12 (v := .bool (decide (e ≤ 18))) rfl (by kernel_rfl) (by kernel_rfl) rfl (fun _ _ _ h => h) rfl (by intro wx hx; go_simp <;> rfl) hS1 ?_
    refine wpM_held 13 (v := .bool (decide (e ≤ 18))) rfl (by kernel_rfl) (by kernel_rfl) rfl (fun _ _ _ h => h) rfl (by intro wx hx; go_simp <;> rfl) hS1 ?_
    have p2 := r1.below hW1 r1.lt
    have y0 := p2.cell (i := 0) (v := .bool false) rfl
    have y1 := p2.cell (i := 1) (v := .slice none 0 0) rfl
    have y2 := p2.cell (i := 2) (v := .int .i64 0) rfl
    have zf := p2.frozen
    have hBx := hB.trans (hW1.mono (by omega))
    have hNB : NewS (w.heap.size + 1 + 1) (.slice a6 ln c6) := hN1.mono (by have : W.heap.size ≤ W.drew.heap.size := Nat.le_refl _; omega)
    have hBe := below_set (below_set (below_set hBx (B := w.heap.size + 1) 0 (.bool ng) (by omega)) (B := w.heap.size + 1) 1 (.slice a6 ln c6) (by omega)) (B := w.heap.size + 1) 2 (.int .i64 e) (by omega)
    have hZe : Row (((w1.setCell ⟨w.heap.size + 1, 0, none⟩ (.bool ng)).setCell ⟨w.heap.size + 1, 1, none⟩ (.slice a6 ln c6)).setCell ⟨w.heap.size + 1, 2, none⟩ (.int .i64 e)) (w.heap.size + 1) 47 #[.bool ng, .slice a6 ln c6, .int .i64 e] := ((p2.set 0 (.bool ng)).set 1 (.slice a6 ln c6)).set 2 (.int .i64 e)
    have hSe : Row (((w1.setCell ⟨w.heap.size + 1, 0, none⟩ (.bool ng)).setCell ⟨w.heap.size + 1, 1, none⟩ (.slice a6 ln c6)).setCell ⟨w.heap.size + 1, 2, none⟩ (.int .i64 e)) w.heap.size 23 #[.int .i64 c, .int .i64 e] := ((hS1.off 0 (.bool ng) (by omega)).off 1 (.slice a6 ln c6) (by omega)).off 2 (.int .i64 e) (by omega)
    have hDe := ((hD1.off hNB 0 (.bool ng)).off hNB 1 (.slice a6 ln c6)).off hNB 2 (.int .i64 e)
    refine wpM_one 14 rfl (by kernel_rfl) rfl ?_
    go_wp2_with fail
    refine ⟨fun _ => hSe, ?_⟩
    refine wpM_one 15 rfl (by kernel_rfl) rfl ?_
    go_wp2_with fail
    refine ⟨fun h => by simp at h, ?_⟩
    refine wpM_done (by kernel_rfl) ?_
    go_wp2
    exact bodyPost_ret (ret_two rfl (g := w.heap.size + 1) rfl rfl (load45 hZe rfl)) rfl ⟨_, by rw [HNG.out, ← HO2.out]; rfl, hDe, hNB.mono (by omega), hBe⟩
  · go_enter Tryd.func53, Tryd.ntmps53
    go_wp2_with fail
    have r0 := (Row.new w 23 #[.int .i64 c, .int .i64 e]).alloc (.cells #[.bool false, .slice none 0 0, .int .i64 0] 47)
    have r1 := Row.new1 w (.cells #[.int .i64 c, .int .i64 e] 23) 47 #[.bool false, .slice none 0 0, .int .i64 0]
    have hB := ((Below.refl _ w).alloc (Nat.le_refl _) (.cells #[.int .i64 c, .int .i64 e] 23)).alloc (by simp) (.cells #[.bool false, .slice none 0 0, .int .i64 0] 47)
    have hWs : w.heap.size + 2 ≤ ((w.alloc (.cells #[.int .i64 c, .int .i64 e] 23)).alloc (.cells #[.bool false, .slice none 0 0, .int .i64 0] 47)).heap.size := by simp
    generalize (w.alloc (.cells #[.int .i64 c, .int .i64 e] 23)).alloc (.cells #[.bool false, .slice none 0 0, .int .i64 0] 47) = W at *
    have hD0 : Below W.heap.size W W.drew := (Below.refl _ W).drew
    have hS : Row W.drew w.heap.size 23 #[.int .i64 c, .int .i64 e] := r0.below hD0 r0.lt
    refine wp_region_M (fun wx : World => Row wx w.heap.size 23 #[.int .i64 c, .int .i64 e]) (fun j => decide (j < 15)) 16 rfl (by kernel_rfl) ?_
    refine wpM_held 0 (v := ?_) rfl (by kernel_rfl) (by kernel_rfl) rfl (fun _ _ _ h => h) rfl (by intro wx hx; go_simp <;> rfl) hS ?_
    refine wpM_held 1 (v := .int .i64 c) rfl (by kernel_rfl) (by kernel_rfl) rfl (fun _ _ _ h => h) rfl (by intro wx hx; obtain ⟨x0, x1⟩ := hx.duo; go_simp <;> rfl) hS ?_
    refine wpM_held 3 (v := ?_) rfl (by kernel_rfl) (by kernel_rfl) rfl (fun _ _ _ h => h) rfl (by intro wx hx; go_simp <;> rfl) hS ?_
    refine wpM_held 4 (v := .int .i64 e) rfl (by kernel_rfl) (by kernel_rfl) rfl (fun _ _ _ h => h) rfl (by intro wx hx; obtain ⟨x0, x1⟩ := hx.duo; go_simp <;> rfl) hS ?_
    refine wpM_held 6 (v := ?_) rfl (by kernel_rfl) (by kernel_rfl) rfl (fun _ _ _ h => h) rfl (by intro wx hx; go_simp <;> rfl) hS ?_
    refine wpM_held 7 (v := .int .i64 e) rfl (by kernel_rfl) (by kernel_rfl) rfl (fun _ _ _ h => h) rfl (by intro wx hx; obtain ⟨x0, x1⟩ := hx.duo; go_simp <;> rfl) hS ?_
    refine wpM_held 8 (v := .bool false) rfl (by kernel_rfl) (by kernel_rfl) rfl (fun _ _ _ h => h) rfl (by intro wx hx; go_simp <;> rfl) hS ?_
    refine wpM_one 2 rfl (by kernel_rfl) rfl ?_
    go_wp2_with fail
    refine Calls.mono (HO _).out ?_
    rintro _ w1 ⟨v1, rfl, hV1, hN1, b1⟩
    obtain ⟨s1, rfl, hD1⟩ := hV1
    have hN1 := hN1.get
    obtain ⟨_, a6, c6, rfl, _, _⟩ := id hD1
    have hW1 : Below W.heap.size W w1 := hD0.trans (b1.mono hD0.size)
    have hS1 : Row w1 w.heap.size 23 #[.int .i64 c, .int .i64 e] := r0.below hW1 r0.lt
    clear b1 HO
    unfold bv
    obtain ⟨ng, hng⟩ : ∃ ng, decide (c < 0) = ng := ⟨_, rfl⟩
    have HNG : Hid (decide (c < 0) = ng) := hng
    rw [hng]
    clear hng
    obtain ⟨ln, hln⟩ : ∃ ln, (digs c.natAbs).length = ln := ⟨_, rfl⟩
    rw [hln] at hD1 hN1
    rw [hln]
    clear hln
    go_wp2_with fail
    refine ⟨fun _ => hS1, ?_⟩
    refine wpM_held 5 (v := .agg #[.bool ng, .slice a6 ln c6, .int .i64 e]) rfl (by kernel_rfl) (by kernel_rfl) rfl (fun _ _ _ h => h) rfl (by intro wx hx; go_simp <;> rfl) hS1 ?_
    refine wpM_held 9 (v := .bool false) rfl (by kernel_rfl) (by kernel_rfl) rfl (fun _ _ _ h => h) rfl (by intro wx hx; go_simp <;> rfl) hS1 ?_
    refine wpM_skiph 10 rfl (by kernel_rfl) (by kernel_rfl) rfl (fun _ _ _ h => h) rfl hS1 ?_
    refine wpM_skiph 11 rfl (by kernel_rfl) (by kernel_rfl) rfl (fun _ _ _ h => h) rfl hS1 ?_
    refine wpM_skiph 12 rfl (by kernel_rfl) (by kernel_rfl) rfl (fun _ _ _ h => h) rfl hS1 ?_
    refine wpM_held 13 (v := .bool false) rfl (by kernel_rfl) (by kernel_rfl) rfl (fun _ _ _ h => h) rfl (by intro wx hx; go_simp <;> rfl) hS1 ?_
    have p2 := r1.below hW1 r1.lt
    have y0 := p2.cell (i := 0) (v := .bool false) rfl
    have y1 := p2.cell (i := 1) (v := .slice none 0 0) rfl
    have y2 := p2.cell (i := 2) (v := .int .i64 0) rfl
    have zf := p2.frozen
    have hBx := hB.trans (hW1.mono (by omega))
    have hNB : NewS (w.heap.size + 1 + 1) (.slice a6 ln c6) := hN1.mono (by have : W.heap.size ≤ W.drew.heap.size := Nat.le_refl _; omega)
    have hBe := below_set (below_set (below_set hBx (B := w.heap.size + 1) 0 (.bool ng) (by omega)) (B := w.heap.size + 1) 1 (.slice a6 ln c6) (by omega)) (B := w.heap.size + 1) 2 (.int .i64 e) (by omega)
    have hZe : Row (((w1.setCell ⟨w.heap.size + 1, 0, none⟩ (.bool ng)).setCell ⟨w.heap.size + 1, 1, none⟩ (.slice a6 ln c6)).setCell ⟨w.heap.size + 1, 2, none⟩ (.int .i64 e)) (w.heap.size + 1) 47 #[.bool ng, .slice a6 ln c6, .int .i64 e] := ((p2.set 0 (.bool ng)).set 1 (.slice a6 ln c6)).set 2 (.int .i64 e)
    have hSe : Row (((w1.setCell ⟨w.heap.size + 1, 0, none⟩ (.bool ng)).setCell ⟨w.heap.size + 1, 1, none⟩ (.slice a6 ln c6)).setCell ⟨w.heap.size + 1, 2, none⟩ (.int .i64 e)) w.heap.size 23 #[.int .i64 c, .int .i64 e] := ((hS1.off 0 (.bool ng) (by omega)).off 1 (.slice a6 ln c6) (by omega)).off 2 (.int .i64 e) (by omega)
    have hDe := ((hD1.off hNB 0 (.bool ng)).off hNB 1 (.slice a6 ln c6)).off hNB 2 (.int .i64 e)
    refine wpM_one 14 rfl (by kernel_rfl) rfl ?_
    go_wp2_with fail
    refine ⟨fun _ => hSe, ?_⟩
    refine wpM_one 15 rfl (by kernel_rfl) rfl ?_
    go_wp2_with fail
    refine ⟨fun h => by simp at h, ?_⟩
    refine wpM_done (by kernel_rfl) ?_
    go_wp2
    exact bodyPost_ret (ret_two rfl (g := w.heap.size + 1) rfl rfl (load45 hZe rfl)) rfl ⟨_, by rw [HNG.out, ← HO2.out]; rfl, hDe, hNB.mono (by omega), hBe⟩
end Go.Proofs.YtfbhonjndepjbaaDoor
/- two: two Decs with one exponent. -/
namespace Go.Proofs.YtfbhonjndepjbaaDoor
open Go.RowKit

/-- Digits that don't lie in the block K. -/
def NeS (K : Nat) (sv : Value) : Prop := ∀ b off sp n c, sv = .slice (some ⟨b, off, sp⟩) n c → 0 < n → b ≠ K
theorem NewS.ne {lo K : Nat} {sv : Value} (h : NewS lo sv) (hK : K < lo) : NeS K sv := fun b off sp n c e hn => by have := h b off sp n c e hn; omega
theorem DgAt.ne {W : World} {sv : Value} {ds : List Int} (h : DgAt W sv ds) {K : Nat} (hK : W.heap.size ≤ K) : NeS K sv := by
  intro b off sp n c e hn
  rcases h.1 with ⟨rfl, a, c', e'⟩ | ⟨b', off', c', e', hb, _⟩
  · rw [e'] at e
    simp only [Value.slice.injEq] at e
    omega
  · rw [e'] at e
    simp only [Value.slice.injEq, Option.some.injEq, Addr.mk.injEq] at e
    obtain ⟨⟨rfl, _⟩, _⟩ := e
    have : b' < W.heap.size := hb
    omega
theorem DgAt.offN {W : World} {sv : Value} {ds : List Int} (h : DgAt W sv ds) {B : Nat} (hN : NeS B sv) (i : Nat) (u : Value) : DgAt (W.setCell ⟨B, i, none⟩ u) sv ds := by
  refine ⟨?_, h.2⟩
  have hk := (Kept.refl (fun k => k ≠ B) W).setCell (p := ⟨B, i, none⟩) (by simp) u
  rcases h.1 with h0 | ⟨b, off, c, e, hb, hc⟩
  · exact .inl h0
  · by_cases h0 : ds = []
    · subst h0; exact .inl ⟨rfl, _, _, e⟩
    · have hl : 0 < ds.length := List.length_pos_iff.2 h0
      exact .inr ⟨b, off, c, e, Nat.lt_of_lt_of_le hb hk.size, fun j hj => (hk.cell (p := ⟨b, off + j, none⟩) (hN b off none ds.length c e hl)).trans (hc j hj)⟩
def numC (z e : Int) (sv : Value) : Array Value := #[.bool (decide (z < 0)), sv, .int .i64 e]
def zeroC : Array Value := #[.bool false, .slice none 0 0, .int .i64 0]
/-- The boxes of two. -/
structure TwAt (w : World) (X Y : Nat) (x e y f : Int) (sx sy : Value) (wr : World) : Prop where
  res1 : Row wr (w.heap.size + 2) 47 zeroC
  res2 : Row wr (w.heap.size + 3) 47 zeroC
  bx : Row wr X 47 (numC x e sx)
  byy : Row wr Y 47 (numC y f sy)
  dx : DgAt wr sx (digs x.natAbs)
  dy : DgAt wr sy (digs y.natAbs)
  nx : ∀ K, (K = w.heap.size + 2 ∨ K = w.heap.size + 3 ∨ K = X ∨ K = Y) → NeS K sx
  ny : ∀ K, (K = w.heap.size + 2 ∨ K = w.heap.size + 3 ∨ K = X ∨ K = Y) → NeS K sy
  below : Below w.heap.size w wr
theorem TwAt.mono {w wr wx : World} {X Y : Nat} {x e y f : Int} {sx sy : Value} (h : TwAt w X Y x e y f sx sy wr) (hb : Below wr.heap.size wr wx) : TwAt w X Y x e y f sx sy wx :=
  ⟨h.res1.below hb h.res1.lt, h.res2.below hb h.res2.lt, h.bx.below hb h.bx.lt, h.byy.below hb h.byy.lt, h.dx.below hb, h.dy.below hb, h.nx, h.ny, h.below.trans (hb.mono h.below.size)⟩
theorem Row.set3N {W : World} {B : Nat} {t : TypeId} {a b c : Value} (h : Row W B t #[a, b, c]) (a' b' c' : Value) :
    Row (((W.setCell ⟨B, 0, none⟩ a').setCell ⟨B, 1, none⟩ b').setCell ⟨B, 2, none⟩ c') B t #[a', b', c'] := ((h.set 0 a').set 1 b').set 2 c'
def set3 (W : World) (B : Nat) (a b c : Value) : World := ((W.setCell ⟨B, 0, none⟩ a).setCell ⟨B, 1, none⟩ b).setCell ⟨B, 2, none⟩ c
theorem TwAt.putX {w wr wx : World} {X Y : Nat} {x e y f x' e' : Int} {sx sy sx' : Value} (h : TwAt w X Y x e y f sx sy wr) (hXY : X ≠ Y) (hX : w.heap.size + 3 < X) (hb : Below wr.heap.size wr wx) (hD : DgAt wx sx' (digs x'.natAbs)) (hN : NewS wr.heap.size sx') (ng : Bool) (hng : decide (x' < 0) = ng) :
    TwAt w X Y x' e' y f sx' sy (set3 wx X (.bool ng) sx' (.int .i64 e')) := by
  have h2 := h.mono hb
  have l1 := h.res1.lt
  have l2 := h.res2.lt
  have l3 := h.bx.lt
  have l4 := h.byy.lt
  have hNe : ∀ K, (K = w.heap.size + 2 ∨ K = w.heap.size + 3 ∨ K = X ∨ K = Y) → NeS K sx' := fun K hK => hN.ne (by omega)
  unfold set3
  refine ⟨((h2.res1.off 0 _ (by omega)).off 1 _ (by omega)).off 2 _ (by omega), ((h2.res2.off 0 _ (by omega)).off 1 _ (by omega)).off 2 _ (by omega), ?_, ((h2.byy.off 0 _ (by omega)).off 1 _ (by omega)).off 2 _ (by omega),
    ((hD.offN (hNe X (by omega)) 0 _).offN (hNe X (by omega)) 1 _).offN (hNe X (by omega)) 2 _, ((h2.dy.offN (h2.ny X (by omega)) 0 _).offN (h2.ny X (by omega)) 1 _).offN (h2.ny X (by omega)) 2 _, hNe, h2.ny,
    below_set (below_set (below_set h2.below 0 _ (by omega)) 1 _ (by omega)) 2 _ (by omega)⟩
  unfold numC
  rw [hng]
  exact Row.set3N h2.bx _ _ _
theorem TwAt.swap {w wr : World} {X Y : Nat} {x e y f : Int} {sx sy : Value} (h : TwAt w X Y x e y f sx sy wr) : TwAt w Y X y f x e sy sx wr :=
  ⟨h.res1, h.res2, h.byy, h.bx, h.dy, h.dx, fun K hK => h.ny K (by omega), fun K hK => h.nx K (by omega), h.below⟩
end Go.Proofs.YtfbhonjndepjbaaDoor
