/- rows: the package-merge way, row by row. -/
import Derived.Test.YtiakploggmmklaaMrg
namespace Go.Proofs.Ytiakploggmmklaa
open Go.RowKit

/-- The symbols' own coins, the rarest first. -/
def singleF (fs os : List Int) (i : Nat) : Coin := (fs[(os[i]?.getD 0).toNat]?.getD 0, true)
def singlesL (fs os : List Int) : List Coin := upto (singleF fs os) os.length
def rowN (sl : List Coin) : Nat → List Coin
  | 0 => sl
  | k + 1 => mergeL sl (pairsL (rowN sl k))
theorem mergeL_length : ∀ a b : List Coin, (mergeL a b).length = a.length + b.length
  | [], b => by rw [mergeL_nil]; simp
  | x :: a, [] => by rw [mergeL_nil']; simp
  | x :: a, y :: b => by
    rw [mergeL]
    split
    · rw [List.length_cons, mergeL_length]; simp; omega
    · rw [List.length_cons, mergeL_length]; simp; omega
termination_by a b => a.length + b.length
theorem mergeL_mem : ∀ (a b : List Coin) (c : Coin), c ∈ mergeL a b → c ∈ a ∨ c ∈ b
  | [], b, c, h => by rw [mergeL_nil] at h; exact .inr h
  | x :: a, [], c, h => by rw [mergeL_nil'] at h; exact .inl h
  | x :: a, y :: b, c, h => by
    rw [mergeL] at h
    split at h
    · rcases List.mem_cons.1 h with rfl | h
      · exact .inl (by simp)
      · rcases mergeL_mem a (y :: b) c h with h | h
        · exact .inl (by simp [h])
        · exact .inr h
    · rcases List.mem_cons.1 h with rfl | h
      · exact .inr (by simp)
      · rcases mergeL_mem (x :: a) b c h with h | h
        · exact .inl h
        · exact .inr (by simp [h])
termination_by a b => a.length + b.length
theorem pairsL_length (l : List Coin) : (pairsL l).length = l.length / 2 := upto_length _ _
theorem rowN_length (sl : List Coin) (k : Nat) : (rowN sl k).length ≤ 2 * sl.length ∧ sl.length ≤ (rowN sl k).length := by
  induction k with
  | zero => simp [rowN]; omega
  | succ k ih => rw [rowN, mergeL_length, pairsL_length]; omega
theorem rowN_bd (sl : List Coin) (M : Nat) (h : ∀ c ∈ sl, 0 ≤ c.1 ∧ c.1 ≤ M) (k : Nat) : ∀ c ∈ rowN sl k, 0 ≤ c.1 ∧ c.1 ≤ ((M * 2 ^ k : Nat) : Int) := by
  induction k with
  | zero => simpa [rowN] using h
  | succ k ih =>
    intro c hc
    have hp : M * 2 ^ k ≤ M * 2 ^ (k + 1) := Nat.mul_le_mul_left _ (Nat.pow_le_pow_right (by omega) (by omega))
    have hp2 : M * 2 ^ (k + 1) = 2 * (M * 2 ^ k) := by rw [Nat.pow_succ]; ac_rfl
    have hp0 : M ≤ M * 2 ^ k := Nat.le_mul_of_pos_right _ (Nat.pow_pos (by omega))
    rcases mergeL_mem _ _ _ hc with hc | hc
    · have := h c hc
      omega
    · simp only [pairsL, upto, List.mem_map, List.mem_range] at hc
      obtain ⟨i, hi, rfl⟩ := hc
      have h1 := ih _ (List.getElem_mem (show 2 * i < (rowN sl k).length by omega))
      have h2 := ih _ (List.getElem_mem (show 2 * i + 1 < (rowN sl k).length by omega))
      simp only [pairF, show 2 * i < (rowN sl k).length by omega, show 2 * i + 1 < (rowN sl k).length by omega, List.getElem?_eq_getElem, Option.getD_some]
      omega
theorem coinL_set2 (l : List Coin) (j : Nat) (c : Coin) (h : j < l.length) : ((coinL l).set (j * 2) (.int .i64 c.1)).set (j * 2 + 1) (.bool c.2) = coinL (l.set j c) := by
  induction l generalizing j with
  | nil => simp at h
  | cons d l ih =>
    cases j with
    | zero => simp [coinL_cons]
    | succ j =>
      have := ih j (by simpa using h)
      rw [coinL_cons, show (j + 1) * 2 = j * 2 + 1 + 1 by omega]
      simp [coinL_cons, this]
theorem coinA_set2 (l : List Coin) (j : Nat) (c : Coin) (h : j < l.length) : ((coinA l).setIfInBounds (j * 2) (.int .i64 c.1)).setIfInBounds (j * 2 + 1) (.bool c.2) = coinA (l.set j c) := by
  simp [coinA, coinL_set2 l j c h]

theorem Try.info87 : (Try.prog.info? 52).map (fun i => (i.zero, i.size, i.bytes)) = some (some (.slice none 0 0), 1, 24) := by kernel_rfl

/-- The rows as they lie in memory: row i behind the slice value in place i. -/
def RowsIn (N : Nat) (W : World) (GA limit : Nat) (sl : List Coin) (k : Nat) : Prop :=
  ∃ (g : Nat → Nat) (cs : Array Value), Row W GA 52 cs ∧ cs.size = limit ∧ (∀ i, i < k → cs[i]? = some (.slice (some ⟨g i, 0, none⟩) (rowN sl i).length (rowN sl i).length)) ∧
    (∀ i, i < k → Row W (g i) 54 (coinA (rowN sl i)) ∧ N ≤ g i)
theorem RowsIn.below {N B : Nat} {W W' : World} {GA limit : Nat} {sl : List Coin} {k : Nat} (h : RowsIn N W GA limit sl k) (hb : Below B W W') (hB : W.heap.size ≤ B) : RowsIn N W' GA limit sl k := by
  obtain ⟨g, cs, hr, hs, hc, hg⟩ := h
  exact ⟨g, cs, hr.below hb (Nat.lt_of_lt_of_le hr.lt hB), hs, hc, fun i hi => ⟨(hg i hi).1.below hb (Nat.lt_of_lt_of_le (hg i hi).1.lt hB), (hg i hi).2⟩⟩

set_option maxRecDepth 100000 in
set_option maxHeartbeats 2000000 in
theorem rows_any (S : Nat → Prop) (a b : Option Addr) (ca cb limit : Nat) (fs os : List Int) (w : World) (hS : ∀ k, S k → k < w.heap.size) (hF : IntsIn S w (.slice a fs.length ca) fs) (hO : IntsIn S w (.slice b os.length cb) os)
    (h1 : 1 ≤ limit) (h15 : limit ≤ 15) (_hlf : fs.length ≤ 320) (hlo : os.length ≤ 320) (hos : ∀ z ∈ os, 0 ≤ z ∧ z < fs.length) (hfs : ∀ z ∈ fs, 0 ≤ z ∧ z ≤ 1073741824) :
    Calls Try.prog 13 #[.slice a fs.length ca, .slice b os.length cb, .int .i64 limit] w fun e w' => ∃ GA, e = .returned (.slice (some ⟨GA, 0, none⟩) limit limit) ∧ w.heap.size ≤ GA ∧ RowsIn w.heap.size w' GA limit (singlesL fs os) limit ∧ Below w.heap.size w w' := by
  obtain ⟨i0, hi, hzz⟩ := Option.map_eq_some_iff.1 Try.info89
  simp only [Prod.mk.injEq] at hzz
  obtain ⟨hz0, hz1, hz2⟩ := hzz
  have hmk := fun w => run_make (P := Try.prog) w 52 54 i0 _ Try.underlying52 hi hz0 .i64 .i64 os.length os.length (by omega) (by omega) (by rw [hz2]; omega) (by omega)
  rw [hz1] at hmk
  simp only [Value.cells, Int.toNat_natCast, coinA_made] at hmk
  have hmk2 := run_make_row' (P := Try.prog) 35 52 (.slice none 0 0) 24 Try.underlying35 Try.info87 rfl .i64 .i64 limit (by omega) (by omega)
  clear hz0 hz1 hz2 hi
  go_enter Try.func13, Try.ntmps13
  go_wp2
  have R0 := Row.new w 54 (coinA (List.replicate os.length (0, false)))
  have hB0 : Below w.heap.size w (w.alloc (.cells (coinA (List.replicate os.length (0, false))) 54)) := (Below.refl _ w).alloc (Nat.le_refl _) _
  generalize w.alloc (.cells (coinA (List.replicate os.length (0, false))) 54) = w1 at R0 hB0 ⊢
  clear hmk
  go_loopw [17] (fun i wr => ∃ k : Nat, k ≤ os.length ∧ i = .int .i64 k ∧ Row wr w.heap.size 54 (coinA (upto (singleF fs os) k ++ List.replicate (os.length - k) (0, false))) ∧ Below w.heap.size w wr)
    (fun i _ => os.length - (intOf i).toNat)
  case atStart => exact ⟨0, Nat.zero_le _, rfl, by simpa [upto] using R0, hB0⟩
  case round =>
    obtain ⟨k, hk, rfl, R1, hB⟩ := hrel
    by_cases hlt : k < os.length
    · obtain ⟨bo, oo, rfl, hbo, eo⟩ := hO.at k hlt
      have hz := hos _ (List.getElem_mem hlt)
      have ez : os[k]?.getD 0 = os[k] := by simp [hlt]
      rw [ez] at eo
      obtain ⟨z, hzz⟩ := Int.eq_ofNat_of_zero_le hz.1
      obtain ⟨bf, of, rfl, hbf, ef⟩ := hF.at z (by omega)
      have co := ((Kept.of_below hB hS).cell (p := ⟨bo, oo + k, none⟩) hbo).trans eo
      have cf := ((Kept.of_below hB hS).cell (p := ⟨bf, of + z, none⟩) hbf).trans ef
      rw [hzz] at co
      have hzl : z < fs.length := by omega
      have HV : Hid (singleF fs os k = (fs[z]?.getD 0, true)) := by
        show _ = _
        simp [singleF, ez, hzz]
      clear eo ef ez hz hO hF hzz
      generalize fs[z]?.getD 0 = f at cf HV
      have hlen : (upto (singleF fs os) k ++ List.replicate (os.length - k) ((0 : Int), false)).length = os.length := by simp [upto_length]; omega
      have cG0 := R1.cell (coinA_at0 _ k (by rw [hlen]; exact hlt))
      have cG1 := R1.cell (coinA_at1 _ k (by rw [hlen]; exact hlt))
      have fG0 := R1.frozen (k * 2)
      have fG1 := R1.frozen (k * 2 + 1)
      have HR : Hid (Row ((wr.setCell ⟨w.heap.size, k * 2, none⟩ (.int .i64 f)).setCell ⟨w.heap.size, k * 2 + 1, none⟩ (.bool true)) w.heap.size 54 (coinA (upto (singleF fs os) (k + 1) ++ List.replicate (os.length - (k + 1)) (0, false)))) := by
        show Row _ _ _ _
        have := (R1.set (k * 2) (.int .i64 f)).set (k * 2 + 1) (.bool true)
        rw [coinA_set2 _ k (f, true) (by rw [hlen]; exact hlt)] at this
        have e : List.replicate (os.length - k) ((0 : Int), false) = (0, false) :: List.replicate (os.length - (k + 1)) (0, false) := by
          rw [show os.length - k = os.length - (k + 1) + 1 by omega, List.replicate_succ]
        rw [e, List.set_append_right _ _ (by rw [upto_length]; exact Nat.le_refl _), upto_length, Nat.sub_self, List.set_cons_zero] at this
        rw [upto_succ, HV.out, List.append_assoc]
        exact this
      have HB : Hid (Below w.heap.size w ((wr.setCell ⟨w.heap.size, k * 2, none⟩ (.int .i64 f)).setCell ⟨w.heap.size, k * 2 + 1, none⟩ (.bool true))) := (hB.setCell (p := ⟨w.heap.size, k * 2, none⟩) (Nat.le_refl _) _).setCell (p := ⟨w.heap.size, k * 2 + 1, none⟩) (Nat.le_refl _) _
      clear R1 hB HV
      generalize (upto (singleF fs os) k ++ List.replicate (os.length - k) ((0 : Int), false))[k] = old at cG0 cG1
      go_wp2
      go_roundw
      case rel => exact ⟨k + 1, by omega, by simp, HR.out, HB.out⟩
      case measure => simp [intOf]; omega
    · obtain rfl : k = os.length := by omega
      have hsl : upto (singleF fs os) os.length ++ List.replicate (os.length - os.length) ((0 : Int), false) = singlesL fs os := by simp [singlesL]
      rw [hsl] at R1
      have hslen : (singlesL fs os).length = os.length := upto_length _ _
      have hsbd : ∀ c ∈ singlesL fs os, 0 ≤ c.1 ∧ c.1 ≤ ((1073741824 : Nat) : Int) := by
        intro c hc
        simp only [singlesL, upto, List.mem_map, List.mem_range] at hc
        obtain ⟨i, hi, rfl⟩ := hc
        have hz := hos _ (List.getElem_mem hi)
        have ez : os[i]?.getD 0 = os[i] := by simp [hi]
        have hlt' : os[i].toNat < fs.length := by omega
        have := hfs _ (List.getElem_mem hlt')
        simp only [singleF, ez, hlt', List.getElem?_eq_getElem, Option.getD_some]
        omega
      clear hsl hF hO hlt hk hos hfs
      obtain ⟨sl, HSL⟩ : ∃ sl, sl = singlesL fs os := ⟨_, rfl⟩
      rw [← HSL] at R1 hslen hsbd
      have HSL' : Hid (sl = singlesL fs os) := HSL
      clear HSL
      have RA := Row.new wr 52 (madeCells #[.slice none 0 0] limit)
      have hA0 : (wr.alloc (.cells (madeCells #[.slice none 0 0] limit) 52)).cell? ⟨wr.heap.size, 0, none⟩ = some (.slice none 0 0) := RA.cell (by simp [madeCells, Nat.lt_of_lt_of_le Nat.zero_lt_one h1])
      have fA0 := RA.frozen 0
      have hGlt := R1.lt
      obtain ⟨GA, HGA⟩ : ∃ GA, wr.heap.size = GA := ⟨_, rfl⟩
      have hwGA : w.heap.size < GA := by omega
      rw [HGA] at RA hA0 fA0
      have HK : Hid (RowsIn w.heap.size (wr.alloc (.cells ((madeCells #[.slice none 0 0] limit).setIfInBounds 0 (.slice (some ⟨w.heap.size, 0, none⟩) os.length os.length)) 52)) GA limit sl 1 ∧ Below w.heap.size w (wr.alloc (.cells ((madeCells #[.slice none 0 0] limit).setIfInBounds 0 (.slice (some ⟨w.heap.size, 0, none⟩) os.length os.length)) 52)) ∧ Row (wr.alloc (.cells ((madeCells #[.slice none 0 0] limit).setIfInBounds 0 (.slice (some ⟨w.heap.size, 0, none⟩) os.length os.length)) 52)) w.heap.size 54 (coinA sl)) := by
        have hr0 := R1.alloc (.cells ((madeCells #[.slice none 0 0] limit).setIfInBounds 0 (.slice (some ⟨w.heap.size, 0, none⟩) os.length os.length)) 52)
        refine ⟨⟨fun _ => w.heap.size, _, by rw [← HGA]; exact Row.new _ _ _, by simp [size_madeCells], fun i hi => ?_, fun i hi => ?_⟩, hB.alloc hB.size _, hr0⟩
        · obtain rfl : i = 0 := by omega
          simp [madeCells, Nat.lt_of_lt_of_le Nat.zero_lt_one h1, rowN, hslen]
        · obtain rfl : i = 0 := by omega
          exact ⟨hr0, Nat.le_refl _⟩
      clear R1 RA hB R0 hB0
      go_wp2
      generalize wr.alloc (.cells ((madeCells #[.slice none 0 0] limit).setIfInBounds 0 (.slice (some ⟨w.heap.size, 0, none⟩) os.length os.length)) 52) = w3 at HK ⊢
      clear hA0 fA0 hmk2 HGA
      go_loopw [11] (fun i wr => ∃ k : Nat, 1 ≤ k ∧ k ≤ limit ∧ i = .int .i64 k ∧ RowsIn w.heap.size wr GA limit sl k ∧ Below w.heap.size w wr ∧ Row wr w.heap.size 54 (coinA sl))
        (fun i _ => limit - (intOf i).toNat)
      case atStart => exact ⟨1, Nat.le_refl _, h1, rfl, HK.out.1, HK.out.2.1, HK.out.2.2⟩
      case round =>
        clear HK
        obtain ⟨k, hk1, hkl, rfl, hRows, hBl, hS0⟩ := hrel
        by_cases hlt : k < limit
        · obtain ⟨g, cs, hRA, hcs, hcc, hgg⟩ := hRows
          obtain ⟨kp, rfl⟩ : ∃ kp, k = kp + 1 := ⟨k - 1, by omega⟩
          have cP := hRA.cell (hcc kp (by omega))
          obtain ⟨hRk, hgk⟩ := hgg kp (by omega)
          have hl1 := rowN_length sl kp
          have hb1 := rowN_bd sl 1073741824 hsbd kp
          have hp2 : 1073741824 * 2 ^ kp ≤ 1073741824 * 2 ^ 15 := Nat.mul_le_mul_left _ (Nat.pow_le_pow_right (by omega) (by omega))
          have hb2 : ∀ c ∈ rowN sl kp, 0 ≤ c.1 ∧ c.1 ≤ 4611686018427387903 := fun c hc => by have := hb1 c hc; omega
          have hPairs := pairs_any (fun x => x < wr.heap.size) (some ⟨g kp, 0, none⟩) (rowN sl kp).length (rowN sl kp) wr (fun _ h => h) (hRk.coins hRk.lt _) (by omega) hb2
          have e1 : (rowN sl kp).length / 2 = (pairsL (rowN sl kp)).length := (pairsL_length _).symm
          have hbp : ∀ c ∈ pairsL (rowN sl kp), 0 ≤ c.1 ∧ c.1 ≤ 4611686018427387903 := by
            intro c hc
            simp only [pairsL, upto, List.mem_map, List.mem_range] at hc
            obtain ⟨i, hi, rfl⟩ := hc
            have h1 := hb1 _ (List.getElem_mem (show 2 * i < (rowN sl kp).length by omega))
            have h2 := hb1 _ (List.getElem_mem (show 2 * i + 1 < (rowN sl kp).length by omega))
            simp only [pairF, show 2 * i < (rowN sl kp).length by omega, show 2 * i + 1 < (rowN sl kp).length by omega, List.getElem?_eq_getElem, Option.getD_some]
            omega
          have hbs : ∀ c ∈ sl, 0 ≤ c.1 ∧ c.1 ≤ 4611686018427387903 := fun c hc => by have := hsbd c hc; omega
          have cT : ∃ v, cs[kp + 1]? = some v := ⟨_, Array.getElem?_eq_getElem (by omega)⟩
          obtain ⟨vT, cT⟩ := cT
          rw [e1] at hPairs
          have HPairs : Hid _ := hPairs
          have hrow : rowN sl (kp + 1) = mergeL sl (pairsL (rowN sl kp)) := rfl
          have hrl : (rowN sl (kp + 1)).length = sl.length + (pairsL (rowN sl kp)).length := by rw [hrow, mergeL_length]
          clear hPairs hb1 hp2 hb2
          have HRW : Hid (∀ (w5 : World) (G : Nat), Below wr.heap.size wr w5 → wr.heap.size ≤ G → Row w5 G 54 (coinA (mergeL sl (pairsL (rowN sl kp)))) →
              RowsIn w.heap.size (w5.setCell ⟨GA, kp + 1, none⟩ (.slice (some ⟨G, 0, none⟩) (sl.length + (pairsL (rowN sl kp)).length) (sl.length + (pairsL (rowN sl kp)).length))) GA limit sl (kp + 1 + 1) ∧
              Below w.heap.size w (w5.setCell ⟨GA, kp + 1, none⟩ (.slice (some ⟨G, 0, none⟩) (sl.length + (pairsL (rowN sl kp)).length) (sl.length + (pairsL (rowN sl kp)).length))) ∧
              Row (w5.setCell ⟨GA, kp + 1, none⟩ (.slice (some ⟨G, 0, none⟩) (sl.length + (pairsL (rowN sl kp)).length) (sl.length + (pairsL (rowN sl kp)).length))) w.heap.size 54 (coinA sl)) := by
            intro w5 G hb hG hRG
            have hgl := hRA.lt
            have hk : Kept (fun x => x ≠ GA) w5 (w5.setCell ⟨GA, kp + 1, none⟩ (.slice (some ⟨G, 0, none⟩) (sl.length + (pairsL (rowN sl kp)).length) (sl.length + (pairsL (rowN sl kp)).length))) := (Kept.refl _ _).setCell (p := ⟨GA, kp + 1, none⟩) (by simp) _
            have hne : ∀ i, i < kp + 1 → g i ≠ GA := fun i hi e => by
              have h1 : wr.heap[g i]? = _ := (hgg i hi).1
              rw [e, show wr.heap[GA]? = _ from hRA] at h1
              simp at h1
            refine ⟨⟨fun i => if i = kp + 1 then G else g i, _, (hRA.below hb hgl).set (kp + 1) _, by simp [hcs], fun i hi => ?_, fun i hi => ?_⟩, (hBl.trans (hb.mono hBl.size)).setCell (p := ⟨GA, kp + 1, none⟩) (by simp; omega) _, (hS0.below hb hS0.lt).kept hk (by omega)⟩
            · by_cases e : i = kp + 1
              · subst e
                simp [hcs, hrl, show kp + 1 < limit from hlt]
              · rw [Array.getElem?_setIfInBounds, if_neg (fun h => e h.symm)]
                simpa [e] using hcc i (by omega)
            · by_cases e : i = kp + 1
              · subst e
                simp only [↓reduceIte]
                exact ⟨hRG.kept hk (by omega), by have := hBl.size; omega⟩
              · simp only [e, ↓reduceIte]
                have h1 := hgg i (by omega)
                exact ⟨(h1.1.below hb h1.1.lt).kept hk (hne i (by omega)), h1.2⟩
          have HMG : Hid (∀ w4, Below wr.heap.size wr w4 → Row w4 wr.heap.size 54 (coinA (pairsL (rowN sl kp))) → Calls Try.prog 20 #[.slice (some ⟨w.heap.size, 0, none⟩) os.length os.length, .slice (some ⟨wr.heap.size, 0, none⟩) (pairsL (rowN sl kp)).length (pairsL (rowN sl kp)).length] w4 fun e w' =>
              e = .returned (.slice (some ⟨w4.heap.size, 0, none⟩) (sl.length + (pairsL (rowN sl kp)).length) (sl.length + (pairsL (rowN sl kp)).length)) ∧ Row w' w4.heap.size 54 (coinA (mergeL sl (pairsL (rowN sl kp)))) ∧ Below w4.heap.size w4 w') := by
            intro w4 hb4 hR4
            have hlt4 := hR4.lt
            have h := merge_any (fun x => x < w4.heap.size) ⟨w.heap.size, 0, none⟩ ⟨wr.heap.size, 0, none⟩ sl.length (pairsL (rowN sl kp)).length sl (pairsL (rowN sl kp)) w4 (fun _ h => h) ((hS0.below hb4 hS0.lt).coins (by have := hS0.lt; have := hb4.size; omega) _) (hR4.coins hR4.lt _) (Nat.le_refl _) (Nat.le_refl _) (by omega) (by rw [pairsL_length]; omega) hbs hbp
            rwa [hslen] at h ⊢
          have HCT : Hid (∀ w5, Below wr.heap.size wr w5 → w5.cell? ⟨GA, kp + 1, none⟩ = some vT ∧ w5.frozen? ⟨GA, kp + 1, none⟩ = false) := fun w5 hb => ⟨(hRA.below hb hRA.lt).cell cT, (hRA.below hb hRA.lt).frozen _⟩
          have hGAlt := hRA.lt
          have HGL : Hid (GA < wr.heap.size) := hGAlt
          clear hRA hcc hgg hRk hS0 hBl hbp hbs cT hGAlt hcs hgk
          go_wp2_with fail
          refine Calls.mono HPairs.out ?_
          rintro e w4 ⟨rfl, hR4, hb4⟩
          go_wp2_with fail
          refine (HMG.out w4 hb4 hR4).mono ?_
          rintro e w5 ⟨rfl, hR5, hb5⟩
          have hb5' : Below wr.heap.size wr w5 := hb4.trans (hb5.mono hb4.size)
          obtain ⟨ct, ft⟩ := HCT.out w5 hb5'
          have HFIN : Hid _ := HRW.out w5 w4.heap.size hb5' hb4.size hR5
          clear cP HRW HMG HCT HPairs hR4 hR5 hb5 hb4 hb5'
          go_wp2
          go_roundw
          case rel =>
            have hf := HFIN.out
            rw [hslen] at hf
            exact ⟨kp + 1 + 1, by omega, by omega, by simp, hf.1, hf.2.1, hf.2.2⟩
          case measure => simp [intOf]; omega
        · obtain rfl : k = limit := by omega
          go_wp2
          go_ret
          exact ⟨GA, rfl, Nat.le_of_lt hwGA, HSL'.out ▸ hRows, hBl⟩
end Go.Proofs.Ytiakploggmmklaa
