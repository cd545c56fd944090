/- The lengths that are made: right, where they belong, and at the cost of the last row's first coins (pure). -/
import Derived.Test.YtiakploggmmklaaLng
import Derived.Test.YtiakploggmmklaaSpc
import Derived.Test.YtiakploggmmklaaCst
namespace Go.Proofs.Ytiakploggmmklaa
open Go.RowKit

/-- What the law asks of lengths. -/
structure Best (fs ls : List Int) (limit : Nat) (c : Int) : Prop where
  len : ls.length = fs.length
  right : errOf ls = 0
  there : ∀ i, i < fs.length → (ls[i]?.getD 0 = 0 ↔ fs[i]?.getD 0 = 0)
  top : ∀ i, i < fs.length → 0 ≤ ls[i]?.getD 0 ∧ ls[i]?.getD 0 ≤ limit
  cost : costR fs ls = c

theorem sum_at (g : Int → Int) (os : List Int) : ∀ s, s ≤ os.length → sumTo (fun j => g (os[j]?.getD 0)) s = ((os.take s).map g).sum
  | 0, _ => rfl
  | s + 1, h => by
    rw [List.take_succ_eq_append_getElem (by omega), List.map_append, List.sum_append, sumTo, sum_at g os s (by omega), List.getElem?_eq_getElem (by omega)]
    simp
theorem sum_ord (g : Int → Int) (fs : List Int) : ∀ k, ((ordL fs k).map g).sum = sumTo (fun i => if 0 < fs[i]?.getD 0 then g (i : Int) else 0) k
  | 0 => rfl
  | k + 1 => by
    rw [ordL, sumTo]
    split
    · rw [List.map_append, List.sum_append, sum_ord g fs k]
      simp
    · rw [sum_ord g fs k]
      omega
theorem sum_os (g : Int → Int) {fs os : List Int} (hp : os.Perm (ordL fs fs.length)) : sumTo (fun j => g (os[j]?.getD 0)) os.length = sumTo (fun i => if 0 < fs[i]?.getD 0 then g (i : Int) else 0) fs.length := by
  rw [sum_at g os _ (Nat.le_refl _), List.take_length, sum_perm (hp.map g), sum_ord]
theorem sumTo_mul (c : Int) (f : Nat → Int) : ∀ n, sumTo (fun j => c * f j) n = c * sumTo f n
  | 0 => by simp [sumTo]
  | n + 1 => by rw [sumTo, sumTo, sumTo_mul c f n, Int.mul_add]
theorem ordL_has (fs : List Int) : ∀ k i, i < k → 0 < fs[i]?.getD 0 → (i : Int) ∈ ordL fs k
  | 0, _, h, _ => by omega
  | k + 1, i, h, h0 => by
    rw [ordL]
    by_cases e : i = k
    · subst e
      rw [if_pos h0]
      simp
    · have := ordL_has fs k i (by omega) h0
      split
      · exact List.mem_append_left _ this
      · exact this
theorem spS_sum (zs : List Int) : ∀ k, ((spS zs k).1 : Int) = sumTo (fun i => if 0 < zs[i]?.getD 0 then (2 : Int) ^ (15 - (zs[i]?.getD 0).toNat) else 0) k
  | 0 => rfl
  | k + 1 => by
    rw [spS, sumTo, ← spS_sum zs k]
    split
    · simp
    · simp
theorem room_sum (zs : List Int) (h : inRange zs) : (room zs 15 : Int) = sumTo (fun i => if 0 < zs[i]?.getD 0 then (2 : Int) ^ (15 - (zs[i]?.getD 0).toNat) else 0) zs.length := by
  rw [← spS_sum, spS_spec zs h _ (Nat.le_refl _), List.take_length]
theorem cost_sum (fs ls : List Int) (hf : ∀ z ∈ fs, 0 ≤ z ∧ z ≤ 1073741824) (hl : ∀ z ∈ ls, 0 ≤ z ∧ z ≤ 15) (h3 : fs.length ≤ 320) : ∀ k, k ≤ fs.length → k ≤ ls.length → costN fs ls k = some (sumTo (fun i => fs[i]?.getD 0 * ls[i]?.getD 0) k) ∧ 0 ≤ sumTo (fun i => fs[i]?.getD 0 * ls[i]?.getD 0) k ∧ sumTo (fun i => fs[i]?.getD 0 * ls[i]?.getD 0) k ≤ k * 16106127360
  | 0, _, _ => ⟨rfl, by simp [sumTo], by simp [sumTo]⟩
  | k + 1, h1, h2 => by
    obtain ⟨i1, i2, i3⟩ := cost_sum fs ls hf hl h3 k (by omega) (by omega)
    have a1 := hf _ (List.getElem_mem (show k < fs.length by omega))
    have a2 := hl _ (List.getElem_mem (show k < ls.length by omega))
    have e1 : fs[k]?.getD 0 = fs[k] := by simp [show k < fs.length by omega]
    have e2 : ls[k]?.getD 0 = ls[k] := by simp [show k < ls.length by omega]
    rw [costN, i1, sumTo, e1, e2]
    generalize sumTo (fun i => fs[i]?.getD 0 * ls[i]?.getD 0) k = s at i2 i3
    generalize fs[k] = f at a1
    generalize ls[k] = n at a2
    have p1 : 0 ≤ f * n := Int.mul_nonneg a1.1 a2.1
    have p2 : f * n ≤ 1073741824 * 15 := Int.mul_le_mul a1.2 a2.2 a2.1 (by omega)
    have p3 : f = 0 ∨ n = 0 → f * n = 0 := fun h => by rcases h with h | h <;> simp [h]
    rw [show ((some s : Option Int).bind fun s => stepC s f n) = stepC s f n from rfl]
    unfold stepC big
    generalize f * n = p at p1 p2 p3
    refine ⟨?_, by omega, by push_cast; omega⟩
    by_cases h0 : f = 0 ∨ n = 0
    · rw [if_pos h0, p3 h0, Int.add_zero]
    · rw [if_neg h0, if_neg (by simp; omega), if_neg (by simp; omega)]
theorem cost_val (fs ls : List Int) (hf : ∀ z ∈ fs, 0 ≤ z ∧ z ≤ 1073741824) (hl : ∀ z ∈ ls, 0 ≤ z ∧ z ≤ 15) (h3 : fs.length ≤ 320) (hn : ls.length = fs.length) : costR fs ls = sumTo (fun i => fs[i]?.getD 0 * ls[i]?.getD 0) fs.length := by
  unfold costR
  rw [hn, Nat.min_self, (cost_sum fs ls hf hl h3 fs.length (Nat.le_refl _) (by omega)).1]
  rfl
theorem errOf_right (ls : List Int) (h3 : ls.length ≤ 320) (hr : inRange ls) (h : rightB ls = true) : errOf ls = 0 := by
  unfold errOf
  rw [if_pos ⟨h3, hr⟩, if_pos h]
theorem in_of_top {fs ls : List Int} {limit : Nat} (hn : ls.length = fs.length) (h15 : limit ≤ 15) (ht : ∀ i, i < fs.length → 0 ≤ ls[i]?.getD 0 ∧ ls[i]?.getD 0 ≤ limit) : inRange ls := by
  intro z hz
  obtain ⟨i, hi, rfl⟩ := List.mem_iff_getElem.1 hz
  have := ht i (by omega)
  rw [List.getElem?_eq_getElem hi, Option.getD_some] at this
  omega
theorem fs_at {fs : List Int} (hfs : ∀ z ∈ fs, 0 ≤ z ∧ z ≤ 1073741824) (i : Nat) : 0 ≤ fs[i]?.getD 0 := by
  by_cases h : i < fs.length
  · rw [List.getElem?_eq_getElem h]
    exact (hfs _ (List.getElem_mem h)).1
  · rw [List.getElem?_eq_none (by omega)]
    simp
/-- Two symbols and more. -/
theorem best_two (fs os : List Int) (limit : Nat) (hfs : ∀ z ∈ fs, 0 ≤ z ∧ z ≤ 1073741824) (h3 : fs.length ≤ 320) (hp : os.Perm (ordL fs fs.length)) (hs : Srt (keyF fs) os 0 os.length) (h1 : 1 ≤ limit) (h15 : limit ≤ 15) (h2 : 2 ≤ os.length) (hlim : os.length ≤ 2 ^ limit) :
    Best fs (lenO fs os limit) limit (wsum ((rowN (singlesL fs os) (limit - 1)).take (2 * os.length - 2))) := by
  obtain ⟨S, st⟩ := len_st fs os limit hfs hp hs h1 h2 hlim limit (Nat.le_refl _)
  have hT := st.fin rfl
  rw [hT] at st
  have st' : SpSt (singlesL fs os) os fs.length limit limit (lenO fs os limit) 0 S := st
  clear st hT
  generalize lenO fs os limit = ls at st'
  have hpos : ∀ i, i < fs.length → 0 < fs[i]?.getD 0 → ∃ j, j < os.length ∧ posN os j = i := fun i hi h0 => by
    obtain ⟨j, hj, e⟩ := List.mem_iff_getElem.1 (hp.mem_iff.2 (ordL_has fs fs.length i hi h0))
    exact ⟨j, hj, by unfold posN; rw [List.getElem?_eq_getElem hj, Option.getD_some, e, Int.toNat_natCast]⟩
  have hkey : ∀ j, j < os.length → 0 < fs[posN os j]?.getD 0 := fun j hj => by
    have := ordL_pos fs fs.length _ (hp.mem_iff.1 (List.getElem_mem hj))
    unfold keyF at this
    unfold posN
    rw [List.getElem?_eq_getElem hj, Option.getD_some]
    exact this
  have hone : ∀ i, i < fs.length → 0 < fs[i]?.getD 0 → 1 ≤ ls[i]?.getD 0 ∧ ls[i]?.getD 0 ≤ limit := fun i hi h0 => by
    obtain ⟨j, hj, rfl⟩ := hpos i hi h0
    have := st'.bd j hj
    exact ⟨this.2.2 h1, this.2.1⟩
  have hnil : ∀ i : Nat, fs[i]?.getD 0 = 0 → ls[i]?.getD 0 = 0 := fun i h0 => st'.out i (fun j hj e => by
    have := hkey j hj
    rw [e] at this
    omega)
  have hthere : ∀ i, i < fs.length → (ls[i]?.getD 0 = 0 ↔ fs[i]?.getD 0 = 0) := fun i hi => ⟨fun h => by
    by_cases h0 : 0 < fs[i]?.getD 0
    · have := hone i hi h0
      omega
    · have := fs_at hfs i
      omega, hnil i⟩
  have htop : ∀ i, i < fs.length → 0 ≤ ls[i]?.getD 0 ∧ ls[i]?.getD 0 ≤ limit := fun i hi => by
    by_cases h0 : 0 < fs[i]?.getD 0
    · have := hone i hi h0
      omega
    · have := fs_at hfs i
      rw [hnil i (by omega)]
      omega
  have hin := in_of_top st'.len h15 htop
  refine ⟨st'.len, errOf_right ls (by rw [st'.len]; exact h3) hin ?_, hthere, htop, ?_⟩
  · rw [right_same]
    have hk := st'.kraft
    have e1 : sumTo (fun j => (2 : Int) ^ (limit - (lam os ls j).toNat)) os.length = sumTo (fun i => if 0 < fs[i]?.getD 0 then (2 : Int) ^ (limit - (ls[i]?.getD 0).toNat) else 0) fs.length := by
      have := sum_os (fun z => (2 : Int) ^ (limit - (ls[z.toNat]?.getD 0).toNat)) hp
      simpa [lam, posN] using this
    have e2 : (room ls 15 : Int) = (2 : Int) ^ (15 - limit) * sumTo (fun i => if 0 < fs[i]?.getD 0 then (2 : Int) ^ (limit - (ls[i]?.getD 0).toNat) else 0) fs.length := by
      rw [room_sum ls hin, st'.len, ← sumTo_mul]
      refine sumTo_congr _ (fun i hi => ?_)
      by_cases h0 : 0 < fs[i]?.getD 0
      · have := hone i hi h0
        rw [if_pos (by omega), if_pos h0, ← Int.pow_add]
        congr 1
        omega
      · have h00 := fs_at hfs i
        rw [if_neg h0, if_neg (by rw [hnil i (by omega)]; omega)]
        simp
    have e3 : sumTo (fun i => if 0 < fs[i]?.getD 0 then (2 : Int) ^ (limit - (ls[i]?.getD 0).toNat) else 0) fs.length = 2 ^ limit := by
      rw [← e1]
      simp at hk
      omega
    rw [e3, ← Int.pow_add, show 15 - limit + limit = 15 by omega] at e2
    have e4 : room ls 15 = 32768 := by
      have : (2 : Int) ^ 15 = 32768 := by decide
      omega
    simp [e4]
  · rw [cost_val fs ls hfs hin h3 st'.len]
    have hc := st'.cost
    rw [if_neg (by omega), Int.add_zero] at hc
    rw [← hc]
    have e1 : sumTo (fun j => wAt (singlesL fs os) j * lam os ls j) os.length = sumTo (fun i => if 0 < fs[i]?.getD 0 then fs[i]?.getD 0 * ls[i]?.getD 0 else 0) fs.length := by
      have := sum_os (fun z => fs[z.toNat]?.getD 0 * ls[z.toNat]?.getD 0) hp
      simp only [Int.toNat_natCast] at this
      rw [← this]
      refine sumTo_congr _ (fun j hj => ?_)
      have hl : (singlesL fs os).length = os.length := upto_length _ _
      unfold wAt lam posN
      rw [List.getElem?_eq_getElem (show j < (singlesL fs os).length by omega), singles_at]
      rfl
    rw [e1]
    refine sumTo_congr _ (fun i hi => ?_)
    by_cases h0 : 0 < fs[i]?.getD 0
    · rw [if_pos h0]
    · have := fs_at hfs i
      rw [if_neg h0, show fs[i]?.getD 0 = 0 by omega]
      simp
/-- One symbol. -/
theorem best_one (fs : List Int) (limit z : Nat) (hfs : ∀ z ∈ fs, 0 ≤ z ∧ z ≤ 1073741824) (h3 : fs.length ≤ 320) (hz : ordL fs fs.length = [(z : Int)]) (h1 : 1 ≤ limit) (h15 : limit ≤ 15) :
    Best fs ((List.replicate fs.length 0).set z 1) limit (fs[z]?.getD 0) := by
  have hzl : z < fs.length := by
    have := ordL_mem fs fs.length (z : Int) (by rw [hz]; simp)
    omega
  have hzp : 0 < fs[z]?.getD 0 := by
    have := ordL_pos fs fs.length (z : Int) (by rw [hz]; simp)
    unfold keyF at this
    rwa [Int.toNat_natCast] at this
  have hoth : ∀ i, i < fs.length → i ≠ z → fs[i]?.getD 0 = 0 := fun i hi hne => by
    by_cases h0 : 0 < fs[i]?.getD 0
    · have := ordL_has fs fs.length i hi h0
      rw [hz] at this
      simp at this
      omega
    · have := fs_at hfs i
      omega
  have hat : ∀ i, i < fs.length → ((List.replicate fs.length (0 : Int)).set z 1)[i]?.getD 0 = if i = z then 1 else 0 := fun i hi => by
    rw [List.getElem?_set]
    by_cases e : z = i
    · rw [if_pos e, if_pos (by simp; omega), if_pos e.symm]
      rfl
    · rw [if_neg e, if_neg (fun h => e h.symm), rep_zero]
  have hlen : ((List.replicate fs.length (0 : Int)).set z 1).length = fs.length := by simp
  generalize (List.replicate fs.length (0 : Int)).set z 1 = ls at hat hlen
  have htop : ∀ i, i < fs.length → 0 ≤ ls[i]?.getD 0 ∧ ls[i]?.getD 0 ≤ limit := fun i hi => by
    rw [hat i hi]
    split <;> omega
  have hin := in_of_top hlen h15 htop
  have hsum : ∀ g : Nat → Int, (∀ i, i < fs.length → i ≠ z → g i = 0) → ∀ k, k ≤ fs.length → sumTo g k = if z < k then g z else 0 := fun g hg k => by
    induction k with
    | zero => intro _; rfl
    | succ k ih =>
      intro hk
      rw [sumTo, ih (by omega)]
      by_cases e : z = k
      · subst e
        rw [if_neg (by omega), if_pos (by omega)]
        omega
      · rw [hg k (by omega) (fun h => e h.symm)]
        by_cases c : z < k
        · rw [if_pos c, if_pos (by omega)]
          omega
        · rw [if_neg c, if_neg (by omega)]
          omega
  refine ⟨hlen, errOf_right ls (by omega) hin ?_, fun i hi => ?_, htop, ?_⟩
  · rw [right_same]
    have e1 : (room ls 15 : Int) = 16384 := by
      rw [room_sum ls hin, hlen, hsum _ (fun i hi hne => by rw [hat i hi, if_neg hne]; rfl) _ (Nat.le_refl _), if_pos hzl, hat z hzl, if_pos rfl]
      decide
    have e2 : nsum ls 15 = 1 := by
      have hn : ∀ k, k ≤ fs.length → (spS ls k).2 = if z < k then 1 else 0 := fun k => by
        induction k with
        | zero => intro _; rfl
        | succ k ih =>
          intro hk
          rw [spS, hat k (by omega)]
          by_cases e : k = z
          · subst e
            rw [if_pos rfl, if_pos (by omega), ih (by omega), if_neg (by omega), if_pos (by omega)]
          · rw [if_neg e, if_neg (by omega), ih (by omega)]
            by_cases c : z < k
            · rw [if_pos c, if_pos (by omega)]
            · rw [if_neg c, if_neg (by omega)]
      have := hn fs.length (Nat.le_refl _)
      rw [if_pos hzl, ← hlen, spS_spec ls hin _ (Nat.le_refl _), List.take_length] at this
      exact this
    have e3 : room ls 15 = 16384 := by omega
    simp [e2, e3]
  · rw [hat i hi]
    by_cases e : i = z
    · subst e
      rw [if_pos rfl]
      omega
    · rw [if_neg e, hoth i hi e]
  · rw [cost_val fs ls hfs hin h3 hlen, hsum _ (fun i hi hne => by rw [hoth i hi hne]; simp) _ (Nat.le_refl _), if_pos hzl, hat z hzl, if_pos rfl, Int.mul_one]
/-- No symbol. -/
theorem best_zero (fs : List Int) (limit : Nat) (hfs : ∀ z ∈ fs, z = 0) (h3 : fs.length ≤ 320) (h15 : limit ≤ 15) : Best fs (List.replicate fs.length 0) limit 0 := by
  have hat : ∀ i, i < fs.length → (List.replicate fs.length (0 : Int))[i]?.getD 0 = 0 := fun i _ => rep_zero _ _
  have hf0 : ∀ i : Nat, fs[i]?.getD 0 = 0 := fun i => by
    by_cases h : i < fs.length
    · rw [List.getElem?_eq_getElem h]
      exact hfs _ (List.getElem_mem h)
    · rw [List.getElem?_eq_none (by omega)]
      rfl
  have hlen : (List.replicate fs.length (0 : Int)).length = fs.length := by simp
  generalize List.replicate fs.length (0 : Int) = ls at hat hlen
  have htop : ∀ i, i < fs.length → 0 ≤ ls[i]?.getD 0 ∧ ls[i]?.getD 0 ≤ limit := fun i hi => by
    rw [hat i hi]
    omega
  have hin := in_of_top hlen h15 htop
  refine ⟨hlen, errOf_right ls (by omega) hin ?_, fun i hi => by rw [hat i hi, hf0 i], htop, ?_⟩
  · rw [right_same]
    have hn : ∀ k, k ≤ fs.length → (spS ls k).2 = 0 := fun k => by
      induction k with
      | zero => intro _; rfl
      | succ k ih =>
        intro hk
        rw [spS, hat k (by omega), if_neg (by omega), ih (by omega)]
    have := hn fs.length (Nat.le_refl _)
    rw [← hlen, spS_spec ls hin _ (Nat.le_refl _), List.take_length] at this
    simp only at this
    simp [this]
  · rw [cost_val fs ls (fun z hz => by rw [hfs z hz]; omega) hin h3 hlen, sumTo_congr (g := fun _ => (0 : Int)) _ (fun i _ => by rw [hf0 i]; simp), sumTo_const]
    simp
end Go.Proofs.Ytiakploggmmklaa
