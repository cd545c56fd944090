import Derived.Test.YtdmddclfjjfcgaaDoorWpm
import Derived.Test.YtdmddclfjjfcgaaDoorDpaM
/- Pure: what Print writes is read as the number. -/
namespace Go.Proofs.YtdmddclfjjfcgaaDoor
open Go.RowKit

def nI (b : UInt8) : Int := (b.toNat : Int)
theorem outB_low : ∀ (l : List UInt8) (t : Int), t ≤ -2 → outB (Pl t l) = l.map nI
  | [], _, _ => rfl
  | a :: r, t, h => by
    simp only [Pl, outB, List.map_cons]
    rw [if_neg (by omega), outB_low r (t - 1) (by omega)]
    rfl
theorem outB_Pl : ∀ (l : List UInt8) (k : Nat), outB (Pl ((k : Int) - 1) l) = (l.take k).map nI ++ (if k < l.length then 46 :: (l.drop k).map nI else [])
  | [], k => by simp [Pl, outB]
  | a :: r, 0 => by
    simp only [Pl, outB]
    rw [if_pos (by omega), outB_low r _ (by omega)]
    simp [nI]
  | a :: r, k + 1 => by
    have ih := outB_Pl r k
    simp only [Pl, outB]
    rw [if_neg (by omega), show ((k + 1 : Nat) : Int) - 1 - 1 = (k : Int) - 1 by omega, ih]
    simp [nI]
/-- How many digits stand ahead of the point. -/
def whN (y : Wd) : Nat := (topP y.n y.e + 1).toNat
theorem topP_nn (n : Nat) (e : Int) : 0 ≤ topP n e := by
  obtain ⟨t1, t2⟩ := topP_spec n e
  omega
theorem whN_len (y : Wd) (h : y.n ≤ 9223372036854775808) : ((dlist y.n y.e).length : Int) = (whN y : Int) - (if y.e < 0 then y.e else 0) ∧ 1 ≤ whN y ∧ whN y ≤ (dlist y.n y.e).length := by
  have h1 := dec_len y.n (by omega)
  have h2 := dlist_len y.n y.e h1.1
  have h3 := topP_nn y.n y.e
  unfold whN
  split at h2
  · rename_i h4; rw [if_pos h4]; omega
  · rename_i h4; rw [if_neg h4]; omega
/-- A number's text. -/
def txtL (y : Wd) : List UInt8 := (if y.neg then [45] else []) ++ ((dlist y.n y.e).take (whN y) ++ (if y.e < 0 then 46 :: (dlist y.n y.e).drop (whN y) else []))
theorem strOf_nI (l : List UInt8) : (l.map nI).map (fun n => UInt8.ofNat n.toNat) = l := by
  rw [List.map_map]
  conv => rhs; rw [← List.map_id l]
  congr 1
  funext b
  simp [nI]
theorem print_txt (c e : Int) (hc : I64 c) (he : within e) : printS c e = bs (txtL (decW c e)) := by
  have hS := sh_dec c e he.1 he.2 hc.1 hc.2
  unfold printS txtL
  generalize decW c e = y at *
  have hw := whN_len y hS.big
  have ht := topP_nn y.n y.e
  have hP : outB (digsW y) = ((dlist y.n y.e).take (whN y) ++ (if y.e < 0 then 46 :: (dlist y.n y.e).drop (whN y) else [])).map nI := by
    unfold digsW
    have := outB_Pl (dlist y.n y.e) (whN y)
    rw [show ((whN y : Nat) : Int) - 1 = topP y.n y.e by unfold whN; omega] at this
    rw [this, List.map_append]
    congr 1
    by_cases h : y.e < 0
    · rw [if_pos h] at hw ⊢
      rw [if_pos (by omega)]; rfl
    · rw [if_neg h] at hw ⊢
      rw [if_neg (by omega)]; rfl
  have hs : signL y.neg = (if y.neg then [45] else [] : List UInt8).map nI := by unfold signL; cases y.neg <;> rfl
  refine bs_ext ?_
  rw [strOfNums_data, hP, hs, ← List.map_append, strOf_nI]
theorem dig_has {b : UInt8} (h : 48 ≤ b.toNat ∧ b.toNat ≤ 57) : digL.contains b = true := by
  have : b.toNat = 48 ∨ b.toNat = 49 ∨ b.toNat = 50 ∨ b.toNat = 51 ∨ b.toNat = 52 ∨ b.toNat = 53 ∨ b.toNat = 54 ∨ b.toNat = 55 ∨ b.toNat = 56 ∨ b.toNat = 57 := by omega
  rcases this with h | h | h | h | h | h | h | h | h | h <;> (rw [← UInt8.ofNat_toNat (x := b), h]; rfl)
theorem ahead_dig (a b : List UInt8) (ha : Dig a) (hb : b = [] ∨ ∃ r, b = 46 :: r) : aheadL (a ++ b) digL = a ∧ behL (a ++ b) digL = b := by
  have h1 : ∀ x ∈ a, digL.contains x = true := fun x hx => dig_has (ha x hx)
  unfold aheadL behL
  rw [List.takeWhile_append_of_pos h1, List.dropWhile_append_of_pos h1]
  rcases hb with rfl | ⟨r, rfl⟩
  · simp
  · rw [List.takeWhile_cons, List.dropWhile_cons]
    have : digL.contains (46 : UInt8) = false := by decide
    rw [this]
    simp
theorem read_txt (neg : Bool) (wh pt : List UInt8) (b : Bool) (hw : wh ≠ []) (dw : Dig wh) (dp : Dig pt) (hp : b = true → pt ≠ []) (hb : b = false → pt = []) :
    readR ((if neg then [45] else []) ++ (wh ++ (if b then 46 :: pt else []))) = (⟨neg, wh, pt, 0⟩, true) := by
  have hq : (if b then 46 :: pt else [] : List UInt8) = [] ∨ ∃ r, (if b then 46 :: pt else [] : List UInt8) = 46 :: r := by
    cases b
    · exact .inl rfl
    · exact .inr ⟨pt, rfl⟩
  obtain ⟨k1, k2⟩ := ahead_dig wh _ dw hq
  have hpre : Lib.hasPrefix ((if neg then [45] else []) ++ (wh ++ (if b then 46 :: pt else []))) [45] = neg ∧ Lib.trimPrefix ((if neg then [45] else []) ++ (wh ++ (if b then 46 :: pt else []))) [45] = wh ++ (if b then 46 :: pt else []) := by
    generalize (if b then 46 :: pt else [] : List UInt8) = tl at *
    cases neg
    · obtain ⟨a, r, rfl⟩ := List.exists_cons_of_ne_nil hw
      have ha := dw a (by simp)
      have hne : ((45 : UInt8) == a) = false := by
        simp only [beq_eq_false_iff_ne]
        rintro rfl
        exact absurd ha (by decide)
      have h0 : Lib.hasPrefix (a :: r ++ tl) [45] = false := by simp [Lib.hasPrefix, List.isPrefixOf, hne]
      refine ⟨by simpa using h0, ?_⟩
      unfold Lib.trimPrefix
      simp only [Bool.false_eq_true, if_false, List.nil_append, h0]
    · simp [Lib.hasPrefix, Lib.trimPrefix, List.isPrefixOf]
  have hpart : partR (if b then 46 :: pt else []) = (pt, [], true) := by
    cases b
    · rw [hb rfl]; rfl
    · obtain ⟨m1, m2⟩ := ahead_dig pt [] dp (.inl rfl)
      rw [List.append_nil] at m1 m2
      have h0 : Lib.hasPrefix (46 :: pt) [46] = true := by simp [Lib.hasPrefix, List.isPrefixOf]
      have h1 : Lib.trimPrefix (46 :: pt) [46] = pt := by simp [Lib.trimPrefix, h0]
      unfold partR
      simp only [if_true, h0, h1, m1, m2]
      have : pt.isEmpty = false := by simpa using hp rfl
      rw [this]; rfl
  unfold readR
  rw [hpre.1, hpre.2, k1, k2, hpart]
  have : wh.isEmpty = false := by simpa using hw
  simp only [this, expO, List.isEmpty_nil, if_true]
  rfl
theorem parse_txt (c e : Int) (hc : I64 c) (he : within e) : decPv (txtL (decW c e)) = decV (tell c e) ∧ 1 ≤ (txtL (decW c e)).length ∧ (txtL (decW c e)).length ≤ 40 ∧ ∀ b ∈ txtL (decW c e), b = 45 ∨ b = 46 ∨ (48 ≤ b.toNat ∧ b.toNat ≤ 57) := by
  have hS := sh_dec c e he.1 he.2 hc.1 hc.2
  have hV := sc_dec (-18) c e he.1
  have htell : tell (sc (decW c e)) (decW c e).e = tell c e := tell_same (m := -18) he.1 hS.lo hV
  rw [tell_sc] at htell
  generalize decW c e = y at *
  obtain ⟨w1, w2, w3⟩ := whN_len y hS.big
  have hd := dlist_dig y.n y.e
  have hdw : Dig ((dlist y.n y.e).take (whN y)) := fun b hb => hd b (List.mem_of_mem_take hb)
  have hdp : Dig ((dlist y.n y.e).drop (whN y)) := fun b hb => hd b (List.mem_of_mem_drop hb)
  have hL := dec_len y.n (by have := hS.big; omega)
  have hl := dlist_len y.n y.e hL.1
  obtain ⟨t1, t2⟩ := topP_spec y.n y.e
  have hlo := hS.lo
  have hhi := hS.hi
  have htl : (txtL y).length ≤ 40 ∧ 1 ≤ (txtL y).length := by
    unfold txtL
    rw [List.length_append, List.length_append, List.length_take]
    have h1 : (if y.neg then [45] else [] : List UInt8).length ≤ 1 := by cases y.neg <;> simp
    by_cases hn : y.e < 0
    · rw [if_pos hn] at w1 hl ⊢
      rw [List.length_cons, List.length_drop]
      omega
    · rw [if_neg hn] at w1 hl ⊢
      simp only [List.length_nil]
      omega
  refine ⟨?_, htl.2, htl.1, ?_⟩
  · have hwne : (dlist y.n y.e).take (whN y) ≠ [] := by
      intro h
      have := congrArg List.length h
      rw [List.length_take, List.length_nil] at this
      omega
    have hread : readR (txtL y) = (⟨y.neg, (dlist y.n y.e).take (whN y), (dlist y.n y.e).drop (whN y), 0⟩, true) := by
      have hif : (if y.e < 0 then 46 :: (dlist y.n y.e).drop (whN y) else []) = (if decide (y.e < 0) = true then 46 :: (dlist y.n y.e).drop (whN y) else []) := by simp
      unfold txtL
      rw [hif]
      refine read_txt y.neg _ _ (decide (y.e < 0)) hwne hdw hdp ?_ ?_
      · intro h hx
        have h := of_decide_eq_true h
        have := congrArg List.length hx
        rw [List.length_drop, List.length_nil] at this
        rw [if_pos h] at w1
        omega
      · intro h
        have h := of_decide_eq_false h
        rw [if_neg h] at w1
        exact List.drop_eq_nil_of_le (by omega)
    have hlen : (((dlist y.n y.e).take (whN y)).length : Int) = whN y := by rw [List.length_take]; omega
    obtain ⟨z, z1, z2⟩ := back_told y.neg y.n y.e (whN y) hhi hS.big (by rw [w1]; omega)
    have hdigs : (⟨y.neg, (dlist y.n y.e).take (whN y), (dlist y.n y.e).drop (whN y), 0⟩ : Wr).digs = dgsL (dlist y.n y.e) (whN y) := by
      unfold Wr.digs
      simp only
      rw [List.take_append_drop, hlen, Int.zero_add]
    have hfold : foldS (readR (txtL y)).1.digs = some z := by
      rw [hread]
      simp only
      rw [hdigs]
      exact z1
    have hpd : parsedD (txtL y) = tellW y.neg y.n y.e := by
      unfold parsedD
      rw [hfold]
      simp only
      rw [hread]
      exact z2
    unfold decPv
    rw [hpd, htell, decide_eq_false (by omega), hread]
    rfl
  · intro b hb
    unfold txtL at hb
    rcases List.mem_append.1 hb with hb | hb
    · cases hn : y.neg
      · rw [hn] at hb; simp at hb
      · rw [hn] at hb; simp at hb; exact .inl hb
    · rcases List.mem_append.1 hb with hb | hb
      · exact .inr (.inr (hdw b hb))
      · by_cases hn : y.e < 0
        · rw [if_pos hn] at hb
          rcases List.mem_cons.1 hb with hb | hb
          · exact .inr (.inl hb)
          · exact .inr (.inr (hdp b hb))
        · rw [if_neg hn] at hb; simp at hb
#print axioms parse_txt
end Go.Proofs.YtdmddclfjjfcgaaDoor
