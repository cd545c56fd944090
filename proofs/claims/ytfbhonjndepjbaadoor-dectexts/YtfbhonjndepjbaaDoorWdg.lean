import Derived.Test.YtfbhonjndepjbaaDoorWfu
import Derived.Test.YtfbhonjndepjbaaDoorPdk
import Derived.Test.YtfbhonjndepjbaaDoorWrm
import Derived.Test.YtfbhonjndepjbaaDoorCox
/- The digits of any number, one by one. -/
namespace Go.Proofs.YtfbhonjndepjbaaDoor
open Go.RowKit Go.Shelf

attribute [local go_sem] Oper.semAt_some

def Pl : Int → List UInt8 → List (Int × Int)
  | _, [] => []
  | t, a :: r => (t, (a.toNat : Int)) :: Pl (t - 1) r
theorem Pl_get : ∀ (l : List UInt8) (t : Int) (k : Nat) (h : k < l.length), (Pl t l)[k]? = some (t - (k : Int), (l[k].toNat : Int))
  | [], _, k, h => by simp at h
  | a :: r, t, 0, _ => by simp [Pl]
  | a :: r, t, k + 1, h => by
    have := Pl_get r (t - 1) k (by simpa using h)
    simp only [Pl, List.getElem?_cons_succ, this, List.getElem_cons_succ]
    congr 2
    omega
theorem Pl_length : ∀ (l : List UInt8) (t : Int), (Pl t l).length = l.length
  | [], _ => rfl
  | _ :: r, t => by simp [Pl, Pl_length r]
theorem Pl_snoc (l : List UInt8) (t : Int) (k : Nat) (h : k < l.length) : (Pl t l).take (k + 1) = (Pl t l).take k ++ [(t - (k : Int), (l[k].toNat : Int))] := by
  rw [List.take_add_one, Pl_get l t k h]; rfl
def encW (x : Int × Int) : Array Value := #[.int .i64 x.1, .int .u8 x.2]
def boxW (y : Wd) : Array Value := #[.bool y.neg, .int .u64 0, .int .u64 (y.n : Int), .int .i64 y.e]
def digsW (y : Wd) : List (Int × Int) := Pl (topP y.n y.e) (dlist y.n y.e)
set_option maxRecDepth 100000 in
set_option maxHeartbeats 4000000 in
theorem wdigits_in (n : Nat) (hn : 3 ≤ n) (DB : Nat) (y : Wd) (hb : y.n ≤ 9223372036854775808) (he : -18 ≤ y.e ∧ y.e ≤ 18) (w : World) (hDB : Row w DB 59 (boxW y)) (htab : PTab w) :
    SeqOwn Fence.wide n Tryd.prog 95 #[.pointer (some ⟨DB, 0, none⟩)] encW (fun _ => False) (fun k => k = DB) (fun pre x => ∃ k, k < (digsW y).length ∧ pre = (digsW y).take k ∧ (digsW y)[k]? = some x) (fun xs => xs = digsW y) w := by
  intro l J W hW hJ hO hY ⟨own0, h0⟩
  have hR0 : Row W DB 59 (boxW y) := hDB.below hW hDB.lt
  have hfm := fmt_any y.n (by omega) W (htab.below hW)
  obtain ⟨ng, m, e⟩ := y
  unfold boxW at hR0
  simp only at hR0 hb he hfm
  have hd1 := dec_len m (by omega)
  have hat := fun j hj => dlist_at m e j hj hd1.1
  have hln := dlist_len m e hd1.1
  obtain ⟨t1, t2⟩ := topP_spec m e
  simp only [digsW] at hY ⊢
  generalize topP m e = t at *
  generalize dlist m e = dl at *
  generalize Lib.decDigits m = D at *
  have hsz : (bs D).size = D.length := bs_size D
  obtain ⟨f, hf⟩ : ∃ f : Int, e + ((bs D).size : Int) - 1 = f := ⟨_, rfl⟩
  have hf2 : e + (D.length : Int) - 1 = f := by rw [← hsz]; exact hf
  have hL1 : (1 : Int) ≤ ((bs D).size : Int) := by omega
  have hL2 : ((bs D).size : Int) ≤ 20 := by omega
  have HAT : Hid (∀ (j : Nat) (hj : j < dl.length), dl[j] = if t - (j : Int) ≤ f ∧ e ≤ t - (j : Int) then D.getD (f - (t - (j : Int))).toNat 48 else 48) := by
    intro j hj; rw [hat j hj, hf2]
  have HT : Hid ((f < 0 → t = 0) ∧ (0 ≤ f → t = f)) := by
    rw [hf2] at t1 t2
    exact ⟨t1, t2⟩
  obtain ⟨mn, hmn⟩ : ∃ mn : Int, (if e < 0 then e else 0) = mn := ⟨_, rfl⟩
  rw [hmn] at hln
  have HLN : Hid ((dl.length : Int) = t - mn + 1) := hln
  have HMN : Hid ((e < 0 → mn = e) ∧ (0 ≤ e → mn = 0)) := by
    rw [← hmn]
    exact ⟨fun h => if_pos h, fun h => if_neg (by omega)⟩
  have b1 : -18 ≤ e := he.1
  have b2 : e ≤ 18 := he.2
  have b3 : -18 ≤ f := by omega
  have b4 : f ≤ 37 := by omega
  have HSZ : Hid ((bs D).size = D.length) := hsz
  have HF : Hid (e + ((bs D).size : Int) - 1 = f) := hf
  clear t1 t2 hat hln hmn he hd1 hf2 hDB hsz
  obtain ⟨c0, c1, c2, c3⟩ := Row.four hR0
  refine callsIn_of_wp Tryd.func95 rfl trivial ?_ rfl
  simp only [Tryd.ntmps95, List.size_toArray, List.length_cons, List.length_nil, Nat.reduceAdd, Nat.reduceSub, Array.replicate_succ, Array.replicate_zero, List.push_toArray, List.append_toArray, List.nil_append, List.cons_append]
  gi_wp2_with fail
  refine ⟨trivial, fun _ => by omega, (callsIn_wide.2 hfm).mono ?_⟩
  rintro _ w1 ⟨rfl, hB1⟩
  have hR1 := hR0.below hB1 hR0.lt
  have hJ1 := hJ _ _ _ w1 h0 (Kept.of_below hB1 (fun k hk => hk.1))
  clear hfm hB1 hR0 c0 c1 c2 c3 h0 hW htab hb
  obtain ⟨c0, c1, c2, c3⟩ := Row.four hR1
  have hfe : e ≤ f := by have := HF.out; omega
  gi_wp2
  clear hf
  gi_loopw [5] (fun v wr => ∃ (k : Nat) (q : Int), k ≤ dl.length ∧ v = .int .i64 q ∧ Hid (q = t - (k : Int)) ∧ ∃ own, J ((Pl t dl).take k) own wr ∧ Row wr DB 59 #[.bool ng, .int .u64 0, .int .u64 (m : Int), .int .i64 e]) (fun v _ => ((intOf v) + 20).toNat)
  case atStart => exact ⟨0, t, Nat.zero_le _, by have := HT.out; congr 1; omega, by show t = _; simp, own0, by simpa using hJ1, hR1⟩
  case round =>
    obtain ⟨k, q, hk, rfl, HQ, own, hJs, hRw⟩ := hrel
    clear c0 c1 c2 c3 hR1 hJ1
    obtain ⟨c0, c1, c2, c3⟩ := Row.four hRw
    have hq0 := HQ.out
    have hl0 := HLN.out
    have hm0 := HMN.out
    have ht0 := HT.out
    have b5 : -19 ≤ q := by omega
    have b6 : q ≤ 37 := by omega
    have HQ2 : Hid (q - 1 = t - ((k + 1 : Nat) : Int)) := by show _ = _; omega
    by_cases hlt : k < dl.length
    · have g9 : min e 0 ≤ q := by omega
      by_cases hA : q ≤ f ∧ e ≤ q
      · have hi2 : (f - q).toNat < (bs D).size := by have := HF.out; omega
        have HDIG : Hid ((dl[k].toNat : Int) = (((bs D)[(f - q).toNat]'hi2).toNat : Int)) := by
          show (dl[k].toNat : Int) = _
          rw [HAT.out k hlt, if_pos (by omega), show (f - (t - (k : Int))).toNat = (f - q).toNat by omega, List.getD_eq_getElem?_getD, List.getElem?_eq_getElem (by rw [HSZ.out] at hi2; exact hi2)]
          rfl
        obtain ⟨g1, g2⟩ := hA
        have g3 : (0 : Int) ≤ f - q := by omega
        have g4 : f - q < ((bs D).size : Int) := by have := HF.out; omega
        have HSN : Hid ((Pl t dl).take (k + 1) = (Pl t dl).take k ++ [(q, (((bs D)[(f - q).toNat]'hi2).toNat : Int))]) := by show _ = _; rw [Pl_snoc dl t k hlt, HDIG.out, ← HQ.out]
        obtain ⟨fn, tmps, assign, body, hy, hR⟩ := hY _ (q, (((bs D)[(f - q).toNat]'hi2).toNat : Int)) own wr hJs ⟨k, by rw [Pl_length]; exact hlt, rfl, by rw [Pl_get dl t k hlt, HDIG.out, ← HQ.out]⟩
        simp only [encW] at hy
        clear hY hq0 hl0 hm0 ht0
        gi_wp2
        refine ⟨fun _ => by omega, hR.mono ?_⟩
        rintro _ W3 ⟨rfl, ⟨own', hJ3⟩, hk3⟩
        have hB3 := hRw.kept hk3 ⟨hRw.lt, fun ho => (hO _ _ _ _ hJs ho).2 rfl⟩
        have HJ3 : Hid (J ((Pl t dl).take (k + 1)) own' W3) := by show J _ _ _; rw [HSN.out]; exact hJ3
        clear hJ3 hR hy
        gi_wp2
        go_roundw
        case rel => exact ⟨k + 1, q - 1, hlt, by go_num, HQ2, own', HJ3.out, hB3⟩
        case measure => simp [intOf]; omega
      · by_cases hB : ¬ q ≤ f
        · have HDIG : Hid ((dl[k].toNat : Int) = 48) := by
            show (dl[k].toNat : Int) = 48
            rw [HAT.out k hlt, if_neg (by omega)]
            rfl
          have g1 : decide (q ≤ f) = false := decide_eq_false hB
          clear hA
          have HSN : Hid ((Pl t dl).take (k + 1) = (Pl t dl).take k ++ [(q, 48)]) := by show _ = _; rw [Pl_snoc dl t k hlt, HDIG.out, ← HQ.out]
          obtain ⟨fn, tmps, assign, body, hy, hR⟩ := hY _ (q, 48) own wr hJs ⟨k, by rw [Pl_length]; exact hlt, rfl, by rw [Pl_get dl t k hlt, HDIG.out, ← HQ.out]⟩
          simp only [encW] at hy
          clear hY hq0 hl0 hm0 ht0
          gi_wp2
          refine ⟨fun _ => by omega, hR.mono ?_⟩
          rintro _ W3 ⟨rfl, ⟨own', hJ3⟩, hk3⟩
          have hB3 := hRw.kept hk3 ⟨hRw.lt, fun ho => (hO _ _ _ _ hJs ho).2 rfl⟩
          have HJ3 : Hid (J ((Pl t dl).take (k + 1)) own' W3) := by show J _ _ _; rw [HSN.out]; exact hJ3
          clear hJ3 hR hy
          gi_wp2
          go_roundw
          case rel => exact ⟨k + 1, q - 1, hlt, by go_num, HQ2, own', HJ3.out, hB3⟩
          case measure => simp [intOf]; omega
        · have HDIG : Hid ((dl[k].toNat : Int) = 48) := by
            show (dl[k].toNat : Int) = 48
            rw [HAT.out k hlt, if_neg (by omega)]
            rfl
          have g1 : q ≤ f := by omega
          have g2 : decide (e ≤ q) = false := decide_eq_false (by omega)
          clear hA hB
          have HSN : Hid ((Pl t dl).take (k + 1) = (Pl t dl).take k ++ [(q, 48)]) := by show _ = _; rw [Pl_snoc dl t k hlt, HDIG.out, ← HQ.out]
          obtain ⟨fn, tmps, assign, body, hy, hR⟩ := hY _ (q, 48) own wr hJs ⟨k, by rw [Pl_length]; exact hlt, rfl, by rw [Pl_get dl t k hlt, HDIG.out, ← HQ.out]⟩
          simp only [encW] at hy
          clear hY hq0 hl0 hm0 ht0
          gi_wp2
          refine ⟨fun _ => by omega, hR.mono ?_⟩
          rintro _ W3 ⟨rfl, ⟨own', hJ3⟩, hk3⟩
          have hB3 := hRw.kept hk3 ⟨hRw.lt, fun ho => (hO _ _ _ _ hJs ho).2 rfl⟩
          have HJ3 : Hid (J ((Pl t dl).take (k + 1)) own' W3) := by show J _ _ _; rw [HSN.out]; exact hJ3
          clear hJ3 hR hy
          gi_wp2
          go_roundw
          case rel => exact ⟨k + 1, q - 1, hlt, by go_num, HQ2, own', HJ3.out, hB3⟩
          case measure => simp [intOf]; omega
    · have HE : Hid ((Pl t dl).take k = Pl t dl) := by show _ = _; rw [List.take_of_length_le (by rw [Pl_length]; omega)]
      have g1 : decide (min e 0 ≤ q) = false := decide_eq_false (by omega)
      have HJ3 : Hid (J (Pl t dl) own wr) := by show J _ _ _; rw [← HE.out]; exact hJs
      clear hY hq0 hl0 hm0 ht0
      gi_wp2
      go_end0
      exact ⟨⟨_, rfl⟩, _, own, rfl, HJ3.out⟩
end Go.Proofs.YtfbhonjndepjbaaDoor
