/- The iterator over the items that tell a text. -/
import Derived.Test.YtijfjbpmlcmnmaaDoorItm
import Derived.Test.YtijfjbpmlcmnmaaDoorRgo
namespace Go.Proofs.YtijfjbpmlcmnmaaDoor
open Go.RowKit Go.Shelf

attribute [local go_sem] Oper.semAt_some

def It.size (r : It) : Nat := (max 1 r.l).toNat
def told : List It → Nat
  | [] => 0
  | r :: rs => r.size + told rs
theorem told_snoc (pre : List It) (r : It) : told (pre ++ [r]) = told pre + r.size := by
  induction pre with
  | nil => simp [told]
  | cons y ys ih => simp [told, ih]; omega
/-- What may come next: an item that tells what stands there; no byte where the byte ahead stands three times more. -/
def ItemOf (T : List Int) (q : Nat) (pre : List It) (r : It) : Prop :=
  told pre < q ∧ ItemOk T (told pre) q r ∧ (r.l = 0 → told pre + 3 ≤ q → 1 ≤ told pre → ¬ ∀ i, i < 3 → T[told pre - 1 + i]?.getD 0 = T[told pre + i]?.getD 0)
theorem ItemOk.size {T : List Int} {p q : Nat} {r : It} (h : ItemOk T p q r) (hp : p < q) : 1 ≤ r.size ∧ p + r.size ≤ q ∧ max 1 r.l = (r.size : Int) := by
  unfold It.size
  rcases h with ⟨h1, _, _⟩ | ⟨_, l, d, h1, _, h2, h3, h4, _⟩
  · rw [h1]; simp; omega
  · rw [h1]; omega
theorem hashN_run {T : List Int} {m p : Nat} (h : ∀ i, i < 3 → T[p - 1 + i]?.getD 0 = T[p + i]?.getD 0) : hashN T m (p - 1) = hashN T m p := by
  have e0 := h 0 (by omega)
  have e1 := h 1 (by omega)
  have e2 := h 2 (by omega)
  unfold hashN
  simp only [Nat.add_zero] at e0
  rw [e0, e1, e2]
theorem no_run {T hs bs : List Int} {m p q : Nat} {r : It} (hC : ChainOk T m p hs bs) (hq : q ≤ T.length) (h : r.l = 0 → p + 3 ≤ q → ¬ RunHere T p (hs[hashN T m p]?.getD 0)) : r.l = 0 → p + 3 ≤ q → 1 ≤ p → ¬ ∀ i, i < 3 → T[p - 1 + i]?.getD 0 = T[p + i]?.getD 0 := by
  intro h1 h2 h3 h4
  refine h h1 h2 ⟨h3, ?_, h4⟩
  rw [← hashN_run h4]
  exact hC.last h3 (by omega)

set_option maxRecDepth 100000 in
set_option maxHeartbeats 400000 in
theorem items_any (F p q : Nat) (w : World) : Calls Tryd.prog 19 #[.pointer (some ⟨F, 0, none⟩), .int .i64 (p : Int), .int .i64 (q : Int)] w fun e w' =>
    e = .returned (.func (.func 32) #[] #[.pointer (some ⟨w.heap.size + 1, 0, none⟩), .pointer (some ⟨w.heap.size + 1 + 1, 0, none⟩), .pointer (some ⟨w.heap.size, 0, none⟩)]) ∧ w' = ((w.alloc (.cells #[.pointer (some ⟨F, 0, none⟩)] 48)).alloc (.cells #[.int .i64 (p : Int)] 3)).alloc (.cells #[.int .i64 (q : Int)] 3) := by
  go_enter Tryd.func19, Tryd.ntmps19
  go_wp2
  go_ret
  exact ⟨by simp, rfl⟩

set_option maxRecDepth 100000 in
set_option maxHeartbeats 4000000 in
theorem items_seq (n : Nat) (D : Nat → Prop) (F H P Bf Bt Bp : Nat) (a : Option Addr) (cap m : Nat) (T hs0 bs0 : List Int) (q : Nat) (hq : q ≤ T.length) (hm : 1 ≤ m ∧ m ≤ 32768) (hl : T.length ≤ 2000000) (hT : AreBytes T) (hC0 : ChainOk T m 0 hs0 bs0)
    (w : World) (hDw : ∀ k, (D k ∨ k = F ∨ k = H ∨ k = P) → k < w.heap.size) (hBw : Bf < w.heap.size ∧ Bt < w.heap.size ∧ Bp < w.heap.size) (hBz : (Bf ≠ H ∧ Bf ≠ P) ∧ (Bt ≠ H ∧ Bt ≠ P) ∧ (Bp ≠ H ∧ Bp ≠ P)) (hF : FindAt D F H P a cap m T hs0 bs0 w)
    (c1 : w.cell? ⟨Bf, 0, none⟩ = some (.int .i64 0)) (c2 : w.cell? ⟨Bt, 0, none⟩ = some (.int .i64 (q : Int))) (c3 : w.cell? ⟨Bp, 0, none⟩ = some (.pointer (some ⟨F, 0, none⟩))) :
    SeqOwn Fence.wide n Tryd.prog 32 #[.pointer (some ⟨Bf, 0, none⟩), .pointer (some ⟨Bt, 0, none⟩), .pointer (some ⟨Bp, 0, none⟩)] (fun r : It => #[r.val]) (fun k => k = H ∨ k = P) (fun k => (D k ∨ k = F ∨ k = H ∨ k = P) ∨ k = Bf ∨ k = Bt ∨ k = Bp) (ItemOf T q) (fun xs => told xs = q) w := by
  intro l J W hW hJs hJo hY h0
  have hKW : Kept (fun k => k < w.heap.size) w W := Kept.of_below hW (fun _ h => h)
  have d1 := (hKW.cell (p := ⟨Bf, 0, none⟩) hBw.1).trans c1
  have d2 := (hKW.cell (p := ⟨Bt, 0, none⟩) hBw.2.1).trans c2
  have d3 := (hKW.cell (p := ⟨Bp, 0, none⟩) hBw.2.2).trans c3
  have hFW := hF.kept hKW hDw
  have HSZ : Hid (w.heap.size ≤ W.heap.size) := hKW.size
  have HJs : Hid _ := hJs
  have HJo : Hid _ := hJo
  have HY : Hid _ := hY
  obtain ⟨own0, h0⟩ := h0
  clear hW hKW c1 c2 c3 hF hJs hJo hY
  refine callsIn_of_wp Tryd.func32 rfl trivial ?_ rfl
  simp only [Tryd.ntmps32, List.size_toArray, List.length_cons, List.length_nil, Nat.reduceAdd, Nat.reduceSub, Array.replicate_succ, Array.replicate_zero, List.push_toArray, List.append_toArray, List.nil_append, List.cons_append]
  have HJ0 : Hid (J [] own0 W) := h0
  have HFW : Hid _ := hFW
  have HC0 : Hid _ := hC0
  clear h0 hFW hC0
  gi_wp2
  gi_loopw [5] (fun v5 wr => ∃ (pre : List It) (hs bs : List Int) (own : Nat → Prop), v5 = .int .i64 (told pre : Int) ∧ told pre ≤ q ∧ Hid (FindAt D F H P a cap m T hs bs wr) ∧ Hid (ChainOk T m (told pre) hs bs) ∧ Hid (J pre own wr) ∧ Hid (Kept (fun k => k = Bf ∨ k = Bt ∨ k = Bp) W wr)) (fun v5 _ => q - (intOf v5).toNat)
  case atStart => exact ⟨[], hs0, bs0, own0, rfl, Nat.zero_le _, HFW, HC0, HJ0, Kept.refl _ _⟩
  case round =>
    obtain ⟨pre, hs, bs, own, rfl, hle, HF, HC, HJ, HK⟩ := hrel
    have g2 := (HK.out.cell (p := ⟨Bt, 0, none⟩) (.inr (.inl rfl))).trans d2
    have g3 := (HK.out.cell (p := ⟨Bp, 0, none⟩) (.inr (.inr rfl))).trans d3
    by_cases hlt : told pre < q
    rotate_left
    · have t1 : ¬ ((told pre : Int) < (q : Int)) := by omega
      gi_wp2
      go_end0
      exact ⟨⟨_, rfl⟩, pre, by omega, own, HJ.out⟩
    · have t1 : (told pre : Int) < (q : Int) := by omega
      have HI : Hid (Calls Tryd.prog 33 #[.pointer (some ⟨F, 0, none⟩), .int .i64 (told pre : Int), .int .i64 (q : Int)] wr _) := item_any D F H P a cap m T hs bs wr (fun k h => by have := hDw k h; have := HSZ.out; have := HK.out.size; omega) HF.out (told pre) q hlt hq hm hl hT HC.out
      gi_wp2_with fail
      refine ⟨trivial, (fun h => by cases h), (callsIn_wide.2 HI.out).mono ?_⟩
      clear HI
      rintro e w1 ⟨hb1, ⟨rb, rl, rd⟩, rfl, hOk, hNo⟩
      have HIO : Hid (ItemOf T q pre ⟨rb, rl, rd⟩) := ⟨hlt, hOk, no_run HC.out hq hNo⟩
      have HSI : Hid _ := hOk.size hlt
      have hkV : Kept (fun k => k < wr.heap.size) wr (w1.alloc (.cells #[.int .i64 rb, .int .i64 rl, .int .i64 rd] 32)) := (Kept.of_below hb1 (fun _ h => h)).alloc (fun k (h : k < wr.heap.size) => Nat.lt_of_lt_of_le h hb1.size) _
      have HJV : Hid (J pre own (w1.alloc (.cells #[.int .i64 rb, .int .i64 rl, .int .i64 rd] 32))) := HJs.out _ _ _ _ HJ.out (hkV.mono (fun k h => h.1))
      have HRV := Row.new w1 32 #[.int .i64 rb, .int .i64 rl, .int .i64 rd]
      have HON : Hid (∀ k, own k → k < wr.heap.size ∧ ¬ ((D k ∨ k = F ∨ k = H ∨ k = P) ∨ k = Bf ∨ k = Bt ∨ k = Bp)) := fun k h => HJo.out pre own wr k HJ.out h
      have hDr : ∀ k, (D k ∨ k = F ∨ k = H ∨ k = P) → k < wr.heap.size := fun k h => by have := hDw k h; have := HSZ.out; have := HK.out.size; omega
      have HDr : Hid _ := hDr
      have HFV : Hid (FindAt D F H P a cap m T hs bs (w1.alloc (.cells #[.int .i64 rb, .int .i64 rl, .int .i64 rd] 32))) := HF.out.kept hkV hDr
      have hBr : Bf < wr.heap.size ∧ Bt < wr.heap.size ∧ Bp < wr.heap.size := by have := HSZ.out; have := HK.out.size; omega
      have HKV : Hid (Kept (fun k => k = Bf ∨ k = Bt ∨ k = Bp) W (w1.alloc (.cells #[.int .i64 rb, .int .i64 rl, .int .i64 rd] 32))) := HK.out.trans (hkV.mono (by rintro k (rfl | rfl | rfl) <;> omega))
      have HZV : Hid (wr.heap.size ≤ w1.heap.size) := hb1.size
      obtain ⟨fn, tmps, assign, body, hy, hRd⟩ := HY.out pre ⟨rb, rl, rd⟩ own _ HJV.out HIO.out
      simp only [It.val] at hy ⊢
      clear hDr hkV hOk hNo hb1 HJ HF HK g2
      gi_wp2
      refine ⟨(fun h => by cases h), hRd.mono ?_⟩
      clear hRd hy
      rintro e w9 ⟨rfl, ⟨own', hJ9⟩, hk9⟩
      have hF9 : FindAt D F H P a cap m T hs bs w9 := HFV.out.kept hk9 (fun k h => ⟨by have := HDr.out k h; have := HZV.out; simp only [World.size_alloc]; omega, fun ho => (HON.out k ho).2 (.inl h)⟩)
      have hR9 := HRV.kept hk9 ⟨by simp, fun ho => by have := (HON.out _ ho).1; have := HZV.out; omega⟩
      have hK9 : Kept (fun k => k = Bf ∨ k = Bt ∨ k = Bp) W w9 := HKV.out.trans (hk9.mono (fun k h => ⟨by simp only [World.size_alloc]; have := HZV.out; rcases h with rfl | rfl | rfl <;> omega, fun ho => (HON.out k ho).2 (.inr h)⟩))
      have c90 := hR9.cell (i := 0) rfl
      have c91 := hR9.cell (i := 1) rfl
      have c92 := hR9.cell (i := 2) rfl
      have HS : Hid (Calls Tryd.prog 25 #[It.val ⟨rb, rl, rd⟩] w9 fun e w' => e = .returned (.int .i64 (max 1 rl)) ∧ Below w9.heap.size w9 w') := size_any ⟨rb, rl, rd⟩ w9
      have HZ9 : Hid (w1.heap.size ≤ w9.heap.size) := by have := hk9.size; simp only [World.size_alloc] at this; show _ ≤ _; omega
      have HF9 : Hid _ := hF9
      have HK9 : Hid _ := hK9
      have HJ9 : Hid _ := hJ9
      obtain ⟨hs1, hs2, hs3⟩ := HSI.out
      obtain ⟨sz, HSZE⟩ : ∃ sz, Hid (It.size ⟨rb, rl, rd⟩ = sz) := ⟨_, rfl⟩
      rw [HSZE.out] at hs1 hs2 hs3
      rw [hs3] at HS
      simp only [It.val] at HS
      clear hk9 hF9 hK9 hJ9 hR9 HRV HFV HKV HJV HON hs3
      gi_wp2_with fail
      refine ⟨trivial, (fun h => by cases h), (callsIn_wide.2 HS.out).mono ?_⟩
      clear HS
      rintro e w10 ⟨rfl, hb10⟩
      have HF10 : Hid (FindAt D F H P a cap m T hs bs w10) := HF9.out.kept (Kept.of_below hb10 (S := fun k => k < w9.heap.size) (fun _ h => h)) (fun k h => by have := HDr.out k h; have := HZV.out; have := HZ9.out; omega)
      have HK10 : Hid (Kept (fun k => k = Bf ∨ k = Bt ∨ k = Bp) W w10) := HK9.out.trans (Kept.of_below hb10 (by have := HZV.out; have := HZ9.out; rintro k (rfl | rfl | rfl) <;> omega))
      have HJ10 : Hid (J (pre ++ [⟨rb, rl, rd⟩]) own' w10) := HJs.out _ _ _ _ HJ9.out (Kept.of_below hb10 (fun k h => h.1))
      clear hb10 c90 c91 c92 HF9 HK9 HJ9
      gi_wp2
      gi_loopw [5, 21] (fun v5 v21 wq => ∃ (i : Nat) (hs bs : List Int), v5 = .int .i64 ((told pre + i : Nat) : Int) ∧ v21 = .int .i64 (i : Int) ∧ i ≤ sz ∧ Hid (FindAt D F H P a cap m T hs bs wq) ∧ Hid (ChainOk T m (told pre + i) hs bs) ∧ Hid (J (pre ++ [⟨rb, rl, rd⟩]) own' wq) ∧ Hid (Kept (fun k => k = Bf ∨ k = Bt ∨ k = Bp) W wq)) (fun _ v21 _ => sz - (intOf v21).toNat)
      case atStart => exact ⟨0, hs, bs, by simp, rfl, Nat.zero_le _, HF10, HC, HJ10, HK10⟩
      case round =>
        clear HF10 HK10 HJ10 HC
        obtain ⟨i, hs, bs, rfl, rfl, hile, HF, HC, HJ, HK⟩ := hrel
        have g3 := (HK.out.cell (p := ⟨Bp, 0, none⟩) (.inr (.inr rfl))).trans d3
        by_cases hlti : i < sz
        rotate_left
        · have t2 : ¬ ((i : Int) < (sz : Int)) := by omega
          obtain rfl : i = sz := by omega
          have HTD : Hid (told (pre ++ [⟨rb, rl, rd⟩]) = told pre + i) := by show _ = _; rw [told_snoc, HSZE.out]
          gi_wp2
          refine ⟨⟨pre ++ [⟨rb, rl, rd⟩], hs, bs, own', ?_, ?_, HF, ?_, HJ, HK⟩, ?_⟩
          · rw [HTD.out]
          · rw [HTD.out]; omega
          · rw [HTD.out]; exact HC
          · simp [intOf]; omega
        · have t2 : (i : Int) < (sz : Int) := by omega
          have HE : Hid (Calls Tryd.prog 34 #[.pointer (some ⟨F, 0, none⟩), .int .i64 ((told pre + i : Nat) : Int)] wr _) := enter_any D F H P a cap m T hs bs wr HF.out (told pre + i) (by omega) hm hl hT
          have HC2 : Hid _ := HC.out.enter hT hm.1 HF.out.lh HF.out.lb
          have hw1 : IntKind.i64.wrap ((i : Int) + 1) = (i : Int) + 1 := by simp [IntKind.wrap, IntKind.bits, IntKind.signed]; omega
          obtain ⟨pi, HPI⟩ : ∃ pi, Hid (told pre + i = pi) := ⟨_, rfl⟩
          rw [HPI.out] at HE HC2 ⊢
          have hw5 : IntKind.i64.wrap ((pi : Int) + 1) = (pi : Int) + 1 := by have := HPI.out; simp [IntKind.wrap, IntKind.bits, IntKind.signed]; omega
          gi_wp2_with fail
          refine ⟨trivial, (fun h => by cases h), (callsIn_wide.2 HE.out).mono ?_⟩
          clear HE
          rintro e w12 ⟨⟨v, rfl⟩, hF12, hk12, _⟩
          have HF12 : Hid _ := hF12
          have HJ12 : Hid (J (pre ++ [⟨rb, rl, rd⟩]) own' w12) := HJs.out _ _ _ _ HJ.out (hk12.mono (fun k h => ⟨fun e => h.2 (.inl e), fun e => h.2 (.inr e)⟩))
          have HK12 : Hid (Kept (fun k => k = Bf ∨ k = Bt ∨ k = Bp) W w12) := HK.out.trans (hk12.mono (by rintro k (rfl | rfl | rfl); exact hBz.1; exact hBz.2.1; exact hBz.2.2))
          have HP1 : Hid (told pre + (i + 1) = pi + 1) := by have := HPI.out; show _ = _; omega
          clear hF12 hk12 HF HJ HK HC
          gi_wp2
          refine ⟨⟨i + 1, _, _, ?_, by go_num, by omega, HF12, ?_, HJ12, HK12⟩, by simp [intOf]; omega⟩
          · rw [HP1.out]; go_num
          · rw [HP1.out]; exact HC2
end Go.Proofs.YtijfjbpmlcmnmaaDoor
