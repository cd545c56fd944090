import Derived.Test.YtiheajlgaehfmaaDoorNext
import Derived.Test.YtiheajlgaehfmaaDoorRef
/- The document's Next. -/
namespace Go.Proofs.YtiheajlgaehfmaaDoor
open Go.RowKit

theorem begins_succ (zs : List Int) (n code i : Nat) : begins zs n code (i + 1) = (begins zs n code i || beginsAt zs n code i) := by simp [begins, List.range_succ]
theorem Kept.drewN {S : Nat → Prop} {a w : World} (h : Kept S a w) (n : Nat) : Kept S a (w.drewN n) := ⟨h.os, h.tape, h.output, h.size, h.block⟩
theorem or_bit (c b : Nat) (hc : c < 2147483648) (hb : b < 2) : bits .or .u32 ((c : Int) * 2) (b : Int) = ((2 * c + b : Nat) : Int) := by
  have e : (c : Int) * 2 = ((c * 2 : Nat) : Int) := by omega
  rw [e, u32_or _ _ (by omega) (by omega) (by omega) (by omega), Int.toNat_natCast, Int.toNat_natCast]
  congr 1
  have h1 : c * 2 = 2 ^ 1 * c := by omega
  rw [h1, ← Nat.two_pow_add_eq_or_of_lt (by simpa using hb)]
theorem bool_of_beq {a b : Int} {p : Prop} [Decidable p] (h : a = b ↔ p) : (a == b) = decide p := by
  rw [Bool.eq_iff_iff]
  simpa using h

def RnAt (zs bs : List Int) (pos : Nat) (r : Nat × Int × Nat) (k code : Nat) : Prop := rn zs (bitFrom bs pos) (8 * bs.length - pos) (15 - k) k code = r ∧ code < 2 ^ k

set_option maxRecDepth 100000 in
set_option maxHeartbeats 4000000 in
theorem refNext_r (r : Nat × Int × Nat) (S : Nat → Prop) (GC Q : Nat) (a : Option Addr) (cap : Nat) (zs bs : List Int) (g : Option Addr) (c pos : Nat) (w : World) (HR : Hid (rn zs (bitFrom bs pos) (8 * bs.length - pos) 15 0 0 = r)) (h320 : zs.length ≤ 320) (hrg : inRange zs) (hb : AreBytes bs) (hl : bs.length ≤ 140737488351232)
    (hS : ∀ k, S k → k < w.heap.size ∧ k ≠ Q) (hI : IntsIn S w (.slice a zs.length cap) zs) (hR : Row w GC 51 (u32s (codesOf zs))) (h2 : Two w Q 48 (.slice g bs.length c) (.int .i64 pos)) (hIb : BytesIn (fun k => k < w.heap.size ∧ k ≠ Q) w (.slice g bs.length c) bs) (hp : pos ≤ 8 * bs.length) :
    Calls Tryd.prog 60 #[.slice a zs.length cap, .slice (some ⟨GC, 0, none⟩) zs.length zs.length, .pointer (some ⟨Q, 0, none⟩)] w fun e w' => e = .returned (.tuple #[.int .i64 r.1, .int .i64 r.2.1]) ∧
      Two w' Q 48 (.slice g bs.length c) (.int .i64 ((pos + r.2.2 : Nat) : Int)) ∧ Kept (fun k => k < w.heap.size ∧ k ≠ Q) w w' := by
  have c1 := h2.cell1
  have hGQ : GC ≠ Q := fun e => by
    have h9 : w.heap[GC]? = _ := hR
    rw [e, show w.heap[Q]? = _ from h2] at h9
    simp at h9
  have hcl : (codesOf zs).length = zs.length := by rw [codesOf, cstate_length]
  go_enter Tryd.func60, Tryd.ntmps60
  go_wp2_with fail
  go_loopw [8, 10] (fun v8 v10 wr => ∃ k code : Nat, k ≤ 15 ∧ v10 = .int .i64 ((k : Int) + 1) ∧ v8 = .int .u32 (code : Int) ∧ RnAt zs bs pos r k code ∧ pos + k ≤ 8 * bs.length ∧ Two wr Q 48 (.slice g bs.length c) (.int .i64 ((pos + k : Nat) : Int)) ∧ Kept (fun k => k < w.heap.size ∧ k ≠ Q) w wr) (fun _ v10 _ => 16 - (intOf v10).toNat)
  case atStart => exact ⟨0, 0, by omega, rfl, rfl, ⟨HR.out, by simp⟩, hp, h2, Kept.refl _ _⟩
  case round =>
    clear c1
    obtain ⟨k, code, hk, rfl, rfl, hrn, hpk, hT, hK⟩ := hrel
    have q1 := hT.cell1
    have f1 := hT.frozen 1
    by_cases hlt : k < 15
    · have hkz : (k : Int) + 1 ≤ 15 := by omega
      have hcode : code < 32768 := Nat.lt_of_lt_of_le hrn.2 (Nat.pow_le_pow_right (show 0 < 2 by omega) (show k ≤ 15 by omega))
      have hIr := hI.kept (hK.mono (fun x hx => hS x hx))
      have hRr := hR.kept hK ⟨hR.lt, hGQ⟩
      clear q1 f1
      go_wp2_with fail
      obtain ⟨wb, HWB⟩ : ∃ wb, wb = wr := ⟨_, rfl⟩
      rw [← HWB] at hT hK hIr hRr ⊢
      clear HWB wr
      go_loopw [11, 12] (fun v11 v12 wr => ∃ i q : Nat, i ≤ zs.length ∧ v12 = .int .i64 i ∧ v11 = .bool (begins zs (k + 1) code i) ∧ wr = wb.drewN q) (fun _ v12 _ => zs.length - (intOf v12).toNat)
      case atStart => exact ⟨0, 0, by omega, rfl, rfl, rfl⟩
      case round =>
        obtain ⟨i, q, hi, rfl, rfl, hwr⟩ := hrel
        by_cases hil : i < zs.length
        · have hIq : IntsIn S wr (.slice a zs.length cap) zs := hwr ▸ hIr
          have hRq : Row wr GC 51 (u32s (codesOf zs)) := hwr ▸ hRr
          obtain ⟨bz, oz, rfl, hbz, eZ⟩ := hIq.at i hil
          have cI := hRq.cell (u32s_at (codesOf zs) i (by omega))
          have gI : zs[i]?.getD 0 = lenAt zs i := rfl
          have bI := lenAt_rng hrg i
          obtain ⟨L, hL⟩ := Int.eq_ofNat_of_zero_le bI.1
          have gC : (codesOf zs)[i]'(by omega) = codeAt zs i := by simp [codeAt, show i < (codesOf zs).length by omega]
          have HBS : Hid (begins zs (k + 1) code (i + 1) = (begins zs (k + 1) code i || (decide (k + 1 ≤ L) && decide (codeAt zs i / 2 ^ (L - (k + 1) + 1) = code)))) := by
            show _ = _
            rw [begins_succ, beginsAt, hL]
            by_cases h9 : k + 1 ≤ L
            · rw [show (((L : Nat) : Int) - ((k + 1 : Nat) : Int) + 1).toNat = L - (k + 1) + 1 by omega, decide_eq_true (show ((k + 1 : Nat) : Int) ≤ (L : Int) by omega), decide_eq_true h9]
            · rw [decide_eq_false (show ¬ ((k + 1 : Nat) : Int) ≤ (L : Int) by omega), decide_eq_false h9]
              simp
          rw [gI, hL] at eZ
          rw [gC] at cI
          have hL15 : L ≤ 15 := by omega
          have HWR : Hid _ := hwr
          clear gI gC hIq hRq hT hK hIr hRr hI hR h2 hIb hrn hrg hwr hL bI
          generalize codeAt zs i = ci at cI HBS
          cases hbb : begins zs (k + 1) code i with
          | true =>
            rw [hbb] at HBS
            go_wp2
            go_quiet (fail)
            go_wp2
            exact ⟨⟨i + 1, q + nq, by omega, by simp, by rw [HBS.out]; simp, by rw [HWR.out, World.drewN_drewN]⟩, by simp [intOf]; omega⟩
          | false =>
            rw [hbb] at HBS
            by_cases h9 : k + 1 ≤ L
            · have t3 : (k : Int) + 1 ≤ (L : Int) := by omega
              have hsub : (L : Int) - ((k : Int) + 1) = ((L - (k + 1) : Nat) : Int) := by omega
              by_cases h10 : ci / 2 ^ (L - (k + 1) + 1) = code
              · have ht : (((ci : Int) / 2 ^ (L - (k + 1) + 1)) == (code : Int)) = true := by
                  rw [beq_iff_eq]
                  exact_mod_cast h10
                go_wp2
                go_quiet (fail)
                go_wp2
                exact ⟨⟨i + 1, q + nq, by omega, by simp, by rw [HBS.out]; simp [h9, h10], by rw [HWR.out, World.drewN_drewN]⟩, by simp [intOf]; omega⟩
              · have ht : (((ci : Int) / 2 ^ (L - (k + 1) + 1)) == (code : Int)) = false := by
                  rw [beq_eq_false_iff_ne]
                  intro h
                  apply h10
                  exact_mod_cast h
                go_wp2
                go_quiet (fail)
                go_wp2
                exact ⟨⟨i + 1, q + nq, by omega, by simp, by rw [HBS.out]; simp [h9, h10], by rw [HWR.out, World.drewN_drewN]⟩, by simp [intOf]; omega⟩
            · have t3 : ¬ (k : Int) + 1 ≤ (L : Int) := by omega
              have t4 : decide ((k : Int) + 1 ≤ (L : Int)) = false := decide_eq_false t3
              go_wp2
              go_quiet (fail)
              go_wp2
              exact ⟨⟨i + 1, q + nq, by omega, by simp, by rw [HBS.out]; simp [h9], by rw [HWR.out, World.drewN_drewN]⟩, by simp [intOf]; omega⟩
        · obtain rfl : i = zs.length := by omega
          have hTq : Two wr Q 48 (.slice g bs.length c) (.int .i64 ((pos + k : Nat) : Int)) := hwr ▸ hT.drewN q
          have hKq : Kept (fun k => k < w.heap.size ∧ k ≠ Q) w wr := hwr ▸ hK.trans ⟨rfl, rfl, rfl, Nat.le_refl _, fun _ _ => rfl⟩
          have hIq : IntsIn S wr (.slice a zs.length cap) zs := hwr ▸ hIr
          have hRq : Row wr GC 51 (u32s (codesOf zs)) := hwr ▸ hRr
          clear hT hK hIr hRr hwr
          have q1 := hTq.cell1
          have f1 := hTq.frozen 1
          have HX := hrn.1
          rw [show 15 - k = (14 - k) + 1 by omega, rn] at HX
          have hcd := hrn.2
          cases hbb : begins zs (k + 1) code zs.length with
          | false =>
            rw [hbb] at HX
            have ER : Hid (r = (0, 11, 0)) := HX.symm
            have HF : Hid (Two (wr.setCell ⟨Q, 1, none⟩ (.int .i64 pos)) Q 48 (.slice g bs.length c) (.int .i64 ((pos + r.2.2 : Nat) : Int)) ∧ Kept (fun k => k < w.heap.size ∧ k ≠ Q) w (wr.setCell ⟨Q, 1, none⟩ (.int .i64 pos))) := by
              rw [ER.out]
              exact ⟨hTq.set1 _, hKq.setCell (p := ⟨Q, 1, none⟩) (by simp) _⟩
            clear HX hrn hTq hKq hIq hRq hI hR h2 hIb HR hrg
            go_wp2
            exact bodyPost_ret (v := .tuple #[.int .i64 r.1, .int .i64 r.2.1]) (by rw [ER.out]; simp [results, Tryd.f60, go_sem]) rfl ⟨rfl, HF.out.1, HF.out.2⟩
          | true =>
            rw [hbb] at HX
            simp only [if_true] at HX
            by_cases ha : k < 8 * bs.length - pos
            · rw [if_pos ha] at HX
              have htk := refTake_any (fun x => x < w.heap.size ∧ x ≠ Q) Q g c (pos + k) 1 bs hb hl wr (by simp) hTq (hIb.kept hKq) (by omega) (by omega)
              rw [take_one bs hb (pos + k), show ((1 : Nat) : Int) = 1 from rfl] at htk
              have hbd := bitFrom_lt bs pos k
              have hbe : bitFrom bs pos k = (tb bs (pos + k)).toNat := rfl
              rw [← hbe] at htk
              clear hbe
              have HT : Hid _ := htk
              have HKT : Hid (∀ w4, Kept (fun x => x < w.heap.size ∧ x ≠ Q) wr w4 → Kept (fun x => x < w.heap.size ∧ x ≠ Q) w w4 ∧ IntsIn S w4 (.slice a zs.length cap) zs ∧ Row w4 GC 51 (u32s (codesOf zs))) := fun w4 h4 =>
                ⟨hKq.trans h4, hIq.kept (h4.mono (fun x hx => hS x hx)), hRq.kept h4 ⟨hR.lt, hGQ⟩⟩
              have hor := or_bit code (bitFrom bs pos k) (by omega) hbd
              generalize bitFrom bs pos k = b at HX hbd HT hor
              obtain ⟨c2, hc2⟩ : ∃ c2, 2 * code + b = c2 := ⟨_, rfl⟩
              rw [hc2] at HX hor
              have hc2k : c2 < 2 ^ (k + 1) := by rw [Nat.pow_succ]; omega
              have hc2l : c2 < 65536 := by omega
              clear hrn hTq hKq hIq hRq hI hR h2 hIb HR htk hc2
              go_wp2_with fail
              refine Calls.mono HT.out ?_
              rintro e w4 ⟨rfl, hT4, hK4⟩
              obtain ⟨hK5, hI5, hR5⟩ := HKT.out w4 hK4
              clear HT HKT hK4 q1 f1
              go_wp2_with fail
              go_loop [15] (fun v15 => ∃ i : Nat, i ≤ zs.length ∧ v15 = .int .i64 i ∧ ∀ j, j < i → isSym zs (k + 1) c2 j = false) (fun v15 => zs.length - (intOf v15).toNat)
              case atStart => exact ⟨0, by omega, rfl, fun j hj => by omega⟩
              case round =>
                obtain ⟨i, hi, rfl, hno⟩ := hrel
                by_cases hil : i < zs.length
                · obtain ⟨bz, oz, rfl, hbz, eZ⟩ := hI5.at i hil
                  have cI := hR5.cell (u32s_at (codesOf zs) i (by omega))
                  have gI : zs[i]?.getD 0 = lenAt zs i := rfl
                  have bI := lenAt_rng hrg i
                  obtain ⟨L, hL⟩ := Int.eq_ofNat_of_zero_le bI.1
                  have gC : (codesOf zs)[i]'(by omega) = codeAt zs i := by simp [codeAt, show i < (codesOf zs).length by omega]
                  have HS : Hid (isSym zs (k + 1) c2 i = (decide (L = k + 1) && decide (codeAt zs i = c2))) := by
                    show _ = _
                    rw [isSym, hL]
                    congr 1
                    rw [decide_eq_decide]
                    omega
                  rw [gI, hL] at eZ
                  rw [gC] at cI
                  have hL15 : L ≤ 15 := by omega
                  have HNO : Hid _ := hno
                  have HNI : Hid (isSym zs (k + 1) c2 i = false → ∀ j, j < i + 1 → isSym zs (k + 1) c2 j = false) := fun h9 j hj => by
                    by_cases e : j = i
                    · rw [e]; exact h9
                    · exact hno j (by omega)
                  have HFI : Hid (isSym zs (k + 1) c2 i = true → r = (i, 0, k + 1)) := fun h9 => by
                    have hf : (List.range zs.length).find? (isSym zs (k + 1) c2) = some i := List.find?_range_eq_some.2 ⟨h9, by simpa using hil, fun j hj => by simp [hno j hj]⟩
                    rw [hf] at HX
                    exact HX.symm
                  clear gI gC hL bI hno HX hI5 hR5
                  generalize codeAt zs i = ci at cI HS
                  by_cases h9 : L = k + 1
                  · have t5 : ((L : Int) == ((k : Int) + 1)) = true := by simp; omega
                    by_cases h10 : ci = c2
                    · have t6 : ((ci : Int) == (c2 : Int)) = true := by simp; omega
                      have ER : Hid (r = (i, 0, k + 1)) := HFI.out (by rw [HS.out]; simp [h9, h10])
                      have HF : Hid (Two w4 Q 48 (.slice g bs.length c) (.int .i64 ((pos + r.2.2 : Nat) : Int))) := by
                        rw [ER.out]
                        exact hT4
                      have HK5 : Hid _ := hK5
                      clear HFI HNI HNO HS hT4 hK5 h10 h9
                      go_wp2
                      exact bodyPost_ret (v := .tuple #[.int .i64 r.1, .int .i64 r.2.1]) (by rw [ER.out]; simp [results, Tryd.f60, go_sem]) rfl ⟨rfl, HF.out, HK5.out⟩
                    · have t6 : ((ci : Int) == (c2 : Int)) = false := by simp; omega
                      have HN2 : Hid _ := HNI.out (by rw [HS.out]; simp [h10])
                      clear HFI HNI HNO HS hT4 hK5 h10 h9
                      go_wp2
                      exact ⟨⟨i + 1, by omega, by simp, HN2.out⟩, by simp [intOf]; omega⟩
                  · have t5 : ((L : Int) == ((k : Int) + 1)) = false := by simp; omega
                    have HN2 : Hid _ := HNI.out (by rw [HS.out]; simp [h9])
                    clear HFI HNI HNO HS hT4 hK5 h9
                    go_wp2
                    exact ⟨⟨i + 1, by omega, by simp, HN2.out⟩, by simp [intOf]; omega⟩
                · obtain rfl : i = zs.length := by omega
                  have hf : (List.range zs.length).find? (isSym zs (k + 1) c2) = none := List.find?_range_eq_none.2 (fun j hj => by simp [hno j hj])
                  rw [hf] at HX
                  have HRN : Hid (RnAt zs bs pos r (k + 1) c2) := by
                    refine ⟨?_, hc2k⟩
                    rw [show 15 - (k + 1) = 14 - k by omega]
                    exact HX
                  have HT5 : Hid _ := hT4
                  have HK5 : Hid _ := hK5
                  clear HX hno hI5 hR5 hT4 hK5 hf hrg
                  go_wp2
                  exact ⟨⟨k + 1, c2, by omega, by simp, rfl, HRN.out, by omega, HT5.out, HK5.out⟩, by simp [intOf]; omega⟩
            · rw [if_neg ha] at HX
              have ER : Hid (r = (0, 10, 0)) := HX.symm
              have hte := refTake_end Q g bs.length c (pos + k) 1 wr (by omega) (by omega) hTq (by omega) (by omega) (by omega)
              have HT : Hid _ := hte
              have HF : Hid (∀ q, (wr.drewN q).cell? ⟨Q, 1, none⟩ = some (.int .i64 ((pos + k : Nat) : Int)) ∧ (wr.drewN q).frozen? ⟨Q, 1, none⟩ = false ∧ Two ((wr.drewN q).setCell ⟨Q, 1, none⟩ (.int .i64 pos)) Q 48 (.slice g bs.length c) (.int .i64 ((pos + r.2.2 : Nat) : Int)) ∧ Kept (fun k => k < w.heap.size ∧ k ≠ Q) w ((wr.drewN q).setCell ⟨Q, 1, none⟩ (.int .i64 pos))) := by
                intro q
                rw [ER.out]
                exact ⟨(hTq.drewN q).cell1, (hTq.drewN q).frozen 1, (hTq.drewN q).set1 _, (hKq.drewN q).setCell (p := ⟨Q, 1, none⟩) (by simp) _⟩
              clear HX hrn hTq hKq hIq hRq hI hR h2 hIb HR hrg hte q1 f1
              go_wp2_with fail
              refine Calls.mono HT.out ?_
              rintro e w4 ⟨rfl, q4, hw4⟩
              have hf4 := HF.out q4
              rw [← hw4] at hf4
              obtain ⟨q1, f1, hf5, hf6⟩ := hf4
              have HF5 : Hid _ := hf5
              have HF6 : Hid _ := hf6
              clear HT HF hw4 hf5 hf6
              go_wp2
              exact bodyPost_ret (v := .tuple #[.int .i64 r.1, .int .i64 r.2.1]) (by rw [ER.out]; simp [results, Tryd.f60, go_sem]) rfl ⟨rfl, HF5.out, HF6.out⟩
    · obtain rfl : k = 15 := by omega
      have HX := hrn.1
      rw [rn] at HX
      have ER : Hid (r = (0, 11, 0)) := HX.symm
      have HF : Hid (Two (wr.setCell ⟨Q, 1, none⟩ (.int .i64 pos)) Q 48 (.slice g bs.length c) (.int .i64 ((pos + r.2.2 : Nat) : Int)) ∧ Kept (fun k => k < w.heap.size ∧ k ≠ Q) w (wr.setCell ⟨Q, 1, none⟩ (.int .i64 pos))) := by
        rw [ER.out]
        exact ⟨hT.set1 _, hK.setCell (p := ⟨Q, 1, none⟩) (by simp) _⟩
      clear HX hrn hT hK hI hR h2 hIb HR hrg
      go_wp2
      exact bodyPost_ret (v := .tuple #[.int .i64 r.1, .int .i64 r.2.1]) (by rw [ER.out]; simp [results, Tryd.f60, go_sem]) rfl ⟨rfl, HF.out.1, HF.out.2⟩

/-- The document's Next: as the program's. -/
theorem refNext_any (S : Nat → Prop) (GC Q : Nat) (a : Option Addr) (cap : Nat) (zs bs : List Int) (g : Option Addr) (c pos : Nat) (w : World) (h : errOf zs = 0) (hb : AreBytes bs) (hl : bs.length ≤ 140737488351232)
    (hS : ∀ k, S k → k < w.heap.size ∧ k ≠ Q) (hI : IntsIn S w (.slice a zs.length cap) zs) (hR : Row w GC 51 (u32s (codesOf zs))) (h2 : Two w Q 48 (.slice g bs.length c) (.int .i64 pos)) (hIb : BytesIn (fun k => k < w.heap.size ∧ k ≠ Q) w (.slice g bs.length c) bs) (hp : pos ≤ 8 * bs.length) :
    Calls Tryd.prog 60 #[.slice a zs.length cap, .slice (some ⟨GC, 0, none⟩) zs.length zs.length, .pointer (some ⟨Q, 0, none⟩)] w fun e w' => e = .returned (.tuple #[.int .i64 (nextOf zs bs pos).1, .int .i64 (nextOf zs bs pos).2.1]) ∧
      Two w' Q 48 (.slice g bs.length c) (.int .i64 ((pos + (nextOf zs bs pos).2.2 : Nat) : Int)) ∧ Kept (fun k => k < w.heap.size ∧ k ≠ Q) w w' :=
  refNext_r _ S GC Q a cap zs bs g c pos w ((Good.of_err h).same _ (bitFrom_lt bs pos) _).symm (Good.of_err h).len (Good.of_err h).rng hb hl hS hI hR h2 hIb hp
/-- What Next takes is there. -/
theorem nextOf_taken {zs : List Int} (h : errOf zs = 0) (bs : List Int) (pos : Nat) (hp : pos ≤ 8 * bs.length) : pos + (nextOf zs bs pos).2.2 ≤ 8 * bs.length := by
  have e : nextOf zs bs pos = rn zs (bitFrom bs pos) (8 * bs.length - pos) 15 0 0 := (Good.of_err h).same _ (bitFrom_lt bs pos) _
  have := rn_taken zs (bitFrom bs pos) (8 * bs.length - pos) 15 0 0
  rw [← e] at this
  by_cases h0 : (nextOf zs bs pos).2.1 = 0
  · have := (this.1 h0).1
    omega
  · have := (this.2 h0).2
    omega
end Go.Proofs.YtiheajlgaehfmaaDoor
