import Derived.Test.YtiheajlgaehfmaaDoorNew
import Derived.Test.YtiheajlgaehfmaaDoorTake
import Derived.Test.YtiheajlgaehfmaaDoorRdM
import Derived.Test.YtiheajlgaehfmaaDoorRdM
import Derived.WalkMore
/- Next: one code is read, its symbol answered. -/
namespace Go.Proofs.YtiheajlgaehfmaaDoor
open Go.RowKit

theorem take_one (bs : List Int) (hb : AreBytes bs) (p : Nat) : orFold (upto (bitF bs p) 1) = (tb bs p).toNat := by
  apply Nat.eq_of_testBit_eq
  intro j
  rw [orFold_bit bs hb p 1 (by omega) j]
  by_cases hj : j < 1
  · obtain rfl : j = 0 := by omega
    simp only [Nat.add_zero]
    cases tb bs p <;> rfl
  · have h2 : (tb bs p).toNat < 2 ^ j := by
      have h3 : 2 ^ 1 ≤ 2 ^ j := Nat.pow_le_pow_right (by omega) (by omega)
      cases tb bs p <;> simp <;> omega
    rw [Nat.testBit_lt_two_pow h2, decide_eq_false hj]
    rfl
/-- The bits that a reader has ahead of it. -/
def bitFrom (bs : List Int) (pos k : Nat) : Nat := (tb bs (pos + k)).toNat
theorem bitFrom_lt (bs : List Int) (pos k : Nat) : bitFrom bs pos k < 2 := by
  unfold bitFrom
  cases tb bs (pos + k) <;> simp
/-- What Next answers. -/
def nextOf (zs bs : List Int) (pos : Nat) : Nat × Int × Nat := nx zs (bitFrom bs pos) (8 * bs.length - pos) 15 0 0

set_option maxHeartbeats 400000 in
theorem next_nil_d (v : Value) (w : World) : Calls Tryd.prog 69 #[.pointer none, v] w fun e w' => e = .returned (.tuple #[.int .i64 0, .int .i64 2]) ∧ w' = w := by
  go_enter Tryd.func69, Tryd.ntmps69
  go_wp2
  go_step3
  go_wp2
  rw [Exit.noGoto_ret]
  go_ret2
  exact ⟨rfl, rfl⟩
set_option maxHeartbeats 400000 in
theorem next_nil_r (p : Addr) (w : World) : Calls Tryd.prog 69 #[.pointer (some p), .pointer none] w fun e w' => e = .returned (.tuple #[.int .i64 0, .int .i64 2]) ∧ w' = w := by
  go_enter Tryd.func69, Tryd.ntmps69
  go_wp2
  go_step3
  go_wp2
  rw [Exit.noGoto_ret]
  go_ret2
  exact ⟨rfl, rfl⟩

/-- The loop's relation. -/
def NextAt (zs bs : List Int) (pos : Nat) (r : Nat × Int × Nat) (k pl : Nat) : Prop := nx zs (bitFrom bs pos) (8 * bs.length - pos) (15 - k) k pl = r ∧ pl + 2 ≤ 2 ^ (k + 1)

theorem Row.dec {W : World} {D : Nat} {zs : List Int} {v : Value} (h : Row W D 112 (decA zs v)) : W.cell? ⟨D, 0, none⟩ = some (.int .i64 (cnt zs 1)) ∧ W.cell? ⟨D, 1, none⟩ = some (.int .i64 (cnt zs 2)) ∧ W.cell? ⟨D, 2, none⟩ = some (.int .i64 (cnt zs 3)) ∧ W.cell? ⟨D, 3, none⟩ = some (.int .i64 (cnt zs 4)) ∧ W.cell? ⟨D, 4, none⟩ = some (.int .i64 (cnt zs 5)) ∧ W.cell? ⟨D, 5, none⟩ = some (.int .i64 (cnt zs 6)) ∧ W.cell? ⟨D, 6, none⟩ = some (.int .i64 (cnt zs 7)) ∧ W.cell? ⟨D, 7, none⟩ = some (.int .i64 (cnt zs 8)) ∧ W.cell? ⟨D, 8, none⟩ = some (.int .i64 (cnt zs 9)) ∧ W.cell? ⟨D, 9, none⟩ = some (.int .i64 (cnt zs 10)) ∧ W.cell? ⟨D, 10, none⟩ = some (.int .i64 (cnt zs 11)) ∧ W.cell? ⟨D, 11, none⟩ = some (.int .i64 (cnt zs 12)) ∧ W.cell? ⟨D, 12, none⟩ = some (.int .i64 (cnt zs 13)) ∧ W.cell? ⟨D, 13, none⟩ = some (.int .i64 (cnt zs 14)) ∧ W.cell? ⟨D, 14, none⟩ = some (.int .i64 (cnt zs 15)) :=
  ⟨h.cell (decA_at zs v 0 (by omega)), h.cell (decA_at zs v 1 (by omega)), h.cell (decA_at zs v 2 (by omega)), h.cell (decA_at zs v 3 (by omega)), h.cell (decA_at zs v 4 (by omega)), h.cell (decA_at zs v 5 (by omega)), h.cell (decA_at zs v 6 (by omega)), h.cell (decA_at zs v 7 (by omega)), h.cell (decA_at zs v 8 (by omega)), h.cell (decA_at zs v 9 (by omega)), h.cell (decA_at zs v 10 (by omega)), h.cell (decA_at zs v 11 (by omega)), h.cell (decA_at zs v 12 (by omega)), h.cell (decA_at zs v 13 (by omega)), h.cell (decA_at zs v 14 (by omega))⟩

set_option maxRecDepth 100000 in
set_option maxHeartbeats 4000000 in
theorem next_r (r : Nat × Int × Nat) (base D R : Nat) (zs bs : List Int) (g : Option Addr) (c pos : Nat) (w : World) (HR : Hid (nextOf zs bs pos = r)) (hne : r.2.1 ≠ 99) (h320 : zs.length ≤ 320) (hb : AreBytes bs) (hl : bs.length ≤ 140737488351232)
    (hD : DecAt base zs 15 D w) (h2 : Two w R 63 (.slice g bs.length c) (.int .i64 pos)) (hI : BytesIn (fun k => k < w.heap.size ∧ k ≠ R) w (.slice g bs.length c) bs) (hp : pos ≤ 8 * bs.length) :
    Calls Tryd.prog 69 #[.pointer (some ⟨D, 0, none⟩), .pointer (some ⟨R, 0, none⟩)] w fun e w' => e = .returned (.tuple #[.int .i64 r.1, .int .i64 r.2.1]) ∧
      Two w' R 63 (.slice g bs.length c) (.int .i64 ((pos + r.2.2 : Nat) : Int)) ∧ Kept (fun k => k < w.heap.size ∧ k ≠ R) w w' := by
  obtain ⟨v, hDr, hv⟩ := hD
  obtain ⟨gv, cv, rfl⟩ := owns_form hv
  rw [symI_length] at hv hDr
  have c0 := h2.cell0
  have c1 := h2.cell1
  obtain ⟨t1, t2, t3, t4, t5, t6, t7, t8, t9, t10, t11, t12, t13, t14, t15⟩ := (hDr.alloc (.cells #[.slice g bs.length c, .int .i64 pos] 63)).dec
  have hfold := tab_fold zs
  have hDR : D ≠ R := fun e => by
    have h9 : w.heap[D]? = _ := hDr
    rw [e, show w.heap[R]? = _ from h2] at h9
    simp at h9
  have hN : nsum zs 15 ≤ 4800 := nsum_bd zs h320 15
  go_enter Tryd.func69, Tryd.ntmps69
  go_wp2_with fail
  go_step3
  go_wp2_with fail
  go_step3
  go_wp2_with fail
  have hA := Two.new w 63 (.slice g bs.length c) (.int .i64 pos)
  have hK1 : Kept (· < w.heap.size) w (w.alloc (.cells #[.slice g bs.length c, .int .i64 pos] 63)) := (Kept.refl _ w).alloc (fun _ h => h) _
  generalize w.alloc (.cells #[.slice g bs.length c, .int .i64 pos] 63) = w1 at hA hK1 ⊢
  clear t1 t2 t3 t4 t5 t6 t7 t8 t9 t10 t11 t12 t13 t14 t15 hfold c0 c1
  go_loopw [7, 8, 26] (fun u7 u8 i wr => ∃ k pl : Nat, k ≤ 15 ∧ i = .int .i64 k ∧ u7 = .int .i64 (nsum zs k) ∧ u8 = .int .i64 pl ∧ NextAt zs bs pos r k pl ∧ pos + k ≤ 8 * bs.length ∧ Two wr w.heap.size 63 (.slice g bs.length c) (.int .i64 ((pos + k : Nat) : Int)) ∧ Kept (· < w.heap.size) w wr) (fun _ _ i _ => 15 - (intOf i).toNat)
  case atStart => exact ⟨0, 0, by omega, rfl, rfl, rfl, ⟨HR.out, by omega⟩, hp, hA, hK1⟩
  case round =>
    clear hA hK1 w1
    obtain ⟨k, pl, hk, rfl, rfl, rfl, hnx, hpk, hA, hK⟩ := hrel
    by_cases hlt : k < 15
    · have hx := hnx.1
      have hpl := hnx.2
      rw [show 15 - k = (14 - k) + 1 by omega, nx] at hx
      have hpl2 : pl ≤ 65534 := by
        have := Nat.pow_le_pow_right (show 0 < 2 by omega) (show k + 1 ≤ 16 by omega)
        omega
      have hix := index53 zs k hlt
      have hq := cnt_le zs (k + 1)
      have hD2 := hDr.kept hK hDr.lt
      have cD := hD2.cell (decA_last _ _)
      have h2k := h2.kept hK h2.lt
      by_cases hs : nsum zs k = nsum zs 15
      · rw [if_pos hs] at hx
        have hse : (((nsum zs k : Nat) : Int) == ((nsum zs 15 : Nat) : Int)) = true := by rw [hs]; simp
        have ER : Hid (r = (0, 11, 0)) := hx.symm
        have HF : Hid (Two wr R 63 (.slice g bs.length c) (.int .i64 ((pos + r.2.2 : Nat) : Int)) ∧ Kept (fun k => k < w.heap.size ∧ k ≠ R) w wr) := by
          rw [ER.out]
          exact ⟨h2k, hK.mono (fun x hx => hx.1)⟩
        clear hx hnx hA hK hD2 h2k hI hv hs HR hne
        go_wp2
        rw [Exit.noGoto_ret]
        exact bodyPost_ret (v := .tuple #[.int .i64 r.1, .int .i64 r.2.1]) (by rw [ER.out]; simp [results, Tryd.f69, go_sem]) rfl ⟨rfl, HF.out.1, HF.out.2⟩
      · rw [if_neg hs] at hx
        have hse : (((nsum zs k : Nat) : Int) == ((nsum zs 15 : Nat) : Int)) = false := by simp; omega
        by_cases ha : k < 8 * bs.length - pos
        · rw [if_pos ha] at hx
          have htk := callsIn_wide.1 (take_in (· < w.heap.size) w.heap.size g c (pos + k) 1 bs hb hl wr (fun x hx => Nat.lt_of_lt_of_le hx hK.size) (by simp) hA ((hI.mono (fun x hx => hx.1)).kept hK) (by omega) (by omega))
          rw [take_one bs hb (pos + k), show ((1 : Nat) : Int) = 1 from rfl] at htk
          have hbd := bitFrom_lt bs pos k
          have hbe : bitFrom bs pos k = (tb bs (pos + k)).toNat := rfl
          rw [← hbe] at htk
          clear hbe
          have hsk : nsum zs (k + 1) = nsum zs k + cnt zs (k + 1) := rfl
          have hsm := nsum_mono zs (show k + 1 ≤ 15 by omega)
          obtain ⟨Pz, HPz⟩ : ∃ z : Int, ((pos + k + 1 : Nat) : Int) = z := ⟨_, rfl⟩
          rw [HPz] at htk
          have HP : Hid (((pos + k + 1 : Nat) : Int) = Pz) := HPz
          clear HPz
          by_cases hp1 : pl + bitFrom bs pos k < cnt zs (k + 1)
          · rw [if_pos hp1] at hx
            obtain ⟨gb, rfl⟩ : ∃ gb, gv = some ⟨gb, 0, none⟩ := by
              rcases hv.2 with ⟨_, h0⟩ | ⟨gb, _, _, e, _⟩
              · omega
              · simp only [Value.slice.injEq] at e
                exact ⟨gb, e.1⟩
            have hlen : nsum zs k + (pl + bitFrom bs pos k) < (symsTo zs 15).length := by rw [symsTo_length]; omega
            have hce := hv.cells (g := gb) rfl (nsum zs k + (pl + bitFrom bs pos k)) (.int .i64 (((symsTo zs 15)[nsum zs k + (pl + bitFrom bs pos k)]?.getD 0 : Nat) : Int)) (by simp [symI, hlen])
            have hadd : (⟨gb, 0, none⟩ : Addr).add (nsum zs k + (pl + bitFrom bs pos k)) = ⟨gb, nsum zs k + (pl + bitFrom bs pos k), none⟩ := by unfold Addr.add; split <;> simp_all
            rw [hadd] at hce
            have hgR : gb ≠ R := fun e => by
              rcases hv.2 with ⟨h9, _⟩ | ⟨gb', _, _, e', _, hgg, _⟩
              · simp at h9
              · simp only [Value.slice.injEq, Option.some.injEq, Addr.mk.injEq, and_true] at e'
                rw [← e'.1, e, show w.heap[R]? = _ from h2] at hgg
                simp at hgg
            have hglt : gb < w.heap.size := (hv.lt gb rfl).2
            generalize (symsTo zs 15)[nsum zs k + (pl + bitFrom bs pos k)]?.getD 0 = sym at hx hce
            have ER : Hid (r = (sym, 0, k + 1)) := hx.symm
            have HW : Hid (∀ w4, Two w4 w.heap.size 63 (.slice g bs.length c) (.int .i64 Pz) → Kept (· < w.heap.size) wr w4 →
                w4.cell? ⟨R, 0, none⟩ = some (.slice g bs.length c) ∧ w4.cell? ⟨R, 1, none⟩ = some (.int .i64 pos) ∧ w4.frozen? ⟨R, 0, none⟩ = false ∧ w4.frozen? ⟨R, 1, none⟩ = false ∧
                w4.cell? ⟨D, 15, none⟩ = some (.slice (some ⟨gb, 0, none⟩) (nsum zs 15) cv) ∧ w4.cell? ⟨gb, nsum zs k + (pl + bitFrom bs pos k), none⟩ = some (.int .i64 (sym : Int)) ∧
                Two ((w4.setCell ⟨R, 0, none⟩ (.slice g bs.length c)).setCell ⟨R, 1, none⟩ (.int .i64 Pz)) R 63 (.slice g bs.length c) (.int .i64 ((pos + r.2.2 : Nat) : Int)) ∧ Kept (fun k => k < w.heap.size ∧ k ≠ R) w ((w4.setCell ⟨R, 0, none⟩ (.slice g bs.length c)).setCell ⟨R, 1, none⟩ (.int .i64 Pz))) := by
              intro w4 hA4 hK4
              have h24 := h2k.kept hK4 h2.lt
              refine ⟨h24.cell0, h24.cell1, h24.frozen 0, h24.frozen 1, (hD2.kept hK4 hDr.lt).cell (decA_last _ _), ?_, ?_, ?_⟩
              · exact (hK4.cell (p := ⟨gb, _, none⟩) hglt).trans ((hK.cell (p := ⟨gb, _, none⟩) hglt).trans hce)
              · rw [ER.out, show pos + (k + 1) = pos + k + 1 by omega, HP.out]
                exact (h24.set0 _).set1 _
              · exact (((hK.trans hK4).mono (fun x hx => hx.1)).setCell (p := ⟨R, 0, none⟩) (by simp) _).setCell (p := ⟨R, 1, none⟩) (by simp) _
            have HT : Hid _ := htk
            have HA1 : Hid (w.heap.size ≠ R) := fun e => by have := h2.lt; omega
            clear hx hnx hA hK hD2 h2k hI hv hs HR hne htk hce hadd hlen h2 hDr hb
            generalize bitFrom bs pos k = b at hp1 hbd HT HW
            have hp2 : ((pl : Int) + b < (cnt zs (k + 1) : Int)) := by omega
            go_wp2_with fail
            refine Calls.mono HT.out ?_
            rintro e w4 ⟨rfl, hA4, hK4⟩
            obtain ⟨r0, r1, f0, f1, d15, sy, HF1, HF2⟩ := HW.out w4 hA4 hK4
            have HFa : Hid _ := HF1
            have HFb : Hid _ := HF2
            have a0 := hA4.cell0
            have a1 := hA4.cell1
            clear HT HW hA4 hK4 HF1 HF2
            go_wp2
            rw [Exit.noGoto_ret]
            exact bodyPost_ret (v := .tuple #[.int .i64 r.1, .int .i64 r.2.1]) (by rw [ER.out]; simp [results, Tryd.f69, go_sem]) rfl ⟨rfl, HFa.out, HFb.out⟩
          · rw [if_neg hp1] at hx
            have HNX : Hid (NextAt zs bs pos r (k + 1) (2 * (pl + bitFrom bs pos k - cnt zs (k + 1)))) := by
              refine ⟨?_, ?_⟩
              · rw [show 15 - (k + 1) = 14 - k by omega]
                exact hx
              · rw [Nat.pow_succ]
                omega
            have HT : Hid _ := htk
            have HK4 : Hid (∀ w4, Kept (· < w.heap.size) wr w4 → Kept (· < w.heap.size) w w4) := fun w4 h => hK.trans h
            have HSK : Hid (nsum zs (k + 1) = nsum zs k + cnt zs (k + 1)) := hsk
            clear hx hnx hA hK hD2 h2k hI hv hs HR hne htk h2 hDr hb
            generalize bitFrom bs pos k = b at hp1 hbd HT HNX
            have hp2 : ¬ ((pl : Int) + b < (cnt zs (k + 1) : Int)) := by omega
            go_wp2_with fail
            refine Calls.mono HT.out ?_
            rintro e w4 ⟨rfl, hA4, hK4⟩
            have HA4 : Hid _ := hA4
            have HK5 : Hid _ := HK4.out w4 hK4
            clear HT HK4 hA4 hK4
            go_wp2
            go_roundw
            case rel => exact ⟨k + 1, 2 * (pl + b - cnt zs (k + 1)), by omega, by go_num, by rw [HSK.out]; go_num, by congr 1; omega, HNX.out, by omega, by rw [show pos + (k + 1) = pos + k + 1 by omega, HP.out]; exact HA4.out, HK5.out⟩
            case measure => simp [intOf]; omega
        · rw [if_neg ha] at hx
          have ER : Hid (r = (0, 10, 0)) := hx.symm
          have hte := take_end w.heap.size g bs.length c (pos + k) 1 wr (by omega) (by omega) hA (by omega) (by omega) (by omega)
          have HT : Hid _ := hte
          have HF : Hid (∀ q, Two (wr.drewN q) R 63 (.slice g bs.length c) (.int .i64 ((pos + r.2.2 : Nat) : Int)) ∧ Kept (fun k => k < w.heap.size ∧ k ≠ R) w (wr.drewN q)) := by
            intro q
            rw [ER.out]
            exact ⟨h2k.drewN q, (hK.mono (fun x hx => hx.1)).trans ⟨rfl, rfl, rfl, Nat.le_refl _, fun _ _ => rfl⟩⟩
          clear hx hnx hA hK hD2 h2k hI hv hs HR hne hte
          go_wp2_with fail
          refine Calls.mono HT.out ?_
          rintro e w4 ⟨rfl, q, rfl⟩
          go_wp2
          rw [Exit.noGoto_ret]
          exact bodyPost_ret (v := .tuple #[.int .i64 r.1, .int .i64 r.2.1]) (by rw [ER.out]; simp [results, Tryd.f69, go_sem]) rfl ⟨rfl, (HF.out q).1, (HF.out q).2⟩
    · exfalso
      obtain rfl : k = 15 := by omega
      have := hnx.1
      rw [nx] at this
      exact hne (by rw [← this])

theorem Good.of_err {zs : List Int} (h : errOf zs = 0) : Good zs := ⟨(errOf_zero h).1.1, (errOf_zero h).1.2, (errOf_zero h).2⟩
/-- Next of a decoder that New made: what the bits are. -/
theorem next_any (base D R : Nat) (zs bs : List Int) (g : Option Addr) (c pos : Nat) (w : World) (h : errOf zs = 0) (hb : AreBytes bs) (hl : bs.length ≤ 140737488351232)
    (hD : DecAt base zs 15 D w) (h2 : Two w R 63 (.slice g bs.length c) (.int .i64 pos)) (hI : BytesIn (fun k => k < w.heap.size ∧ k ≠ R) w (.slice g bs.length c) bs) (hp : pos ≤ 8 * bs.length) :
    Calls Tryd.prog 69 #[.pointer (some ⟨D, 0, none⟩), .pointer (some ⟨R, 0, none⟩)] w fun e w' => e = .returned (.tuple #[.int .i64 (nextOf zs bs pos).1, .int .i64 (nextOf zs bs pos).2.1]) ∧
      Two w' R 63 (.slice g bs.length c) (.int .i64 ((pos + (nextOf zs bs pos).2.2 : Nat) : Int)) ∧ Kept (fun k => k < w.heap.size ∧ k ≠ R) w w' :=
  next_r _ base D R zs bs g c pos w rfl ((Good.of_err h).nx_ne _ (bitFrom_lt bs pos) _) (Good.of_err h).len hb hl hD h2 hI hp
/-- New: nil and the error of these lengths; or a decoder of them. -/
theorem new_any (S : Nat → Prop) (a : Option Addr) (cap : Nat) (zs : List Int) (w : World) (hS : ∀ k, S k → k < w.heap.size) (hI : IntsIn S w (.slice a zs.length cap) zs) :
    Calls Tryd.prog 55 #[.slice a zs.length cap] w fun e w' => Below w.heap.size w w' ∧
      ((errOf zs ≠ 0 ∧ e = .returned (.tuple #[.pointer none, .int .i64 (errOf zs)])) ∨
       (errOf zs = 0 ∧ ∃ D, e = .returned (.tuple #[.pointer (some ⟨D, 0, none⟩), .int .i64 0]) ∧ w.heap.size ≤ D ∧ DecAt w.heap.size zs 15 D w')) := by
  by_cases h : errOf zs = 0
  · refine (new_ok S a cap zs w hS hI h (Good.of_err h).len).mono ?_
    rintro e w' ⟨D, he, hD, hA, hB⟩
    exact ⟨hB, .inr ⟨h, D, he, hD, hA⟩⟩
  · refine (new_err S a cap zs w hS hI h).mono ?_
    rintro e w' ⟨he, hB⟩
    exact ⟨hB, .inl ⟨h, he⟩⟩
end Go.Proofs.YtiheajlgaehfmaaDoor
