/- DeflateParse: whatever the bytes: the items tell them again, are no more than these, and what repeats itself is copied. -/
import Derived.Test.YtijfjbpmlcmnmaaDoorPps
import Derived.Test.YtijfjbpmlcmnmaaDoorJts
import Derived.Test.YtijfjbpmlcmnmaaDoorUnq
import Derived.Test.YtijfjbpmlcmnmaaDoorUnr
import Derived.Test.YtijfjbpmlcmnmaaDoorAlv
import Derived.Test.YtijfjbpmlcmnmaaDoorOrd
import Derived.Test.YtijfjbpmlcmnmaaDoorRowk
import Derived.Test.YtijfjbpmlcmnmaaDoorCards
import Derived.Test.YtijfjbpmlcmnmaaDoorTie
import Derived.ProofKit
import Derived.OpenShut
import Derived.Deep.DeepHandedRow
import Derived.Lib.LaidTab
namespace Go.Proofs.YtijfjbpmlcmnmaaDoor
open Go.RowKit

set_option maxRecDepth 100000 in
set_option maxHeartbeats 8000000 in
theorem par_walk (a : Option Addr) (cap : Nat) (T : List Int) (w : World) (hI : BytesIn (· < w.heap.size) w (.slice a T.length cap) T) (hT : AreBytes T) :
    Calls Tryd.prog 4 #[.slice a T.length cap] w fun e w' => e = .returned (.bool true) ∧ Below w.heap.size w w' := by
  obtain ⟨i0, hi, hz0, hz1, hz2⟩ := info_parts Tryd.info33
  by_cases hbig : 65536 < T.length
  · have t1 : (65536 : Int) < (T.length : Int) := by omega
    have H1 : Hid (Calls Tryd.prog 8 #[] w _) := alive_any w
    clear hI hT
    go_enter Tryd.func4, Tryd.ntmps4
    go_wp2_with fail
    refine H1.out.mono ?_
    clear H1
    rintro e w1 ⟨rfl, hb1⟩
    go_wp2
    go_ret
    exact ⟨rfl, hb1⟩
  · have t1 : ¬ ((65536 : Int) < (T.length : Int)) := by omega
    have H1 : Hid (Calls Tryd.prog 10 #[.slice a T.length cap] w _) := parse_any a cap T w hI hT (by omega)
    go_enter Tryd.func4, Tryd.ntmps4
    go_wp2_with fail
    refine H1.out.mono ?_
    clear H1
    rintro e w1 ⟨v, its, rfl, hE, hG, hO0, hb1⟩
    have HR : Hid (unpS its [] = some T) := good_all hG hE hT (by omega)
    have hwf := good_wf hG hT
    have hln : its.length ≤ T.length := by have := told_ge its; omega
    have HG : Hid (GoodIts T T.length its) := hG
    have HT : Hid (AreBytes T) := hT
    obtain ⟨⟨g, c, rfl⟩, hown0⟩ := hO0
    have hIt : ItsIn (· < w1.heap.size) w1 g its := OwnIts.items ⟨⟨g, c, rfl⟩, hown0⟩
    have HIT : Hid (ItsIn (· < w1.heap.size) w1 g its) := hIt
    have hI1 : BytesIn (· < w1.heap.size) w1 (.slice a T.length cap) T := (hI.kept (Kept.of_below hb1 (fun _ h => h))).mono (fun k (h : k < _) => by have := hb1.size; show k < _; omega)
    have HI1 : Hid (BytesIn (· < w1.heap.size) w1 (.slice a T.length cap) T) := hI1
    have HB1 : Hid (Below w.heap.size w w1) := hb1
    have HWF : Hid (∀ r ∈ its, r.wf) := hwf
    clear hG hE hown0 hI hI1 hwf hT hb1
    go_wp2
    go_loopw [4, 5] (fun v4 v5 wr => ∃ i : Nat, v5 = .int .i64 (i : Int) ∧ i ≤ its.length ∧ OwnJts w1.heap.size wr v4 (its.take i) ∧ Below w1.heap.size w1 wr) (fun _ v5 _ => its.length - (intOf v5).toNat)
    case atStart => exact ⟨0, rfl, by omega, by rw [List.take_zero]; exact OwnJts.nil _ _, Below.refl _ _⟩
    case round =>
      obtain ⟨i, rfl, hile, hO, hB⟩ := hrel
      by_cases hlt : i < its.length
      · rcases hIt with h0 | ⟨b, off, rfl, hSb, hcs⟩
        · rw [h0] at hlt; simp at hlt
        have HTL : Hid ((its.take i).length = i) := by show _ = _; rw [List.length_take]; omega
        have hItm := (hcs i its[i] (List.getElem?_eq_getElem hlt)).kept (Kept.of_below hB (fun k hk => hk)) hSb
        have HTK : Hid (its.take (i + 1) = its.take i ++ [its[i]]) := by show _ = _; rw [List.take_add_one, List.getElem?_eq_getElem hlt]; rfl
        generalize its[i] = r at hItm HTK
        obtain ⟨rb, rl, rd⟩ := r
        generalize its.take i = ts at hO HTL HTK
        obtain ⟨⟨g', c', rfl⟩, hown⟩ := hO
        have HS : Hid (wr.drew.cell? ⟨b, off + i * 3, none⟩ = some (.int .i64 rb) ∧ wr.drew.cell? ⟨b, off + i * 3 + 1, none⟩ = some (.int .i64 rl) ∧ wr.drew.cell? ⟨b, off + i * 3 + 2, none⟩ = some (.int .i64 rd)) := ⟨hItm.cb, hItm.cl, hItm.cd⟩
        have hL : Hid (i < its.length) := hlt
        clear hcs hItm HIT
        go_wp2_with fail
        refine wp_region_K (fun wx => wx.cell? ⟨b, off + i * 3, none⟩ = some (.int .i64 rb) ∧ wx.cell? ⟨b, off + i * 3 + 1, none⟩ = some (.int .i64 rl) ∧ wx.cell? ⟨b, off + i * 3 + 2, none⟩ = some (.int .i64 rd)) (fun j => decide (1 ≤ j) && decide (j ≤ 16)) (by kernel_rfl) ?_
        refine wpK_free (k := 0) (v := ?_) rfl (by kernel_rfl) (by kernel_rfl) (fun _ _ _ h => h) rfl (by intro wx; go_simp <;> rfl) ?_
        refine wpK_held (k := 1) (v := ?_) rfl (by kernel_rfl) (by kernel_rfl) (fun _ _ _ h => h) rfl (by rintro wx ⟨hx1, hx2, hx3⟩; go_simp <;> rfl) HS.out ?_
        refine wpK_held (k := 2) (v := ?_) rfl (by kernel_rfl) (by kernel_rfl) (fun _ _ _ h => h) rfl (by rintro wx ⟨hx1, hx2, hx3⟩; go_simp <;> rfl) HS.out ?_
        refine wpK_held (k := 3) (v := ?_) rfl (by kernel_rfl) (by kernel_rfl) (fun _ _ _ h => h) rfl (by rintro wx ⟨hx1, hx2, hx3⟩; go_simp <;> rfl) HS.out ?_
        refine wpK_held (k := 4) (v := ?_) rfl (by kernel_rfl) (by kernel_rfl) (fun _ _ _ h => h) rfl (by rintro wx ⟨hx1, hx2, hx3⟩; go_simp <;> rfl) HS.out ?_
        refine wpK_held (k := 5) (v := ?_) rfl (by kernel_rfl) (by kernel_rfl) (fun _ _ _ h => h) rfl (by rintro wx ⟨hx1, hx2, hx3⟩; go_simp <;> rfl) HS.out ?_
        refine wpK_held (k := 6) (v := ?_) rfl (by kernel_rfl) (by kernel_rfl) (fun _ _ _ h => h) rfl (by rintro wx ⟨hx1, hx2, hx3⟩; go_simp <;> rfl) HS.out ?_
        refine wpK_held (k := 7) (v := ?_) rfl (by kernel_rfl) (by kernel_rfl) (fun _ _ _ h => h) rfl (by rintro wx ⟨hx1, hx2, hx3⟩; go_simp <;> rfl) HS.out ?_
        refine wpK_held (k := 8) (v := ?_) rfl (by kernel_rfl) (by kernel_rfl) (fun _ _ _ h => h) rfl (by rintro wx ⟨hx1, hx2, hx3⟩; go_simp <;> rfl) HS.out ?_
        refine wpK_held (k := 9) (v := ?_) rfl (by kernel_rfl) (by kernel_rfl) (fun _ _ _ h => h) rfl (by rintro wx ⟨hx1, hx2, hx3⟩; go_simp <;> rfl) HS.out ?_
        refine wpK_held (k := 10) (v := ?_) rfl (by kernel_rfl) (by kernel_rfl) (fun _ _ _ h => h) rfl (by rintro wx ⟨hx1, hx2, hx3⟩; go_simp <;> rfl) HS.out ?_
        refine wpK_held (k := 11) (v := ?_) rfl (by kernel_rfl) (by kernel_rfl) (fun _ _ _ h => h) rfl (by rintro wx ⟨hx1, hx2, hx3⟩; go_simp <;> rfl) HS.out ?_
        refine wpK_held (k := 12) (v := ?_) rfl (by kernel_rfl) (by kernel_rfl) (fun _ _ _ h => h) rfl (by rintro wx ⟨hx1, hx2, hx3⟩; go_simp <;> rfl) HS.out ?_
        refine wpK_held (k := 13) (v := ?_) rfl (by kernel_rfl) (by kernel_rfl) (fun _ _ _ h => h) rfl (by rintro wx ⟨hx1, hx2, hx3⟩; go_simp <;> rfl) HS.out ?_
        refine wpK_held (k := 14) (v := ?_) rfl (by kernel_rfl) (by kernel_rfl) (fun _ _ _ h => h) rfl (by rintro wx ⟨hx1, hx2, hx3⟩; go_simp <;> rfl) HS.out ?_
        refine wpK_held (k := 15) (v := ?_) rfl (by kernel_rfl) (by kernel_rfl) (fun _ _ _ h => h) rfl (by rintro wx ⟨hx1, hx2, hx3⟩; go_simp <;> rfl) HS.out ?_
        refine wpK_held (k := 16) (v := ?_) rfl (by kernel_rfl) (by kernel_rfl) (fun _ _ _ h => h) rfl (by rintro wx ⟨hx1, hx2, hx3⟩; go_simp <;> rfl) HS.out ?_
        refine wpK_one (k := 17) rfl (by kernel_rfl) ?_
        go_wp2_with fail
        refine ⟨(fun h => by cases h), ?_⟩
        refine wpK_rest 18 (by kernel_rfl) 2 18 (by decide) (by decide) _ _ ?_
        simp only [List.drop_succ_cons, List.drop_zero]
        have hO1 : OwnJts w1.heap.size (wr.drew.alloc (.cells #[.int .i64 rb, .int .i64 rl, .int .i64 rd] 33)) (.slice g' ts.length c') ts := OwnJts.alloc (W := wr.drew) ⟨⟨g', c', rfl⟩, hown⟩ _
        have hB1 : Below w1.heap.size w1 (wr.drew.alloc (.cells #[.int .i64 rb, .int .i64 rl, .int .i64 rd] 33)) := hB.drew.alloc hB.size _
        have hBs : w1.heap.size ≤ (wr.drew.alloc (.cells #[.int .i64 rb, .int .i64 rl, .int .i64 rd] 33)).heap.size := hB1.size
        have HNW : Hid (∀ (j : Nat) (u : Value), ([.int .i64 rb, .int .i64 rl, .int .i64 rd] : List Value)[j]? = some u → (wr.drew.alloc (.cells #[.int .i64 rb, .int .i64 rl, .int .i64 rd] 33)).cell? ((⟨wr.drew.heap.size, 0, none⟩ : Addr).add j) = some u) := by
          intro j u hu
          have hR := Row.new wr.drew 33 #[.int .i64 rb, .int .i64 rl, .int .i64 rd]
          have h := hR.cell (i := j) (v := u) (by simpa using hu)
          rw [Go.WideShapes.add_plain]
          simpa using h
        clear HS hown hB
        go_wp2_with (at_builtin; refine wpList_append_own2 _ rfl (.tmp 24) (.tmp 41) 30 rfl w1.heap.size 33 i0 (.agg #[.int .i64 0, .int .i64 0, .int .i64 0]) 3 24 Tryd.underlying30 hi hz0 hz1 hz2 rfl (by decide) _ _ _ rfl hO1.2 ⟨wr.drew.heap.size, 0, none⟩ 1 1 [.int .i64 rb, .int .i64 rl, .int .i64 rd] rfl rfl HNW.out (by simp [Value.oneCell']) (by have := HTL.out; unfold maxLen; omega) (by have := HTL.out; omega) hBs ?_)
        intro v' w6 h6 hg hb
        have HP := OwnJts.push (r := ⟨rb, rl, rd⟩) hO1 hB1 h6 hg hBs
        clear hO1 hB1 HNW h6 hg hb hBs
        obtain ⟨⟨⟨g6, c6, rfl⟩, ho6⟩, hB6⟩ := HP
        go_wp2
        exact ⟨⟨i + 1, by go_num, by have := hL.out; omega, by rw [HTK.out]; exact ⟨⟨g6, c6, rfl⟩, ho6⟩, hB6⟩, by have := hL.out; simp [intOf]; omega⟩
      · obtain rfl : i = its.length := by omega
        rw [List.take_length] at hO
        obtain ⟨⟨g', c', rfl⟩, hown⟩ := hO
        have hIo : ItsIn (· < wr.heap.size) wr g' its := OwnJts.items ⟨⟨g', c', rfl⟩, hown⟩
        have hBs := hB.size
        have H1 : Hid (Calls Tryd.prog 11 #[.slice g' its.length c'] wr (UnpPost wr.heap.size wr (some T))) := refUnparse_any (· < wr.heap.size) g' c' its wr (fun _ h => h) hIo (by omega) _ HR
        clear hown hIo hIt
        go_wp2_with fail
        refine H1.out.mono ?_
        clear H1
        rintro e w2 ⟨hb2, (⟨h, -⟩ | ⟨os, v, h, rfl, ⟨⟨g1, c1, rfl⟩, ho1⟩, -, -⟩)⟩
        · cases h
        obtain rfl : T = os := Option.some.inj h
        have hs2 := hb2.size
        have hI2 : ItsIn (· < w1.heap.size) w2 g its := HIT.out.kept (Kept.of_below (hB.trans (hb2.mono hBs)) (fun _ h => h))
        have H2 : Hid (Calls Tryd.prog 12 #[.slice g its.length c] w2 (UnpPost w2.heap.size w2 (some T))) := unparse_any (· < w1.heap.size) g c its w2 (fun k (h : k < _) => by omega) hI2 (by omega) HWF.out _ HR
        clear hI2
        go_wp2_with fail
        refine H2.out.mono ?_
        clear H2
        rintro e w3 ⟨hb3, (⟨h, -⟩ | ⟨os, v, h, rfl, ⟨⟨g2, c2, rfl⟩, ho2⟩, -, -⟩)⟩
        · cases h
        obtain rfl : T = os := Option.some.inj h
        have hs3 := hb3.size
        have hB3 : Below w1.heap.size w1 w3 := hB.trans ((hb2.mono hBs).trans (hb3.mono (by omega)))
        have ho13 := owns_kept (S := (· < w2.heap.size)) ho1 (Kept.of_below hb3 (fun _ h => h)) (fun k hk => (ho1.lt k hk).2)
        have hT3 : BytesIn (fun _ => True) w3 (.slice a T.length cap) T := (HI1.out.kept (Kept.of_below hB3 (fun _ h => h))).mono (fun _ _ => trivial)
        have H3 : Hid (Calls Tryd.prog 13 #[.slice g1 T.length c1, .slice a T.length cap] w3 fun e w' => e = .returned (.bool true) ∧ w' = w3) := same_any (fun _ => True) g1 a T.length T.length c1 cap T w3 (bytesIn_of_owns _ ho13 (fun _ _ => trivial)) hT3
        have H4 : Hid (Calls Tryd.prog 13 #[.slice g2 T.length c2, .slice a T.length cap] w3 fun e w' => e = .returned (.bool true) ∧ w' = w3) := same_any (fun _ => True) g2 a T.length T.length c2 cap T w3 (bytesIn_of_owns _ ho2 (fun _ _ => trivial)) hT3
        have H5 : Hid (Calls Tryd.prog 8 #[] w3 _) := alive_any w3
        have HB3 : Hid _ := hB3
        have t2 : ¬ ((T.length : Int) < (its.length : Int)) := by omega
        clear hb2 hb3 hB ho1 ho13 ho2 hT3 hB3
        go_wp2_with fail
        refine H3.out.mono ?_
        clear H3
        rintro e w4 ⟨rfl, rfl⟩
        go_wp2_with fail
        refine H4.out.mono ?_
        clear H4
        rintro e w5 ⟨rfl, rfl⟩
        go_wp2_with fail
        refine H5.out.mono ?_
        clear H5
        rintro e w6 ⟨rfl, hb6⟩
        have HB6 : Hid (Below w1.heap.size w1 w6) := HB3.out.trans (hb6.mono HB3.out.size)
        clear hb6
        go_wp2
        have HBW : Hid (Below w.heap.size w w6) := HB1.out.trans (HB6.out.mono HB1.out.size)
        clear HR HI1 HB1 HB3 HWF HT
        rw [show decide (T.length < its.length) = false from decide_eq_false (by omega)]
        go_loopw [10, 11] (fun v10 v11 wq => ∃ k run : Nat, v10 = .int .i64 (run : Int) ∧ v11 = .int .i64 ((k : Int) + 1) ∧ (k = 0 ∨ k + 1 ≤ its.length) ∧ Hid (RunOk its (k + 1) run) ∧ ∃ n, wq = w6.drewN n) (fun _ v11 _ => its.length - (intOf v11).toNat)
        case atStart => exact ⟨0, 1, rfl, rfl, .inl rfl, run_one _ _ (by omega), 0, rfl⟩
        case round =>
          obtain ⟨k, run, rfl, rfl, hk, HRU, nd, rfl⟩ := hrel
          by_cases hlt : k + 1 < its.length
          rotate_left
          · have t3 : ¬ ((k : Int) + 1 < (its.length : Int)) := by omega
            go_wp2
            go_ret
            exact ⟨rfl, below_drewN HBW.out nd⟩
          · have t3 : (k : Int) + 1 < (its.length : Int) := by omega
            have HIX := HIT.out
            rcases HIX with h0 | ⟨b, off, rfl, hSb, hcs⟩
            · rw [h0] at hlt; simp at hlt
            have hK6 := Kept.of_below (S := (· < w1.heap.size)) HB6.out (fun k hk => hk)
            have e1 := List.getElem?_eq_getElem (l := its) hlt
            have e0 := List.getElem?_eq_getElem (l := its) (show k < its.length by omega)
            have it1 := (hcs (k + 1) _ e1).kept hK6 hSb
            have it0 := (hcs k _ e0).kept hK6 hSb
            generalize its[k + 1] = r1 at e1 it1
            generalize its[k] = r0 at e0 it0
            have HE1 : Hid (its[k + 1]? = some r1) := e1
            have HE0 : Hid (its[k]? = some r0) := e0
            obtain ⟨rb1, rl1, rd1⟩ := r1
            obtain ⟨rb0, rl0, rd0⟩ := r0
            obtain ⟨a1, a2, a3⟩ := it1
            obtain ⟨a4, a5, a6⟩ := it0
            simp only at a1 a2 a3 a4 a5 a6
            have hrun := HRU.out.2.1
            have hwr : IntKind.i64.wrap ((run : Int) + 1) = (run : Int) + 1 := by simp [IntKind.wrap, IntKind.bits, IntKind.signed]; omega
            have hwk : IntKind.i64.wrap ((k : Int) + 1 + 1) = (k : Int) + 1 + 1 := by simp [IntKind.wrap, IntKind.bits, IntKind.signed]; omega
            have hwm : IntKind.i64.wrap (k : Int) = (k : Int) := by simp [IntKind.wrap, IntKind.bits, IntKind.signed]; omega
            have t4 : (k : Int) < (its.length : Int) := by omega
            have HL1 : Hid ((0 ≤ rl1 ∧ rl1 ≤ 258) ∧ (0 ≤ rl0 ∧ rl0 ≤ 258)) := by
              have q1 := (HG.out _ _ HE1.out).2.1
              have q0 := (HG.out _ _ HE0.out).2.1
              refine ⟨?_, ?_⟩
              · rcases q1 with ⟨q, _⟩ | ⟨_, l, d, q, _⟩ <;> simp only at q <;> omega
              · rcases q0 with ⟨q, _⟩ | ⟨_, l, d, q, _⟩ <;> simp only at q <;> omega
            clear e1 e0 hcs hK6 hSb hrun
            by_cases hl1 : 0 < rl1
            · have d1 : decide (0 < rl1) = true := by simpa using hl1
              clear hl1
              go_wp2_with fail
              go_quiet (fail)
              rw [World.drewN_drewN]
              go_wp2
              exact ⟨⟨k + 1, 1, by go_num, by go_num, .inr (by omega), run_one _ _ (by omega), _, rfl⟩, by simp [intOf]; omega⟩
            · have d1 : decide (0 < rl1) = false := by simpa using hl1
              by_cases hl0 : 0 < rl0
              · have d0 : decide (0 < rl0) = true := by simpa using hl0
                clear hl1 hl0
                go_wp2_with fail
                go_quiet (fail)
                rw [World.drewN_drewN]
                go_wp2
                exact ⟨⟨k + 1, 1, by go_num, by go_num, .inr (by omega), run_one _ _ (by omega), _, rfl⟩, by simp [intOf]; omega⟩
              · have d0 : decide (0 < rl0) = false := by simpa using hl0
                by_cases hbb : rb1 = rb0
                · have db : (rb1 == rb0) = true := by simpa using hbb
                  have HR2 : Hid (RunOk its (k + 1 + 1) (run + 1)) := by
                    have hL := HL1.out
                    exact run_more HG.out (by omega) HRU.out (b := rb1) ⟨_, HE1.out, by show rl1 = 0; omega, rfl⟩ ⟨_, by rw [Nat.add_sub_cancel]; exact HE0.out, by show rl0 = 0; omega, hbb.symm⟩
                  obtain ⟨rn, HRN⟩ : ∃ rn, Hid (run + 1 = rn) := ⟨_, rfl⟩
                  have hwq : IntKind.i64.wrap ((run : Int) + 1) = (rn : Int) := by rw [hwr, ← HRN.out]; omega
                  rw [HRN.out] at HR2
                  have t5 : ¬ ((4 : Int) < (rn : Int)) := by have := HR2.out.2.1; omega
                  clear hl1 hl0 hwr
                  subst hbb
                  go_wp2_with fail
                  go_quiet (fail)
                  rw [World.drewN_drewN]
                  go_wp2
                  exact ⟨⟨k + 1, rn, by go_num, by go_num, .inr (by omega), HR2, _, rfl⟩, by simp [intOf]; omega⟩
                · have db : (rb1 == rb0) = false := by simpa using hbb
                  clear hl1 hl0 hbb
                  go_wp2_with fail
                  go_quiet (fail)
                  rw [World.drewN_drewN]
                  go_wp2
                  exact ⟨⟨k + 1, 1, by go_num, by go_num, .inr (by omega), run_one _ _ (by omega), _, rfl⟩, by simp [intOf]; omega⟩


namespace deflateParse
open Go.ChangeShapes Go.WideShapes Go.ChangeAt Go.RowKit
theorem own : ownKnob Tryd.prog.godebug = none := by kernel_rfl
set_option maxRecDepth 100000 in
theorem contract (H : Type) (enc : TypeId × Value → H) (W : World) (base : Nat) (args : Array Value) (ds gs : List (DataW H)) (before : List MemPlace)
    (hval : ∀ (j : Nat) t v, Tryd.f4.params[j]? = some t → args[j]? = some v → Value.okWide Tryd.prog W .any base t v)
    (hW : DataW.Whole enc Tryd.prog Tryd.f4.params.toList Rows.deflateParseSpec.vars false W args.toList ds gs before) (_hL : laidMetH Tryd.prog Rows.deflateParseRow.laid W)
    (hsz0 : (DataW.weightsEach Tryd.prog (Tryd.f4.params.toList ++ Rows.deflateParseSpec.plain.varTypes Tryd.prog) (ds ++ gs)).all (· ≤ reachBytes) = true) :
    Calls Tryd.prog 4 args W fun e W' => ∃ v, e = .returned v ∧ Rows.deflateParseSpec.post enc Tryd.prog Tryd.f4 false true false false W args v W' := by
  have hW' := hW
  obtain ⟨p, q, hA0, hV, rfl, hfz, hnd⟩ := hW
  have hA : DataW.TrodAll enc Tryd.prog W 0 (fun _ => true) true Tryd.f4.params.toList args.toList ds p := hA0
  have hsz := hsz0
  rw [Tryd.params4] at hA hval hsz
  obtain ⟨v0, vs0, d0, ds0, p0, q0, hargs, rfl, rfl, h0, r0⟩ := trodAll_cons hA
  obtain ⟨rfl, rfl, rfl⟩ := trodAll_nil r0
  obtain rfl : args = #[v0] := by cases args; simp_all
  obtain ⟨rfl, rfl⟩ := trodVars_none hV
  obtain ⟨a0, len0, cap0, rfl⟩ := okWide_slice Tryd.underlying22 (hval 0 22 v0 rfl rfl)
  have k0 := h0
  have lt0 : ∀ x ∈ p0, x.block < W.heap.size := by obtain ⟨m, hm⟩ := k0; exact DataW.trod_lt m _ _ _ hm
  obtain ⟨zs, hlen0, hLb, hz, hd1⟩ := open_bytes h0
  clear hA0 hsz hsz0
  subst hlen0
  refine (par_walk a0 cap0 zs W hLb hz).mono fun e W' ⟨he, bel⟩ => ?_
  subst he
  exact ⟨_, rfl, _, _, _, [], _, [], hW', trodAll_mk1 (shut_bool Tryd.underlying4 _), (trodAll_cons_mk (Below.trod laidOut (by kernel_rfl) (of_decide_eq_true (by kernel_rfl)) k0 bel lt0) trodAll_mk0), rfl, bel.frame _, fun h => by cases h⟩

/-- A world for the witness: the settled one, the table holding what its initialiser lays. -/
noncomputable def laidWorld (os : Os) : World :=
  { World.holding Tryd.prog os ⟨#[], #[], []⟩ with heap := (World.holding Tryd.prog os ⟨#[], #[], []⟩).heap.modify 0 fun
      | .cells _ t frozen => .cells #[.int .i64 16, .int .i64 17, .int .i64 18, .int .i64 0, .int .i64 8, .int .i64 7, .int .i64 9, .int .i64 6, .int .i64 10, .int .i64 5, .int .i64 11, .int .i64 4, .int .i64 12, .int .i64 3, .int .i64 13, .int .i64 2, .int .i64 14, .int .i64 1, .int .i64 15] t frozen
      | o => o }
theorem laid_met (os : Os) : laidMet Tryd.prog Rows.deflateParseRow.laid ((laidWorld os).forCall (fun _ _ => 0) ⟨#[], #[.slice none 0 0], []⟩).memory :=
  laidMet_of_run' 8 (by kernel_rfl) (by kernel_rfl)
theorem reads (os : Os) {H : Type} (enc : TypeId × Value → H) : ∃ places, DataW.whole enc Tryd.prog ((laidWorld os).forCall (fun _ _ => 0) ⟨#[], #[.slice none 0 0], []⟩).memory Tryd.f4.params.toList Rows.deflateParseSpec.vars false #[Value.slice none 0 0].toList 8 = some ([.nil], [], places) :=
  ⟨[], by kernel_rfl⟩
set_option maxRecDepth 100000 in
theorem lifted (os : Os) (started : os.Started) (H : Type) (enc : TypeId × Value → H) (F : Stop.Interp) :
    ReturnsInHanded {} Tryd.checked os 4 .any ((OpenSpec.ofChange Rows.deflateParseSpec).preRow enc Tryd.prog Tryd.f4 Rows.deflateParseRow.domain false Rows.deflateParseRow.laid) (((OpenSpec.ofChange Rows.deflateParseSpec).at F).post enc Tryd.prog Tryd.f4 false true false false) := by
  obtain ⟨places, hx⟩ := reads os enc
  refine returnsInHanded_of_row (C := Tryd.checked) (s := OpenSpec.ofChange Rows.deflateParseSpec) own started (by kernel_rfl) Tryd.func4
    (witness_row_at (enc := enc) (C := Tryd.checked) false (laidWorld os) #[.slice none 0 0] rfl (by kernel_rfl) (by kernel_rfl) (by kernel_rfl)
      (OpenSpec.preRow_of_cond 8 hx (by kernel_rfl) (fun k hk => by cases hk) (by kernel_rfl) (laid_met os))) ?_
  intro W base args ds gs before hval hW _ _ hsz hL _ _
  exact contract H enc W base args ds gs before hval hW hL hsz
theorem said : Rows.DeflateParseSaid :=
  OpenClaim.holds_of_cond 4 Tryd.f4 rfl rfl rfl rfl rfl rfl rfl ⟨rfl, rfl, rfl, rfl, rfl⟩ rfl rfl rfl rfl rfl (by kernel_rfl) Tryd.func4 (by kernel_rfl)
    (of_decide_eq_true (by kernel_rfl)) (by unfold Func.isWrapper; first | (rw [if_pos (by decide +kernel)]; kernel_rfl) | (rw [if_neg (by decide +kernel)]; exact ⟨rfl, rfl⟩))
    (fun os started H enc _ F => by rw [OpenClaim.pre_eq_preRow]; exact lifted os started H enc F)
theorem plain (f : FuncId) (fn : Func) (hf : Tryd.pinned.checked.prog.funcNamed "quire/quirelaw04.DeflateParse" = some f) (hfn : Tryd.pinned.checked.prog.funcs[f]? = some fn) :
    false = Tryd.pinned.checked.prog.looks [] ∧ ∀ (j : Nat) t, fn.params[j]? = some t → Tryd.pinned.checked.prog.wantsStandIn t = false := by
  obtain rfl : f = 4 := Option.some.inj ((show Tryd.prog.funcNamed "quire/quirelaw04.DeflateParse" = some 4 by kernel_rfl).symm.trans hf) |>.symm
  obtain rfl : fn = Tryd.f4 := (Option.some.inj (Tryd.func4.symm.trans hfn)).symm
  refine ⟨by kernel_rfl, fun j t ht => ?_⟩
  rw [Tryd.params4] at ht
  obtain rfl : t = 22 := by simpa using Array.mem_of_getElem? ht
  exact (show Tryd.prog.wantsStandIn 22 = false by kernel_rfl)
theorem card : Rows.DeflateParseCardSaid :=
  Claim7.holds_tied_plain_at .later [] _ _ _ _ said (fun _ h => by cases h) (by kernel_rfl) (fun _ h => by cases h) deflateParse_row_tie rfl ⟨rfl, rfl⟩ (by kernel_rfl) rfl plain (by kernel_rfl)
end deflateParse
theorem deflateParse_holds : Rows.DeflateParseCardSaid := deflateParse.card
#print axioms deflateParse_holds
end Go.Proofs.YtijfjbpmlcmnmaaDoor
