import Derived.Test.YtinbilbgipfemaaDoorDfpM
import Derived.Test.YtinbilbgipfemaaDoorDfa
/- Deflate: its loop over blocks. -/
namespace Go.Proofs.YtinbilbgipfemaaDoor
open Go.RowKit

set_option maxRecDepth 100000 in
set_option maxHeartbeats 4000000 in
theorem deflate2 (b off cap : Nat) (Tx : List Int) (w : World) (hI : BytesIn (· < w.heap.size) w (.slice (some ⟨b, off, none⟩) Tx.length cap) Tx) (hT : AreBytes Tx) (hl : Tx.length ≤ 1048576) (hcap : Tx.length ≤ cap) (hc0 : 0 < cap) (hO : OrdAt w) :
    Calls Tryd.prog 7 #[.slice (some ⟨b, off, none⟩) Tx.length cap, .int .i64 2] w fun e w' => ∃ g c ys bs, e = .returned (.tuple #[.slice g ys.length c, .int .i64 0]) ∧ w'.ownsRow w.heap.size 5 1 (.slice g ys.length c) ys.length (ys.map (Value.int .u8)) ∧ Packed ys bs ∧ Strm Tx 2 Tx.length bs ∧ bs ≠ [] ∧ Below w.heap.size w w' := by
  have HO : Hid (OrdAt w) := hO
  have HI : Hid (BytesIn (· < w.heap.size) w (.slice (some ⟨b, off, none⟩) Tx.length cap) Tx) := hI
  obtain ⟨m, hm⟩ : ∃ m, m = min 32768 (Tx.length + 1) := ⟨_, rfl⟩
  have hm1 : 1 ≤ m ∧ m ≤ 32768 := by omega
  have t1 : ¬ (1048576 : Int) < (Tx.length : Int) := by omega
  clear hO hI
  go_enter Tryd.func7, Tryd.ntmps7
  go_wp2_with fail
  refine (newWriter_any w).mono ?_
  rintro e w1 ⟨rfl, h1⟩
  have hR1 : Two w1 w.heap.size 72 (.slice none 0 0) (.int .i64 0) := by subst h1; exact Two.new w 72 _ _
  have hb1 : Below w.heap.size w w1 := by subst h1; exact (Below.refl _ w).alloc (Nat.le_refl _) _
  clear h1
  have H2 : Hid (Calls Tryd.prog 17 #[.slice (some ⟨b, off, none⟩) Tx.length cap] w1 _) := newFinder_any (some ⟨b, off, none⟩) Tx.length cap m w1 (by omega) hm
  clear hm
  go_wp2_with fail
  refine H2.out.mono ?_
  clear H2
  rintro e w2 ⟨vF, rfl, F, H, P, rfl, hF0, hH0, hP0, hFH, hFP, hHP, rF, rH, rP, hb2⟩
  have s1 := hb1.size
  have s2 := hb2.size
  have hRl := hR1.lt
  rw [repC_map] at rH
  rw [repC_zero] at rP
  obtain ⟨D4, hD4⟩ : ∃ D4 : Nat → Prop, D4 = fun k => k < w.heap.size ∨ k = F ∨ k = H ∨ k = P := ⟨_, rfl⟩
  have HD4 : Hid (D4 = fun k => k < w.heap.size ∨ k = F ∨ k = H ∨ k = P) := hD4
  have hb02 : Below w.heap.size w w2 := hb1.trans (hb2.mono s1)
  have hFA : FindAt (· < w.heap.size) F H P (some ⟨b, off, none⟩) cap m Tx (List.replicate m (-1)) (List.replicate Tx.length 0) w2 :=
    ⟨rF, rH, rP, by simp, by simp, HI.out.kept (Kept.of_below hb02 (fun _ h => h)), by show ¬ H < _; omega, by show ¬ P < _; omega, hFH, hFP, hHP⟩
  have hW2 : IsWb D4 w2 w.heap.size [] := ⟨[], ⟨none, 0, (hb2.block _ hRl).trans hR1, ⟨rfl, .inl ⟨rfl, rfl⟩⟩, fun k hk => by simp [Value.ownBlock] at hk⟩, packed_nil⟩
  have hz2 : F < w2.heap.size ∧ H < w2.heap.size ∧ P < w2.heap.size := ⟨rF.lt, rH.lt, rP.lt⟩
  have HRN : Hid (w.heap.size ≠ F ∧ w.heap.size ≠ H ∧ w.heap.size ≠ P ∧ w.heap.size ≤ F ∧ w.heap.size ≤ H ∧ w.heap.size ≤ P) := by show _ ∧ _; omega
  clear hD4 rF rH rP hR1 hb1 hb2 hF0 hH0 hP0
  go_wp2
  go_loopw [8, 9] (fun v8 v9 wr => (∃ (p : Nat) (hs bs : List Int) (st : List Bool), v8 = .int .i64 (p : Int) ∧ v9 = .bool false ∧ (p < Tx.length ∨ p = 0) ∧ Hid (FindAt (· < w.heap.size) F H P (some ⟨b, off, none⟩) cap m Tx hs bs wr) ∧ Hid (ChainOk Tx m p hs bs) ∧ Hid (IsWb D4 wr w.heap.size st) ∧ Hid (Strm Tx 2 p st) ∧ st.length ≤ 200 * p ∧ Hid (Below w.heap.size w wr) ∧ Hid (F < wr.heap.size ∧ H < wr.heap.size ∧ P < wr.heap.size)) ∨ (∃ (x : Value) (st : List Bool), v8 = x ∧ v9 = .bool true ∧ Hid (IsWb D4 wr w.heap.size st) ∧ Hid (Strm Tx 2 Tx.length st ∧ st ≠ []) ∧ st.length ≤ 400000000 ∧ Hid (Below w.heap.size w wr))) (fun v8 v9 _ => leftD Tx.length v8 v9)
  case atStart => exact .inl ⟨0, _, _, [], rfl, rfl, .inr rfl, hFA, chain_start Tx m, hW2, .nil, by simp, hb02, hz2⟩
  case round =>
    clear hFA hW2 hb02 hz2 s1 s2 hRl w1 w2
    rcases hrel with ⟨p, hs, bs, st, rfl, rfl, hp, HF, HC, HW, HST, hstl, HB, HZ⟩ | ⟨x, st, rfl, rfl, HW, HST, hst4, HB⟩
    · rcases Nat.lt_trichotomy (p + 65535) Tx.length with htri | htri | htri
      · have t2 : (p : Int) + 65535 < (Tx.length : Int) := by omega
        have t3 : ((p : Int) + 65535 == (Tx.length : Int)) = false := by simp; omega
        have hq1 : p ≤ p + 65535 := by omega
        have hq2 : p + 65535 ≤ Tx.length := by omega
        have hqp : p + 65535 - p ≤ 65535 := by omega
        have HMQ : Hid (p + 65535 = min (p + 65535) Tx.length) := by show _ = _; omega
        have HLQ : Hid (decide (p + 65535 = Tx.length) = false) := by show _ = _; first | (simp; omega) | simp
        have HQI : Hid (((p + 65535 : Nat) : Int) = (p : Int) + 65535) := by show _ = _; omega
        have t4 : (p : Int) ≤ (p : Int) + 65535 := by omega
        have t5 : (p : Int) + 65535 ≤ (cap : Int) := by omega
        go_wp2_with fail
        generalize hwK : wr.alloc (.cells #[.slice (some ⟨b, off + p, none⟩) 65535 (cap - p), .bool false, .slice none 0 0, .slice none 0 0, .slice none 0 0, .int .i64 0] 51) = wK
        have bK : Below wr.heap.size wr wK := by subst hwK; exact (Below.refl _ wr).alloc (Nat.le_refl _) _
        have rK : Row wK wr.heap.size 51 #[.slice (some ⟨b, off + p, none⟩) 65535 (cap - p), .bool false, .slice none 0 0, .slice none 0 0, .slice none 0 0, .int .i64 0] := by subst hwK; exact Row.new wr 51 _
        have zK := rK.lt
        have H3 : Hid (Calls Tryd.prog 19 #[.pointer (some ⟨F, 0, none⟩), .int .i64 (p : Int), .int .i64 ((p : Int) + 65535)] wK fun e w' => e = .returned (.func (.func 32) #[] #[.pointer (some ⟨wK.heap.size + 1, 0, none⟩), .pointer (some ⟨wK.heap.size + 1 + 1, 0, none⟩), .pointer (some ⟨wK.heap.size, 0, none⟩)]) ∧ w' = ((wK.alloc (.cells #[.pointer (some ⟨F, 0, none⟩)] 48)).alloc (.cells #[.int .i64 (p : Int)] 3)).alloc (.cells #[.int .i64 ((p : Int) + 65535)] 3)) := by
          have := items_any F p (p + 65535) wK
          first | exact this | (rw [HQI.out] at this; exact this)
        clear hwK
        refine H3.out.mono ?_
        clear H3
        rintro e w3 ⟨rfl, hw3⟩
        have s3 : wK.heap.size + 3 = w3.heap.size := by rw [hw3]; simp
        have b3 : Below wK.heap.size wK w3 := hw3 ▸ (((Below.refl _ wK).alloc (Nat.le_refl _) _).alloc (by simp) _).alloc (by simp; omega) _
        have x0 : Row w3 wK.heap.size 48 #[.pointer (some ⟨F, 0, none⟩)] := hw3 ▸ ((Row.new wK 48 _).alloc _).alloc _
        have x1 : Row w3 (wK.heap.size + 1) 3 #[.int .i64 (p : Int)] := by
          have := (Row.new (wK.alloc (.cells #[.pointer (some ⟨F, 0, none⟩)] 48)) 3 #[.int .i64 (p : Int)]).alloc (.cells #[.int .i64 ((p : Int) + 65535)] 3)
          rw [World.size_alloc] at this
          rw [hw3]
          exact this
        have x2 : Row w3 (wK.heap.size + 1 + 1) 3 #[.int .i64 ((p : Int) + 65535)] := by
          have := Row.new ((wK.alloc (.cells #[.pointer (some ⟨F, 0, none⟩)] 48)).alloc (.cells #[.int .i64 (p : Int)] 3)) 3 #[.int .i64 ((p : Int) + 65535)]
          rw [World.size_alloc, World.size_alloc] at this
          rw [hw3]
          exact this
        clear hw3
        have S3 : Hid (wK.heap.size + 3 = w3.heap.size) := s3
        have s3' : wK.heap.size < w3.heap.size := by omega
        clear s3
        have b03 : Below wr.heap.size wr w3 := bK.trans (b3.mono (by omega))
        have rK3 := rK.below b3 zK
        have HZ2 := HZ.out
        have HBs := HB.out.size
        have HRN2 := HRN.out
        have H4 : Hid (Calls Tryd.prog 18 #[.pointer (some ⟨wr.heap.size, 0, none⟩), .func (.func 32) #[] #[.pointer (some ⟨wK.heap.size + 1, 0, none⟩), .pointer (some ⟨wK.heap.size + 1 + 1, 0, none⟩), .pointer (some ⟨wK.heap.size, 0, none⟩)]] w3 fun e w' => e = .returned (.tuple #[]) ∧ ∃ its LB DB own, (p + told its = p + 65535 ∧ ∃ hs bs, FindAt (· < w.heap.size) F H P (some ⟨b, off, none⟩) cap m Tx hs bs w' ∧ ChainOk Tx m (p + 65535) hs bs) ∧ CtI Tx p (p + 65535) w3 wr.heap.size LB DB (.slice (some ⟨b, off + p, none⟩) 65535 (cap - p)) false (fun k => k = H ∨ k = P) its own w') := by
          refine callsIn_wide.1 (bcount_any (fun k => k = H ∨ k = P) (fun k => ((k < w.heap.size) ∨ k = F ∨ k = H ∨ k = P) ∨ k = wK.heap.size + 1 ∨ k = wK.heap.size + 1 + 1 ∨ k = wK.heap.size) Tx p (p + 65535) (by omega) (fun xs V => p + told xs = p + 65535 ∧ ∃ hs bs, FindAt (· < w.heap.size) F H P (some ⟨b, off, none⟩) cap m Tx hs bs V ∧ ChainOk Tx m (p + 65535) hs bs) wr.heap.size _ false _ w3 ?_ ?_ ?_ ?_ rK3 (fun pre r h => itOk_of hT h) ?_ ?_)
          · rintro k (rfl | rfl) <;> omega
          · have := S3.out
            rintro k ((h | rfl | rfl | rfl) | rfl | rfl | rfl) <;> omega
          · rintro (h | h) <;> omega
          · rintro ((h | h | h | h) | h | h | h) <;> omega
          · rintro xs V V' ⟨e, hs, bs, h1, h2⟩ hk
            exact ⟨e, hs, bs, h1.kept hk (by
              rintro k (h | rfl | rfl | rfl)
              · have : k < w.heap.size := h; exact ⟨by omega, by omega⟩
              · exact ⟨by omega, by omega⟩
              · exact ⟨by omega, by omega⟩
              · exact ⟨by omega, by omega⟩), h2⟩
          · intro W hkW
            have hFW := (HF.out.kept (Kept.of_below (S := fun k => k < wr.heap.size) b03 (fun _ h => h)) (by
              rintro k (h | rfl | rfl | rfl)
              · have : k < w.heap.size := h; show k < _; omega
              · show _ < _; omega
              · show _ < _; omega
              · show _ < _; omega)).kept hkW (by
              rintro k (h | rfl | rfl | rfl)
              · have : k < w.heap.size := h; exact ⟨by omega, by omega⟩
              · exact ⟨by omega, by omega⟩
              · exact ⟨by omega, by omega⟩
              · exact ⟨by omega, by omega⟩)
            have hsW := hkW.size
            exact items_seqP 7 (· < w.heap.size) F H P (wK.heap.size + 1) (wK.heap.size + 1 + 1) wK.heap.size (some ⟨b, off, none⟩) cap m Tx hs bs p (p + 65535) hq1 hq2 hm1 (by omega) hT HC.out W (by
              rintro k (h | rfl | rfl | rfl)
              · have : k < w.heap.size := h; omega
              · omega
              · omega
              · omega) (by have := S3.out; omega) (by omega) hFW ((x1.kept hkW ⟨by have := S3.out; omega, by omega⟩).cell rfl) (by first | exact (x2.kept hkW ⟨by have := S3.out; omega, by omega⟩).cell rfl | (rw [HQI.out]; exact (x2.kept hkW ⟨by have := S3.out; omega, by omega⟩).cell rfl)) ((x0.kept hkW ⟨by omega, by omega⟩).cell rfl)
        clear x0 x1 x2 rK rK3 HF HC HZ2 HRN2
        go_wp2_with fail
        refine H4.out.mono ?_
        clear H4
        rintro e w4 ⟨rfl, its, LB, DB, own, ⟨htold, hs', bs', hF4, hC4⟩, hCt⟩
        obtain ⟨iv, g1, g2, gL, gD, gO, gK, gI, ⟨gne, gLB, gDB⟩, gown⟩ := hCt
        obtain ⟨⟨gu, cu, rfl⟩, gOw⟩ := gO
        have s4 := gK.size
        have S3e := S3.out
        obtain ⟨S, hSd⟩ : ∃ S : Nat → Prop, S = fun k => wr.heap.size ≤ k ∧ k < w4.heap.size := ⟨_, rfl⟩
        have hSw : ∀ k, S k → k < w4.heap.size := fun k h => by rw [hSd] at h; exact h.2
        have hil := told_ge its
        have HIL : Hid (its.length ≤ 65535) := by show _ ≤ _; omega
        have hBlk : BlkAt S w4 wr.heap.size (.slice (some ⟨b, off + p, none⟩) 65535 (cap - p)) false its (litF its lit0) (dstFr its dst0) (extN its) := by
          have hlf : (litF its lit0).length = 286 := by rw [litF_length]; rfl
          have hld : (dstFr its dst0).length = 30 := by rw [dstFr_length]; rfl
          refine ⟨⟨gu, cu, LB, DB, by rw [hlf, hld]; exact g1, ?_, by rw [hSd]; exact ⟨by omega, gL.lt⟩, by rw [hSd]; exact ⟨by omega, gD.lt⟩, gL, gD⟩, by rw [hSd]; exact ⟨Nat.le_refl _, g1.lt⟩, hlf, hld, upto_mem (litF_upto its lit0 1 lit0_upto) (by omega), upto_mem (dstFr_upto its dst0 1 dst0_upto) (by omega), by have := extN_le its; omega⟩
          rcases gOw.2 with ⟨e, h0⟩ | ⟨g, cp, cur, e, hb, hgb, _⟩
          · exact .inl (List.eq_nil_of_length_eq_zero h0)
          · simp only [Value.slice.injEq] at e
            obtain ⟨rfl, _, _⟩ := e
            refine .inr ⟨g, 0, rfl, by rw [hSd]; exact ⟨by omega, (Array.getElem?_eq_some_iff.1 hgb).1⟩, fun j r hr => ?_⟩
            obtain ⟨c0, c1, c2⟩ := itCells_at its j r hr
            have d0 := gOw.cells (g := g) rfl _ _ c0
            have d1 := gOw.cells (g := g) rfl _ _ c1
            have d2 := gOw.cells (g := g) rfl _ _ c2
            rw [Go.WideShapes.add_plain] at d0 d1 d2
            exact ⟨d0, by rw [Nat.add_assoc]; exact d1, by rw [Nat.add_assoc]; exact d2⟩
        have hk34 : Kept (fun k => k < wr.heap.size ∧ k ≠ H ∧ k ≠ P) w3 w4 := gK.mono (fun k h => ⟨by omega, by omega, by rintro (e | e); exact h.2.1 e; exact h.2.2 e⟩)
        have hkr4 : Kept (fun k => k < wr.heap.size ∧ k ≠ H ∧ k ≠ P) wr w4 := (Kept.of_below b03 (fun k h => h.1)).trans hk34
        obtain ⟨yw, ⟨gw, cw, w1', w2', w3'⟩, wpk⟩ := HW.out
        have HRN2 := HRN.out
        have hRw := w1'.lt
        have twR : Two w4 w.heap.size 72 (.slice gw yw.length cw) (.int .i64 st.length) := w1'.kept hkr4 ⟨hRw, by omega, by omega⟩
        have HLn : Hid (Calls Tryd.prog 21 #[.pointer (some ⟨w.heap.size, 0, none⟩)] w4 fun e w' => e = .returned (.int .i64 (st.length : Int)) ∧ w' = w4) := len_any w.heap.size _ st.length w4 twR
        have hB4 : Below w.heap.size w w4 := HB.out.trans ((hkr4.mono (fun k (h : k < w.heap.size) => ⟨by omega, by omega, by omega⟩)).below (fun _ h => h))
        have HCp : Hid (Calls Tryd.prog 20 #[.pointer (some ⟨wr.heap.size, 0, none⟩), .int .i64 2, .int .i64 (st.length : Int)] w4 _) := cheapest2_any S wr.heap.size st.length (some ⟨b, off + p, none⟩) (65535) (cap - p) false its (litF its lit0) (dstFr its dst0) (extN its) w4 hSw hBlk (HO.out.kept (Kept.of_below (S := fun k => k < w.heap.size) hB4 (fun _ h => h)) HO.out.1) (by omega) (by omega)
        go_wp2_with fail
        refine HLn.out.mono ?_
        clear HLn
        rintro e w4' ⟨rfl, hww⟩
        obtain rfl := hww.symm
        clear hww
        go_wp2_with fail
        refine HCp.out.mono ?_
        clear HCp
        rintro e w5 ⟨⟨xs, xf, xc⟩, rfl, hCh, hb5⟩
        have s5 := hb5.size
        have HZe := HZ.out
        have hkr5 : Kept (fun k => k < wr.heap.size ∧ k ≠ H ∧ k ≠ P) wr w5 := hkr4.trans (Kept.of_below hb5 (fun k h => by omega))
        have hB5 : Below w.heap.size w w5 := hB4.trans (hb5.mono (by omega))
        have hF5 : FindAt (· < w.heap.size) F H P (some ⟨b, off, none⟩) cap m Tx hs' bs' w5 := hF4.kept (Kept.of_below (S := fun k => k < w4.heap.size) hb5 (fun _ h => h)) (by
          rintro k (h | rfl | rfl | rfl)
          · have : k < w.heap.size := h; show k < _; omega
          · show _ < _; omega
          · show _ < _; omega
          · show _ < _; omega)
        have hW5 := HW.out.carry (w5 := w5) hkr5 (by rw [HD4.out]; exact .inr (.inr (.inl rfl))) (by rw [HD4.out]; exact .inr (.inr (.inr rfl))) HRN2.2.1 HRN2.2.2.1
        obtain ⟨T5, hT5d⟩ : ∃ T5 : Nat → Prop, T5 = fun k => D4 k ∨ (wr.heap.size ≤ k ∧ k < w5.heap.size) := ⟨_, rfl⟩
        have hT5 : ∀ k, (D4 k ∨ (wr.heap.size ≤ k ∧ k < w5.heap.size)) → k < w5.heap.size := by
          rw [HD4.out]
          rintro k ((h | h | h | h) | h) <;> omega
        have hTR : ¬ (D4 w.heap.size ∨ (wr.heap.size ≤ w.heap.size ∧ w.heap.size < w5.heap.size)) := by
          rw [HD4.out]
          rintro ((h | h | h | h) | h) <;> omega
        have hIo : ItsOf Tx p (p + 65535) its := ⟨htold, gI⟩
        have hok : ∀ r ∈ its, ItOk r := fun r hr => by
          obtain ⟨i, hi, rfl⟩ := List.getElem_of_mem hr
          exact itOk_of hT (gI i _ (List.getElem?_eq_getElem hi))
        have HILo := HIL.out
        have rK5 := g1.below hb5 g1.lt
        have k50 := rK5.cell (i := 0) rfl
        have k51 := rK5.cell (i := 1) rfl
        clear rK5
        clear hkr4 hkr5 hB4 hF4 hBlk twR g1 g2 gL gD gOw gK hb5 hk34 bK b3 b03 w1' w2' w3' HZ
        obtain ⟨hsz5, hcs⟩ := hCh
        simp only at hsz5
        have kc0 : w5.cell? ⟨wr.heap.size, 0, none⟩ = some (.slice (some ⟨b, off + p, none⟩) 65535 (cap - p)) := k50
        have kc1 : w5.cell? ⟨wr.heap.size, 1, none⟩ = some (.bool false) := k51
        rcases hcs with ⟨hxs, hst⟩ | ⟨hlev, hxs, hcw⟩ | ⟨zl, zd, head, hlev, hDO, hxs, hcw⟩
        · clear hxs
          obtain ⟨B, e1, e2, hB1, hB2, hB3⟩ := hst
          simp only at e1 e2
          subst e1 e2
          have hzl : ((Tx.drop p).take (p + 65535 - p)).length = 65535 := by rw [List.length_take, List.length_drop]; omega
          have HCl : Hid (Calls Tryd.prog 51 #[.pointer (some ⟨w.heap.size, 0, none⟩), .pointer (some ⟨B, 0, none⟩)] w5 fun e w' => e = .returned (.tuple #[]) ∧ IsWb (fun k => D4 k ∨ (wr.heap.size ≤ k ∧ k < w5.heap.size)) w' w.heap.size (st ++ (storedB st.length false ((Tx.drop p).take (p + 65535 - p)))) ∧ Kept (fun k => D4 k ∨ (wr.heap.size ≤ k ∧ k < w5.heap.size)) w5 w') :=
            storedF_bits _ B wr.heap.size w.heap.size st false (some ⟨b, off + p, none⟩) (cap - p) ((Tx.drop p).take (p + 65535 - p)) w5 hB3 (by rw [hzl]; exact kc0) kc1 (.inr ⟨by omega, hB2⟩) (.inr ⟨Nat.le_refl _, by omega⟩) (fun h => by cases h) (by rw [hzl]; exact (part_in HI.out p (p + 65535) hq1 hq2 hzl hB5).mono (fun k h => .inl (by rw [HD4.out]; exact .inl h))) (part_bytes hT p (p + 65535)) (by omega) hW5 hT5 hTR (by omega)
          have hfd := field58 w5 xs (.func 51) #[] #[.pointer (some ⟨B, 0, none⟩)]
          go_wp2_with fail
          refine HCl.out.mono ?_
          clear HCl hfd
          rintro e w6 ⟨rfl, hI6, hk6⟩
          have HW6 : Hid (IsWb D4 w6 w.heap.size (st ++ (storedB st.length false ((Tx.drop p).take (p + 65535 - p))))) := hI6.mono (fun k h => .inl h)
          have HB6 : Hid (Below w.heap.size w w6) := hB5.trans ((hk6.mono (fun k (h : k < w.heap.size) => .inl (by rw [HD4.out]; exact .inl h))).below (fun _ h => h))
          have HF6 : Hid (FindAt (· < w.heap.size) F H P (some ⟨b, off, none⟩) cap m Tx hs' bs' w6) := hF5.kept hk6 (fun k h => .inl (by rw [HD4.out]; exact h))
          have HZ6 : Hid (F < w6.heap.size ∧ H < w6.heap.size ∧ P < w6.heap.size) := by have := hk6.size; show _ ∧ _; omega
          have HST6 : Hid (Strm Tx 2 (p + 65535) (st ++ (storedB st.length false ((Tx.drop p).take (p + 65535 - p))))) := .snoc HST.out HMQ.out (by rw [show decide (p + 65535 = Tx.length) = false from by first | (simp; omega) | simp]; exact .inl rfl)
          have HNE6 : Hid (st ++ (storedB st.length false ((Tx.drop p).take (p + 65535 - p))) ≠ []) := by
            show _ ≠ _
            intro e
            have := congrArg List.length e
            rw [List.length_append] at this
            have h3 := storedB_length st.length false ((Tx.drop p).take (p + 65535 - p))
            simp only [List.length_nil] at this
            omega
          have HLN6 : Hid ((st ++ (storedB st.length false ((Tx.drop p).take (p + 65535 - p)))).length ≤ 200 * p + 10000000) := by
            show _ ≤ _
            rw [List.length_append]
            have h3 := (show (storedB st.length false ((Tx.drop p).take (p + 65535 - p))).length ≤ 600000 by rw [storedB_length, hzl, padN]; omega)
            omega
          clear hI6 hk6 hB5 hF5 hW5
          have hstep : 200 * p + 10000000 ≤ 200 * (p + 65535) := by omega
          have HLN7 : Hid (st.length + ((storedB st.length false ((Tx.drop p).take (p + 65535 - p)))).length ≤ 200 * (p + 65535)) := by
            have h9 := HLN6.out
            rw [List.length_append] at h9
            exact Nat.le_trans h9 hstep
          go_wp2
          refine ⟨.inl ⟨p + 65535, hs', bs', st ++ (storedB st.length false ((Tx.drop p).take (p + 65535 - p))), ?_, rfl, .inl ?_, HF6, hC4, HW6, HST6, ?_, HB6, HZ6⟩, ?_⟩
          · have e9 : ((p + 65535 : Nat) : Int) = (p : Int) + 65535 := by omega
            rw [e9]
          · omega
          · rw [List.length_append]; exact HLN7.out
          · simp only [leftD, intOf]; omega
        · simp only at hxs
          have hszc := hsz5
          rw [hxs] at hszc
          clear hxs
          have HHW : Hid (widF ([] : List Fd) ≤ 70000) := by show _ ≤ _; simp [widF]
          obtain ⟨Bk, Bn, Bh, Bl, Bd, e1, e2, hCA⟩ := hcw
          simp only at e1 e2
          subst e1 e2
          have hCA' := hCA.mono (T' := fun k => D4 k ∨ (wr.heap.size ≤ k ∧ k < w5.heap.size)) (by
            rw [hSd]
            rintro k (h | h)
            · exact .inr ⟨h.1, by omega⟩
            · exact .inr ⟨by omega, h.2⟩)
          have hwid := itsF_wid (codesF_ok fixLit_ok) (codesF_ok fixDist_ok) its
          have HCl : Hid (Calls Tryd.prog 70 #[.pointer (some ⟨w.heap.size, 0, none⟩), .pointer (some ⟨Bk, 0, none⟩), .pointer (some ⟨Bn, 0, none⟩), .pointer (some ⟨Bh, 0, none⟩), .pointer (some ⟨Bl, 0, none⟩), .pointer (some ⟨Bd, 0, none⟩)] w5 fun e w' => e = .returned (.tuple #[]) ∧ IsWb (fun k => D4 k ∨ (wr.heap.size ≤ k ∧ k < w5.heap.size)) w' w.heap.size (st ++ (codedB false 1 [] fixLit fixDist its)) ∧ Kept (fun k => D4 k ∨ (wr.heap.size ≤ k ∧ k < w5.heap.size)) w5 w') :=
            codedF_any _ w.heap.size wr.heap.size Bk Bn Bh Bl Bd st 1 false [] fixLit fixDist its w5 hCA' (by omega) (by simp) (by simp) hok (by omega) fixLit_ok fixDist_ok hW5 hT5 hTR (by have := HHW.out; omega)
          have hfd := field58 w5 xs (.func 70) #[] #[.pointer (some ⟨Bk, 0, none⟩), .pointer (some ⟨Bn, 0, none⟩), .pointer (some ⟨Bh, 0, none⟩), .pointer (some ⟨Bl, 0, none⟩), .pointer (some ⟨Bd, 0, none⟩)]
          have hcl := codedB_len false 1 [] fixLit fixDist its
          have hc256 : ((codesF fixLit)[256]?.getD (0, 0)).2 ≤ 32 := (getD_ok (codesF_ok fixLit_ok) (by rw [codesF_length]; have := fixLit_ok.lo; omega)).2
          go_wp2_with fail
          refine HCl.out.mono ?_
          clear HCl hfd
          rintro e w6 ⟨rfl, hI6, hk6⟩
          have HW6 : Hid (IsWb D4 w6 w.heap.size (st ++ (codedB false 1 [] fixLit fixDist its))) := hI6.mono (fun k h => .inl h)
          have HB6 : Hid (Below w.heap.size w w6) := hB5.trans ((hk6.mono (fun k (h : k < w.heap.size) => .inl (by rw [HD4.out]; exact .inl h))).below (fun _ h => h))
          have HF6 : Hid (FindAt (· < w.heap.size) F H P (some ⟨b, off, none⟩) cap m Tx hs' bs' w6) := hF5.kept hk6 (fun k h => .inl (by rw [HD4.out]; exact h))
          have HZ6 : Hid (F < w6.heap.size ∧ H < w6.heap.size ∧ P < w6.heap.size) := by have := hk6.size; show _ ∧ _; omega
          have HST6 : Hid (Strm Tx 2 (p + 65535) (st ++ (codedB false 1 [] fixLit fixDist its))) := .snoc HST.out HMQ.out (by rw [show decide (p + 65535 = Tx.length) = false from by first | (simp; omega) | simp]; exact .inr (.inl ⟨hlev, its, hIo, by first | exact hszc | (rw [Nat.add_sub_cancel_left]; exact hszc), rfl⟩))
          have HNE6 : Hid (st ++ (codedB false 1 [] fixLit fixDist its) ≠ []) := by
            show _ ≠ _
            intro e
            have := congrArg List.length e
            rw [List.length_append] at this
            have h3 := hcl
            simp only [List.length_nil] at this
            omega
          have HLN6 : Hid ((st ++ (codedB false 1 [] fixLit fixDist its)).length ≤ 200 * p + 10000000) := by
            show _ ≤ _
            rw [List.length_append]
            have h3 := (show (codedB false 1 [] fixLit fixDist its).length ≤ 9000000 by have := HHW.out; omega)
            omega
          clear hI6 hk6 hB5 hF5 hW5
          have hstep : 200 * p + 10000000 ≤ 200 * (p + 65535) := by omega
          have HLN7 : Hid (st.length + ((codedB false 1 [] fixLit fixDist its)).length ≤ 200 * (p + 65535)) := by
            have h9 := HLN6.out
            rw [List.length_append] at h9
            exact Nat.le_trans h9 hstep
          go_wp2
          refine ⟨.inl ⟨p + 65535, hs', bs', st ++ (codedB false 1 [] fixLit fixDist its), ?_, rfl, .inl ?_, HF6, hC4, HW6, HST6, ?_, HB6, HZ6⟩, ?_⟩
          · have e9 : ((p + 65535 : Nat) : Int) = (p : Int) + 65535 := by omega
            rw [e9]
          · omega
          · rw [List.length_append]; exact HLN7.out
          · simp only [leftD, intOf]; omega
        · simp only at hxs
          have hszc := hsz5
          rw [hxs] at hszc
          clear hxs
          obtain ⟨c1, hbl⟩ := hDO.bl
          obtain ⟨c2, hbd⟩ := hDO.bd
          have hlzl : zl.length = 286 := by rw [hbl.len, litF_length]; rfl
          have hlzd : zd.length = 30 := by rw [hbd.len, dstFr_length]; rfl
          have hol : LenOk zl 286 := ⟨hbl.right, by omega, by omega, getD_bd (best_top hbl (by omega))⟩
          have hod : LenOk zd 30 := ⟨hbd.right, by omega, by omega, getD_bd (best_top hbd (by omega))⟩
          have hokd := headOf_ok hDO.hd hlzl hlzd
          have HHW : Hid (widF head ≤ 70000) := by
            have := widF_le hokd.1 hokd.2 head.length
            rw [List.take_length] at this
            show _ ≤ _
            omega
          obtain ⟨Bk, Bn, Bh, Bl, Bd, e1, e2, hCA⟩ := hcw
          simp only at e1 e2
          subst e1 e2
          have hCA' := hCA.mono (T' := fun k => D4 k ∨ (wr.heap.size ≤ k ∧ k < w5.heap.size)) (by
            rw [hSd]
            rintro k (h | h)
            · exact .inr ⟨h.1, by omega⟩
            · exact .inr ⟨by omega, h.2⟩)
          have hwid := itsF_wid (codesF_ok hol) (codesF_ok hod) its
          have HCl : Hid (Calls Tryd.prog 70 #[.pointer (some ⟨w.heap.size, 0, none⟩), .pointer (some ⟨Bk, 0, none⟩), .pointer (some ⟨Bn, 0, none⟩), .pointer (some ⟨Bh, 0, none⟩), .pointer (some ⟨Bl, 0, none⟩), .pointer (some ⟨Bd, 0, none⟩)] w5 fun e w' => e = .returned (.tuple #[]) ∧ IsWb (fun k => D4 k ∨ (wr.heap.size ≤ k ∧ k < w5.heap.size)) w' w.heap.size (st ++ (codedB false 2 head zl zd its)) ∧ Kept (fun k => D4 k ∨ (wr.heap.size ≤ k ∧ k < w5.heap.size)) w5 w') :=
            codedF_any _ w.heap.size wr.heap.size Bk Bn Bh Bl Bd st 2 false head zl zd its w5 hCA' (by omega) hokd.1 hokd.2 hok (by omega) hol hod hW5 hT5 hTR (by have := HHW.out; omega)
          have hfd := field58 w5 xs (.func 70) #[] #[.pointer (some ⟨Bk, 0, none⟩), .pointer (some ⟨Bn, 0, none⟩), .pointer (some ⟨Bh, 0, none⟩), .pointer (some ⟨Bl, 0, none⟩), .pointer (some ⟨Bd, 0, none⟩)]
          have hcl := codedB_len false 2 head zl zd its
          have hc256 : ((codesF zl)[256]?.getD (0, 0)).2 ≤ 32 := (getD_ok (codesF_ok hol) (by rw [codesF_length]; have := hol.lo; omega)).2
          go_wp2_with fail
          refine HCl.out.mono ?_
          clear HCl hfd
          rintro e w6 ⟨rfl, hI6, hk6⟩
          have HW6 : Hid (IsWb D4 w6 w.heap.size (st ++ (codedB false 2 head zl zd its))) := hI6.mono (fun k h => .inl h)
          have HB6 : Hid (Below w.heap.size w w6) := hB5.trans ((hk6.mono (fun k (h : k < w.heap.size) => .inl (by rw [HD4.out]; exact .inl h))).below (fun _ h => h))
          have HF6 : Hid (FindAt (· < w.heap.size) F H P (some ⟨b, off, none⟩) cap m Tx hs' bs' w6) := hF5.kept hk6 (fun k h => .inl (by rw [HD4.out]; exact h))
          have HZ6 : Hid (F < w6.heap.size ∧ H < w6.heap.size ∧ P < w6.heap.size) := by have := hk6.size; show _ ∧ _; omega
          have HST6 : Hid (Strm Tx 2 (p + 65535) (st ++ (codedB false 2 head zl zd its))) := .snoc HST.out HMQ.out (by rw [show decide (p + 65535 = Tx.length) = false from by first | (simp; omega) | simp]; exact .inr (.inr ⟨hlev, its, zl, zd, head, hIo, hDO, by first | exact hszc | (rw [Nat.add_sub_cancel_left]; exact hszc), rfl⟩))
          have HNE6 : Hid (st ++ (codedB false 2 head zl zd its) ≠ []) := by
            show _ ≠ _
            intro e
            have := congrArg List.length e
            rw [List.length_append] at this
            have h3 := hcl
            simp only [List.length_nil] at this
            omega
          have HLN6 : Hid ((st ++ (codedB false 2 head zl zd its)).length ≤ 200 * p + 10000000) := by
            show _ ≤ _
            rw [List.length_append]
            have h3 := (show (codedB false 2 head zl zd its).length ≤ 9000000 by have := HHW.out; omega)
            omega
          clear hI6 hk6 hB5 hF5 hW5
          have hstep : 200 * p + 10000000 ≤ 200 * (p + 65535) := by omega
          have HLN7 : Hid (st.length + ((codedB false 2 head zl zd its)).length ≤ 200 * (p + 65535)) := by
            have h9 := HLN6.out
            rw [List.length_append] at h9
            exact Nat.le_trans h9 hstep
          go_wp2
          refine ⟨.inl ⟨p + 65535, hs', bs', st ++ (codedB false 2 head zl zd its), ?_, rfl, .inl ?_, HF6, hC4, HW6, HST6, ?_, HB6, HZ6⟩, ?_⟩
          · have e9 : ((p + 65535 : Nat) : Int) = (p : Int) + 65535 := by omega
            rw [e9]
          · omega
          · rw [List.length_append]; exact HLN7.out
          · simp only [leftD, intOf]; omega
      · have hh1 : p + 65535 ≤ Tx.length := by omega
        have hh2 : Tx.length ≤ p + 65535 := by omega
        clear htri
        have t2 : ¬ (p : Int) + 65535 < (Tx.length : Int) := by omega
        have t2b : ¬ (Tx.length : Int) < (p : Int) + 65535 := by omega
        have t3 : ((p : Int) + 65535 == (Tx.length : Int)) = true := by simp; omega
        have hq1 : p ≤ p + 65535 := by omega
        have hq2 : p + 65535 ≤ Tx.length := by omega
        have hqp : p + 65535 - p ≤ 65535 := by omega
        have HMQ : Hid (p + 65535 = min (p + 65535) Tx.length) := by show _ = _; omega
        have HLQ : Hid (decide (p + 65535 = Tx.length) = true) := by show _ = _; first | (simp; omega) | simp
        have HQI : Hid (((p + 65535 : Nat) : Int) = (p : Int) + 65535) := by show _ = _; omega
        have t4 : (p : Int) ≤ (p : Int) + 65535 := by omega
        have t5 : (p : Int) + 65535 ≤ (cap : Int) := by omega
        go_wp2_with fail
        generalize hwK : wr.alloc (.cells #[.slice (some ⟨b, off + p, none⟩) 65535 (cap - p), .bool true, .slice none 0 0, .slice none 0 0, .slice none 0 0, .int .i64 0] 51) = wK
        have bK : Below wr.heap.size wr wK := by subst hwK; exact (Below.refl _ wr).alloc (Nat.le_refl _) _
        have rK : Row wK wr.heap.size 51 #[.slice (some ⟨b, off + p, none⟩) 65535 (cap - p), .bool true, .slice none 0 0, .slice none 0 0, .slice none 0 0, .int .i64 0] := by subst hwK; exact Row.new wr 51 _
        have zK := rK.lt
        have H3 : Hid (Calls Tryd.prog 19 #[.pointer (some ⟨F, 0, none⟩), .int .i64 (p : Int), .int .i64 ((p : Int) + 65535)] wK fun e w' => e = .returned (.func (.func 32) #[] #[.pointer (some ⟨wK.heap.size + 1, 0, none⟩), .pointer (some ⟨wK.heap.size + 1 + 1, 0, none⟩), .pointer (some ⟨wK.heap.size, 0, none⟩)]) ∧ w' = ((wK.alloc (.cells #[.pointer (some ⟨F, 0, none⟩)] 48)).alloc (.cells #[.int .i64 (p : Int)] 3)).alloc (.cells #[.int .i64 ((p : Int) + 65535)] 3)) := by
          have := items_any F p (p + 65535) wK
          first | exact this | (rw [HQI.out] at this; exact this)
        clear hwK
        refine H3.out.mono ?_
        clear H3
        rintro e w3 ⟨rfl, hw3⟩
        have s3 : wK.heap.size + 3 = w3.heap.size := by rw [hw3]; simp
        have b3 : Below wK.heap.size wK w3 := hw3 ▸ (((Below.refl _ wK).alloc (Nat.le_refl _) _).alloc (by simp) _).alloc (by simp; omega) _
        have x0 : Row w3 wK.heap.size 48 #[.pointer (some ⟨F, 0, none⟩)] := hw3 ▸ ((Row.new wK 48 _).alloc _).alloc _
        have x1 : Row w3 (wK.heap.size + 1) 3 #[.int .i64 (p : Int)] := by
          have := (Row.new (wK.alloc (.cells #[.pointer (some ⟨F, 0, none⟩)] 48)) 3 #[.int .i64 (p : Int)]).alloc (.cells #[.int .i64 ((p : Int) + 65535)] 3)
          rw [World.size_alloc] at this
          rw [hw3]
          exact this
        have x2 : Row w3 (wK.heap.size + 1 + 1) 3 #[.int .i64 ((p : Int) + 65535)] := by
          have := Row.new ((wK.alloc (.cells #[.pointer (some ⟨F, 0, none⟩)] 48)).alloc (.cells #[.int .i64 (p : Int)] 3)) 3 #[.int .i64 ((p : Int) + 65535)]
          rw [World.size_alloc, World.size_alloc] at this
          rw [hw3]
          exact this
        clear hw3
        have S3 : Hid (wK.heap.size + 3 = w3.heap.size) := s3
        have s3' : wK.heap.size < w3.heap.size := by omega
        clear s3
        have b03 : Below wr.heap.size wr w3 := bK.trans (b3.mono (by omega))
        have rK3 := rK.below b3 zK
        have HZ2 := HZ.out
        have HBs := HB.out.size
        have HRN2 := HRN.out
        have H4 : Hid (Calls Tryd.prog 18 #[.pointer (some ⟨wr.heap.size, 0, none⟩), .func (.func 32) #[] #[.pointer (some ⟨wK.heap.size + 1, 0, none⟩), .pointer (some ⟨wK.heap.size + 1 + 1, 0, none⟩), .pointer (some ⟨wK.heap.size, 0, none⟩)]] w3 fun e w' => e = .returned (.tuple #[]) ∧ ∃ its LB DB own, (p + told its = p + 65535 ∧ ∃ hs bs, FindAt (· < w.heap.size) F H P (some ⟨b, off, none⟩) cap m Tx hs bs w' ∧ ChainOk Tx m (p + 65535) hs bs) ∧ CtI Tx p (p + 65535) w3 wr.heap.size LB DB (.slice (some ⟨b, off + p, none⟩) 65535 (cap - p)) true (fun k => k = H ∨ k = P) its own w') := by
          refine callsIn_wide.1 (bcount_any (fun k => k = H ∨ k = P) (fun k => ((k < w.heap.size) ∨ k = F ∨ k = H ∨ k = P) ∨ k = wK.heap.size + 1 ∨ k = wK.heap.size + 1 + 1 ∨ k = wK.heap.size) Tx p (p + 65535) (by omega) (fun xs V => p + told xs = p + 65535 ∧ ∃ hs bs, FindAt (· < w.heap.size) F H P (some ⟨b, off, none⟩) cap m Tx hs bs V ∧ ChainOk Tx m (p + 65535) hs bs) wr.heap.size _ true _ w3 ?_ ?_ ?_ ?_ rK3 (fun pre r h => itOk_of hT h) ?_ ?_)
          · rintro k (rfl | rfl) <;> omega
          · have := S3.out
            rintro k ((h | rfl | rfl | rfl) | rfl | rfl | rfl) <;> omega
          · rintro (h | h) <;> omega
          · rintro ((h | h | h | h) | h | h | h) <;> omega
          · rintro xs V V' ⟨e, hs, bs, h1, h2⟩ hk
            exact ⟨e, hs, bs, h1.kept hk (by
              rintro k (h | rfl | rfl | rfl)
              · have : k < w.heap.size := h; exact ⟨by omega, by omega⟩
              · exact ⟨by omega, by omega⟩
              · exact ⟨by omega, by omega⟩
              · exact ⟨by omega, by omega⟩), h2⟩
          · intro W hkW
            have hFW := (HF.out.kept (Kept.of_below (S := fun k => k < wr.heap.size) b03 (fun _ h => h)) (by
              rintro k (h | rfl | rfl | rfl)
              · have : k < w.heap.size := h; show k < _; omega
              · show _ < _; omega
              · show _ < _; omega
              · show _ < _; omega)).kept hkW (by
              rintro k (h | rfl | rfl | rfl)
              · have : k < w.heap.size := h; exact ⟨by omega, by omega⟩
              · exact ⟨by omega, by omega⟩
              · exact ⟨by omega, by omega⟩
              · exact ⟨by omega, by omega⟩)
            have hsW := hkW.size
            exact items_seqP 7 (· < w.heap.size) F H P (wK.heap.size + 1) (wK.heap.size + 1 + 1) wK.heap.size (some ⟨b, off, none⟩) cap m Tx hs bs p (p + 65535) hq1 hq2 hm1 (by omega) hT HC.out W (by
              rintro k (h | rfl | rfl | rfl)
              · have : k < w.heap.size := h; omega
              · omega
              · omega
              · omega) (by have := S3.out; omega) (by omega) hFW ((x1.kept hkW ⟨by have := S3.out; omega, by omega⟩).cell rfl) (by first | exact (x2.kept hkW ⟨by have := S3.out; omega, by omega⟩).cell rfl | (rw [HQI.out]; exact (x2.kept hkW ⟨by have := S3.out; omega, by omega⟩).cell rfl)) ((x0.kept hkW ⟨by omega, by omega⟩).cell rfl)
        clear x0 x1 x2 rK rK3 HF HC HZ2 HRN2
        go_wp2_with fail
        refine H4.out.mono ?_
        clear H4
        rintro e w4 ⟨rfl, its, LB, DB, own, ⟨htold, hs', bs', hF4, hC4⟩, hCt⟩
        obtain ⟨iv, g1, g2, gL, gD, gO, gK, gI, ⟨gne, gLB, gDB⟩, gown⟩ := hCt
        obtain ⟨⟨gu, cu, rfl⟩, gOw⟩ := gO
        have s4 := gK.size
        have S3e := S3.out
        obtain ⟨S, hSd⟩ : ∃ S : Nat → Prop, S = fun k => wr.heap.size ≤ k ∧ k < w4.heap.size := ⟨_, rfl⟩
        have hSw : ∀ k, S k → k < w4.heap.size := fun k h => by rw [hSd] at h; exact h.2
        have hil := told_ge its
        have HIL : Hid (its.length ≤ 65535) := by show _ ≤ _; omega
        have hBlk : BlkAt S w4 wr.heap.size (.slice (some ⟨b, off + p, none⟩) 65535 (cap - p)) true its (litF its lit0) (dstFr its dst0) (extN its) := by
          have hlf : (litF its lit0).length = 286 := by rw [litF_length]; rfl
          have hld : (dstFr its dst0).length = 30 := by rw [dstFr_length]; rfl
          refine ⟨⟨gu, cu, LB, DB, by rw [hlf, hld]; exact g1, ?_, by rw [hSd]; exact ⟨by omega, gL.lt⟩, by rw [hSd]; exact ⟨by omega, gD.lt⟩, gL, gD⟩, by rw [hSd]; exact ⟨Nat.le_refl _, g1.lt⟩, hlf, hld, upto_mem (litF_upto its lit0 1 lit0_upto) (by omega), upto_mem (dstFr_upto its dst0 1 dst0_upto) (by omega), by have := extN_le its; omega⟩
          rcases gOw.2 with ⟨e, h0⟩ | ⟨g, cp, cur, e, hb, hgb, _⟩
          · exact .inl (List.eq_nil_of_length_eq_zero h0)
          · simp only [Value.slice.injEq] at e
            obtain ⟨rfl, _, _⟩ := e
            refine .inr ⟨g, 0, rfl, by rw [hSd]; exact ⟨by omega, (Array.getElem?_eq_some_iff.1 hgb).1⟩, fun j r hr => ?_⟩
            obtain ⟨c0, c1, c2⟩ := itCells_at its j r hr
            have d0 := gOw.cells (g := g) rfl _ _ c0
            have d1 := gOw.cells (g := g) rfl _ _ c1
            have d2 := gOw.cells (g := g) rfl _ _ c2
            rw [Go.WideShapes.add_plain] at d0 d1 d2
            exact ⟨d0, by rw [Nat.add_assoc]; exact d1, by rw [Nat.add_assoc]; exact d2⟩
        have hk34 : Kept (fun k => k < wr.heap.size ∧ k ≠ H ∧ k ≠ P) w3 w4 := gK.mono (fun k h => ⟨by omega, by omega, by rintro (e | e); exact h.2.1 e; exact h.2.2 e⟩)
        have hkr4 : Kept (fun k => k < wr.heap.size ∧ k ≠ H ∧ k ≠ P) wr w4 := (Kept.of_below b03 (fun k h => h.1)).trans hk34
        obtain ⟨yw, ⟨gw, cw, w1', w2', w3'⟩, wpk⟩ := HW.out
        have HRN2 := HRN.out
        have hRw := w1'.lt
        have twR : Two w4 w.heap.size 72 (.slice gw yw.length cw) (.int .i64 st.length) := w1'.kept hkr4 ⟨hRw, by omega, by omega⟩
        have HLn : Hid (Calls Tryd.prog 21 #[.pointer (some ⟨w.heap.size, 0, none⟩)] w4 fun e w' => e = .returned (.int .i64 (st.length : Int)) ∧ w' = w4) := len_any w.heap.size _ st.length w4 twR
        have hB4 : Below w.heap.size w w4 := HB.out.trans ((hkr4.mono (fun k (h : k < w.heap.size) => ⟨by omega, by omega, by omega⟩)).below (fun _ h => h))
        have HCp : Hid (Calls Tryd.prog 20 #[.pointer (some ⟨wr.heap.size, 0, none⟩), .int .i64 2, .int .i64 (st.length : Int)] w4 _) := cheapest2_any S wr.heap.size st.length (some ⟨b, off + p, none⟩) (65535) (cap - p) true its (litF its lit0) (dstFr its dst0) (extN its) w4 hSw hBlk (HO.out.kept (Kept.of_below (S := fun k => k < w.heap.size) hB4 (fun _ h => h)) HO.out.1) (by omega) (by omega)
        go_wp2_with fail
        refine HLn.out.mono ?_
        clear HLn
        rintro e w4' ⟨rfl, hww⟩
        obtain rfl := hww.symm
        clear hww
        go_wp2_with fail
        refine HCp.out.mono ?_
        clear HCp
        rintro e w5 ⟨⟨xs, xf, xc⟩, rfl, hCh, hb5⟩
        have s5 := hb5.size
        have HZe := HZ.out
        have hkr5 : Kept (fun k => k < wr.heap.size ∧ k ≠ H ∧ k ≠ P) wr w5 := hkr4.trans (Kept.of_below hb5 (fun k h => by omega))
        have hB5 : Below w.heap.size w w5 := hB4.trans (hb5.mono (by omega))
        have hF5 : FindAt (· < w.heap.size) F H P (some ⟨b, off, none⟩) cap m Tx hs' bs' w5 := hF4.kept (Kept.of_below (S := fun k => k < w4.heap.size) hb5 (fun _ h => h)) (by
          rintro k (h | rfl | rfl | rfl)
          · have : k < w.heap.size := h; show k < _; omega
          · show _ < _; omega
          · show _ < _; omega
          · show _ < _; omega)
        have hW5 := HW.out.carry (w5 := w5) hkr5 (by rw [HD4.out]; exact .inr (.inr (.inl rfl))) (by rw [HD4.out]; exact .inr (.inr (.inr rfl))) HRN2.2.1 HRN2.2.2.1
        obtain ⟨T5, hT5d⟩ : ∃ T5 : Nat → Prop, T5 = fun k => D4 k ∨ (wr.heap.size ≤ k ∧ k < w5.heap.size) := ⟨_, rfl⟩
        have hT5 : ∀ k, (D4 k ∨ (wr.heap.size ≤ k ∧ k < w5.heap.size)) → k < w5.heap.size := by
          rw [HD4.out]
          rintro k ((h | h | h | h) | h) <;> omega
        have hTR : ¬ (D4 w.heap.size ∨ (wr.heap.size ≤ w.heap.size ∧ w.heap.size < w5.heap.size)) := by
          rw [HD4.out]
          rintro ((h | h | h | h) | h) <;> omega
        have hIo : ItsOf Tx p (p + 65535) its := ⟨htold, gI⟩
        have hok : ∀ r ∈ its, ItOk r := fun r hr => by
          obtain ⟨i, hi, rfl⟩ := List.getElem_of_mem hr
          exact itOk_of hT (gI i _ (List.getElem?_eq_getElem hi))
        have HILo := HIL.out
        have rK5 := g1.below hb5 g1.lt
        have k50 := rK5.cell (i := 0) rfl
        have k51 := rK5.cell (i := 1) rfl
        clear rK5
        clear hkr4 hkr5 hB4 hF4 hBlk twR g1 g2 gL gD gOw gK hb5 hk34 bK b3 b03 w1' w2' w3' HZ
        obtain ⟨hsz5, hcs⟩ := hCh
        simp only at hsz5
        have kc0 : w5.cell? ⟨wr.heap.size, 0, none⟩ = some (.slice (some ⟨b, off + p, none⟩) 65535 (cap - p)) := k50
        have kc1 : w5.cell? ⟨wr.heap.size, 1, none⟩ = some (.bool true) := k51
        rcases hcs with ⟨hxs, hst⟩ | ⟨hlev, hxs, hcw⟩ | ⟨zl, zd, head, hlev, hDO, hxs, hcw⟩
        · clear hxs
          obtain ⟨B, e1, e2, hB1, hB2, hB3⟩ := hst
          simp only at e1 e2
          subst e1 e2
          have hzl : ((Tx.drop p).take (p + 65535 - p)).length = 65535 := by rw [List.length_take, List.length_drop]; omega
          have HCl : Hid (Calls Tryd.prog 51 #[.pointer (some ⟨w.heap.size, 0, none⟩), .pointer (some ⟨B, 0, none⟩)] w5 fun e w' => e = .returned (.tuple #[]) ∧ IsWb (fun k => D4 k ∨ (wr.heap.size ≤ k ∧ k < w5.heap.size)) w' w.heap.size (st ++ (storedB st.length true ((Tx.drop p).take (p + 65535 - p)))) ∧ Kept (fun k => D4 k ∨ (wr.heap.size ≤ k ∧ k < w5.heap.size)) w5 w') :=
            storedF_bits _ B wr.heap.size w.heap.size st true (some ⟨b, off + p, none⟩) (cap - p) ((Tx.drop p).take (p + 65535 - p)) w5 hB3 (by rw [hzl]; exact kc0) kc1 (.inr ⟨by omega, hB2⟩) (.inr ⟨Nat.le_refl _, by omega⟩) (fun h => by cases h) (by rw [hzl]; exact (part_in HI.out p (p + 65535) hq1 hq2 hzl hB5).mono (fun k h => .inl (by rw [HD4.out]; exact .inl h))) (part_bytes hT p (p + 65535)) (by omega) hW5 hT5 hTR (by omega)
          have hfd := field58 w5 xs (.func 51) #[] #[.pointer (some ⟨B, 0, none⟩)]
          go_wp2_with fail
          refine HCl.out.mono ?_
          clear HCl hfd
          rintro e w6 ⟨rfl, hI6, hk6⟩
          have HW6 : Hid (IsWb D4 w6 w.heap.size (st ++ (storedB st.length true ((Tx.drop p).take (p + 65535 - p))))) := hI6.mono (fun k h => .inl h)
          have HB6 : Hid (Below w.heap.size w w6) := hB5.trans ((hk6.mono (fun k (h : k < w.heap.size) => .inl (by rw [HD4.out]; exact .inl h))).below (fun _ h => h))
          have HF6 : Hid (FindAt (· < w.heap.size) F H P (some ⟨b, off, none⟩) cap m Tx hs' bs' w6) := hF5.kept hk6 (fun k h => .inl (by rw [HD4.out]; exact h))
          have HZ6 : Hid (F < w6.heap.size ∧ H < w6.heap.size ∧ P < w6.heap.size) := by have := hk6.size; show _ ∧ _; omega
          have HST6 : Hid (Strm Tx 2 (p + 65535) (st ++ (storedB st.length true ((Tx.drop p).take (p + 65535 - p))))) := .snoc HST.out HMQ.out (by rw [show decide (p + 65535 = Tx.length) = true from by first | (simp; omega) | simp]; exact .inl rfl)
          have HNE6 : Hid (st ++ (storedB st.length true ((Tx.drop p).take (p + 65535 - p))) ≠ []) := by
            show _ ≠ _
            intro e
            have := congrArg List.length e
            rw [List.length_append] at this
            have h3 := storedB_length st.length true ((Tx.drop p).take (p + 65535 - p))
            simp only [List.length_nil] at this
            omega
          have HLN6 : Hid ((st ++ (storedB st.length true ((Tx.drop p).take (p + 65535 - p)))).length ≤ 200 * p + 10000000) := by
            show _ ≤ _
            rw [List.length_append]
            have h3 := (show (storedB st.length true ((Tx.drop p).take (p + 65535 - p))).length ≤ 600000 by rw [storedB_length, hzl, padN]; omega)
            omega
          clear hI6 hk6 hB5 hF5 hW5
          go_wp2
          exact ⟨.inr ⟨_, _, rfl, rfl, HW6, ⟨by first | exact HST6.out | (rw [show Tx.length = p + 65535 by omega]; exact HST6.out), HNE6.out⟩, (by have := HLN6.out; omega), HB6⟩, by simp [leftD]⟩
        · simp only at hxs
          have hszc := hsz5
          rw [hxs] at hszc
          clear hxs
          have HHW : Hid (widF ([] : List Fd) ≤ 70000) := by show _ ≤ _; simp [widF]
          obtain ⟨Bk, Bn, Bh, Bl, Bd, e1, e2, hCA⟩ := hcw
          simp only at e1 e2
          subst e1 e2
          have hCA' := hCA.mono (T' := fun k => D4 k ∨ (wr.heap.size ≤ k ∧ k < w5.heap.size)) (by
            rw [hSd]
            rintro k (h | h)
            · exact .inr ⟨h.1, by omega⟩
            · exact .inr ⟨by omega, h.2⟩)
          have hwid := itsF_wid (codesF_ok fixLit_ok) (codesF_ok fixDist_ok) its
          have HCl : Hid (Calls Tryd.prog 70 #[.pointer (some ⟨w.heap.size, 0, none⟩), .pointer (some ⟨Bk, 0, none⟩), .pointer (some ⟨Bn, 0, none⟩), .pointer (some ⟨Bh, 0, none⟩), .pointer (some ⟨Bl, 0, none⟩), .pointer (some ⟨Bd, 0, none⟩)] w5 fun e w' => e = .returned (.tuple #[]) ∧ IsWb (fun k => D4 k ∨ (wr.heap.size ≤ k ∧ k < w5.heap.size)) w' w.heap.size (st ++ (codedB true 1 [] fixLit fixDist its)) ∧ Kept (fun k => D4 k ∨ (wr.heap.size ≤ k ∧ k < w5.heap.size)) w5 w') :=
            codedF_any _ w.heap.size wr.heap.size Bk Bn Bh Bl Bd st 1 true [] fixLit fixDist its w5 hCA' (by omega) (by simp) (by simp) hok (by omega) fixLit_ok fixDist_ok hW5 hT5 hTR (by have := HHW.out; omega)
          have hfd := field58 w5 xs (.func 70) #[] #[.pointer (some ⟨Bk, 0, none⟩), .pointer (some ⟨Bn, 0, none⟩), .pointer (some ⟨Bh, 0, none⟩), .pointer (some ⟨Bl, 0, none⟩), .pointer (some ⟨Bd, 0, none⟩)]
          have hcl := codedB_len true 1 [] fixLit fixDist its
          have hc256 : ((codesF fixLit)[256]?.getD (0, 0)).2 ≤ 32 := (getD_ok (codesF_ok fixLit_ok) (by rw [codesF_length]; have := fixLit_ok.lo; omega)).2
          go_wp2_with fail
          refine HCl.out.mono ?_
          clear HCl hfd
          rintro e w6 ⟨rfl, hI6, hk6⟩
          have HW6 : Hid (IsWb D4 w6 w.heap.size (st ++ (codedB true 1 [] fixLit fixDist its))) := hI6.mono (fun k h => .inl h)
          have HB6 : Hid (Below w.heap.size w w6) := hB5.trans ((hk6.mono (fun k (h : k < w.heap.size) => .inl (by rw [HD4.out]; exact .inl h))).below (fun _ h => h))
          have HF6 : Hid (FindAt (· < w.heap.size) F H P (some ⟨b, off, none⟩) cap m Tx hs' bs' w6) := hF5.kept hk6 (fun k h => .inl (by rw [HD4.out]; exact h))
          have HZ6 : Hid (F < w6.heap.size ∧ H < w6.heap.size ∧ P < w6.heap.size) := by have := hk6.size; show _ ∧ _; omega
          have HST6 : Hid (Strm Tx 2 (p + 65535) (st ++ (codedB true 1 [] fixLit fixDist its))) := .snoc HST.out HMQ.out (by rw [show decide (p + 65535 = Tx.length) = true from by first | (simp; omega) | simp]; exact .inr (.inl ⟨hlev, its, hIo, by first | exact hszc | (rw [Nat.add_sub_cancel_left]; exact hszc), rfl⟩))
          have HNE6 : Hid (st ++ (codedB true 1 [] fixLit fixDist its) ≠ []) := by
            show _ ≠ _
            intro e
            have := congrArg List.length e
            rw [List.length_append] at this
            have h3 := hcl
            simp only [List.length_nil] at this
            omega
          have HLN6 : Hid ((st ++ (codedB true 1 [] fixLit fixDist its)).length ≤ 200 * p + 10000000) := by
            show _ ≤ _
            rw [List.length_append]
            have h3 := (show (codedB true 1 [] fixLit fixDist its).length ≤ 9000000 by have := HHW.out; omega)
            omega
          clear hI6 hk6 hB5 hF5 hW5
          go_wp2
          exact ⟨.inr ⟨_, _, rfl, rfl, HW6, ⟨by first | exact HST6.out | (rw [show Tx.length = p + 65535 by omega]; exact HST6.out), HNE6.out⟩, (by have := HLN6.out; omega), HB6⟩, by simp [leftD]⟩
        · simp only at hxs
          have hszc := hsz5
          rw [hxs] at hszc
          clear hxs
          obtain ⟨c1, hbl⟩ := hDO.bl
          obtain ⟨c2, hbd⟩ := hDO.bd
          have hlzl : zl.length = 286 := by rw [hbl.len, litF_length]; rfl
          have hlzd : zd.length = 30 := by rw [hbd.len, dstFr_length]; rfl
          have hol : LenOk zl 286 := ⟨hbl.right, by omega, by omega, getD_bd (best_top hbl (by omega))⟩
          have hod : LenOk zd 30 := ⟨hbd.right, by omega, by omega, getD_bd (best_top hbd (by omega))⟩
          have hokd := headOf_ok hDO.hd hlzl hlzd
          have HHW : Hid (widF head ≤ 70000) := by
            have := widF_le hokd.1 hokd.2 head.length
            rw [List.take_length] at this
            show _ ≤ _
            omega
          obtain ⟨Bk, Bn, Bh, Bl, Bd, e1, e2, hCA⟩ := hcw
          simp only at e1 e2
          subst e1 e2
          have hCA' := hCA.mono (T' := fun k => D4 k ∨ (wr.heap.size ≤ k ∧ k < w5.heap.size)) (by
            rw [hSd]
            rintro k (h | h)
            · exact .inr ⟨h.1, by omega⟩
            · exact .inr ⟨by omega, h.2⟩)
          have hwid := itsF_wid (codesF_ok hol) (codesF_ok hod) its
          have HCl : Hid (Calls Tryd.prog 70 #[.pointer (some ⟨w.heap.size, 0, none⟩), .pointer (some ⟨Bk, 0, none⟩), .pointer (some ⟨Bn, 0, none⟩), .pointer (some ⟨Bh, 0, none⟩), .pointer (some ⟨Bl, 0, none⟩), .pointer (some ⟨Bd, 0, none⟩)] w5 fun e w' => e = .returned (.tuple #[]) ∧ IsWb (fun k => D4 k ∨ (wr.heap.size ≤ k ∧ k < w5.heap.size)) w' w.heap.size (st ++ (codedB true 2 head zl zd its)) ∧ Kept (fun k => D4 k ∨ (wr.heap.size ≤ k ∧ k < w5.heap.size)) w5 w') :=
            codedF_any _ w.heap.size wr.heap.size Bk Bn Bh Bl Bd st 2 true head zl zd its w5 hCA' (by omega) hokd.1 hokd.2 hok (by omega) hol hod hW5 hT5 hTR (by have := HHW.out; omega)
          have hfd := field58 w5 xs (.func 70) #[] #[.pointer (some ⟨Bk, 0, none⟩), .pointer (some ⟨Bn, 0, none⟩), .pointer (some ⟨Bh, 0, none⟩), .pointer (some ⟨Bl, 0, none⟩), .pointer (some ⟨Bd, 0, none⟩)]
          have hcl := codedB_len true 2 head zl zd its
          have hc256 : ((codesF zl)[256]?.getD (0, 0)).2 ≤ 32 := (getD_ok (codesF_ok hol) (by rw [codesF_length]; have := hol.lo; omega)).2
          go_wp2_with fail
          refine HCl.out.mono ?_
          clear HCl hfd
          rintro e w6 ⟨rfl, hI6, hk6⟩
          have HW6 : Hid (IsWb D4 w6 w.heap.size (st ++ (codedB true 2 head zl zd its))) := hI6.mono (fun k h => .inl h)
          have HB6 : Hid (Below w.heap.size w w6) := hB5.trans ((hk6.mono (fun k (h : k < w.heap.size) => .inl (by rw [HD4.out]; exact .inl h))).below (fun _ h => h))
          have HF6 : Hid (FindAt (· < w.heap.size) F H P (some ⟨b, off, none⟩) cap m Tx hs' bs' w6) := hF5.kept hk6 (fun k h => .inl (by rw [HD4.out]; exact h))
          have HZ6 : Hid (F < w6.heap.size ∧ H < w6.heap.size ∧ P < w6.heap.size) := by have := hk6.size; show _ ∧ _; omega
          have HST6 : Hid (Strm Tx 2 (p + 65535) (st ++ (codedB true 2 head zl zd its))) := .snoc HST.out HMQ.out (by rw [show decide (p + 65535 = Tx.length) = true from by first | (simp; omega) | simp]; exact .inr (.inr ⟨hlev, its, zl, zd, head, hIo, hDO, by first | exact hszc | (rw [Nat.add_sub_cancel_left]; exact hszc), rfl⟩))
          have HNE6 : Hid (st ++ (codedB true 2 head zl zd its) ≠ []) := by
            show _ ≠ _
            intro e
            have := congrArg List.length e
            rw [List.length_append] at this
            have h3 := hcl
            simp only [List.length_nil] at this
            omega
          have HLN6 : Hid ((st ++ (codedB true 2 head zl zd its)).length ≤ 200 * p + 10000000) := by
            show _ ≤ _
            rw [List.length_append]
            have h3 := (show (codedB true 2 head zl zd its).length ≤ 9000000 by have := HHW.out; omega)
            omega
          clear hI6 hk6 hB5 hF5 hW5
          go_wp2
          exact ⟨.inr ⟨_, _, rfl, rfl, HW6, ⟨by first | exact HST6.out | (rw [show Tx.length = p + 65535 by omega]; exact HST6.out), HNE6.out⟩, (by have := HLN6.out; omega), HB6⟩, by simp [leftD]⟩
      · have hpc : p < cap := by rcases hp with h | h <;> omega
        have t3 : ((Tx.length : Int) == (Tx.length : Int)) = true := by simp
        have t2 : ¬ ((p : Int) + 65535 < (Tx.length : Int)) := by omega
        have t2b : ¬ ((p : Int) + 65535 = (Tx.length : Int)) := by omega
        have hq1 : p ≤ Tx.length := by omega
        have hq2 : Tx.length ≤ Tx.length := by omega
        have hqp : Tx.length - p ≤ 65535 := by omega
        have HMQ : Hid (Tx.length = min (p + 65535) Tx.length) := by show _ = _; omega
        have HLQ : Hid (decide (Tx.length = Tx.length) = true) := by show _ = _; first | (simp; omega) | simp
        have HQI : Hid (((Tx.length : Nat) : Int) = (Tx.length : Int)) := by show _ = _; omega
        have t4 : (p : Int) ≤ (Tx.length : Int) := by omega
        have t5 : (Tx.length : Int) ≤ (cap : Int) := by omega
        go_wp2_with fail
        generalize hwK : wr.alloc (.cells #[.slice (some ⟨b, off + p, none⟩) (Tx.length - p) (cap - p), .bool true, .slice none 0 0, .slice none 0 0, .slice none 0 0, .int .i64 0] 51) = wK
        have bK : Below wr.heap.size wr wK := by subst hwK; exact (Below.refl _ wr).alloc (Nat.le_refl _) _
        have rK : Row wK wr.heap.size 51 #[.slice (some ⟨b, off + p, none⟩) (Tx.length - p) (cap - p), .bool true, .slice none 0 0, .slice none 0 0, .slice none 0 0, .int .i64 0] := by subst hwK; exact Row.new wr 51 _
        have zK := rK.lt
        have H3 : Hid (Calls Tryd.prog 19 #[.pointer (some ⟨F, 0, none⟩), .int .i64 (p : Int), .int .i64 ((Tx.length : Int))] wK fun e w' => e = .returned (.func (.func 32) #[] #[.pointer (some ⟨wK.heap.size + 1, 0, none⟩), .pointer (some ⟨wK.heap.size + 1 + 1, 0, none⟩), .pointer (some ⟨wK.heap.size, 0, none⟩)]) ∧ w' = ((wK.alloc (.cells #[.pointer (some ⟨F, 0, none⟩)] 48)).alloc (.cells #[.int .i64 (p : Int)] 3)).alloc (.cells #[.int .i64 ((Tx.length : Int))] 3)) := by
          have := items_any F p (Tx.length) wK
          first | exact this | (rw [HQI.out] at this; exact this)
        clear hwK
        refine H3.out.mono ?_
        clear H3
        rintro e w3 ⟨rfl, hw3⟩
        have s3 : wK.heap.size + 3 = w3.heap.size := by rw [hw3]; simp
        have b3 : Below wK.heap.size wK w3 := hw3 ▸ (((Below.refl _ wK).alloc (Nat.le_refl _) _).alloc (by simp) _).alloc (by simp; omega) _
        have x0 : Row w3 wK.heap.size 48 #[.pointer (some ⟨F, 0, none⟩)] := hw3 ▸ ((Row.new wK 48 _).alloc _).alloc _
        have x1 : Row w3 (wK.heap.size + 1) 3 #[.int .i64 (p : Int)] := by
          have := (Row.new (wK.alloc (.cells #[.pointer (some ⟨F, 0, none⟩)] 48)) 3 #[.int .i64 (p : Int)]).alloc (.cells #[.int .i64 ((Tx.length : Int))] 3)
          rw [World.size_alloc] at this
          rw [hw3]
          exact this
        have x2 : Row w3 (wK.heap.size + 1 + 1) 3 #[.int .i64 ((Tx.length : Int))] := by
          have := Row.new ((wK.alloc (.cells #[.pointer (some ⟨F, 0, none⟩)] 48)).alloc (.cells #[.int .i64 (p : Int)] 3)) 3 #[.int .i64 ((Tx.length : Int))]
          rw [World.size_alloc, World.size_alloc] at this
          rw [hw3]
          exact this
        clear hw3
        have S3 : Hid (wK.heap.size + 3 = w3.heap.size) := s3
        have s3' : wK.heap.size < w3.heap.size := by omega
        clear s3
        have b03 : Below wr.heap.size wr w3 := bK.trans (b3.mono (by omega))
        have rK3 := rK.below b3 zK
        have HZ2 := HZ.out
        have HBs := HB.out.size
        have HRN2 := HRN.out
        have H4 : Hid (Calls Tryd.prog 18 #[.pointer (some ⟨wr.heap.size, 0, none⟩), .func (.func 32) #[] #[.pointer (some ⟨wK.heap.size + 1, 0, none⟩), .pointer (some ⟨wK.heap.size + 1 + 1, 0, none⟩), .pointer (some ⟨wK.heap.size, 0, none⟩)]] w3 fun e w' => e = .returned (.tuple #[]) ∧ ∃ its LB DB own, (p + told its = Tx.length ∧ ∃ hs bs, FindAt (· < w.heap.size) F H P (some ⟨b, off, none⟩) cap m Tx hs bs w' ∧ ChainOk Tx m (Tx.length) hs bs) ∧ CtI Tx p (Tx.length) w3 wr.heap.size LB DB (.slice (some ⟨b, off + p, none⟩) (Tx.length - p) (cap - p)) true (fun k => k = H ∨ k = P) its own w') := by
          refine callsIn_wide.1 (bcount_any (fun k => k = H ∨ k = P) (fun k => ((k < w.heap.size) ∨ k = F ∨ k = H ∨ k = P) ∨ k = wK.heap.size + 1 ∨ k = wK.heap.size + 1 + 1 ∨ k = wK.heap.size) Tx p (Tx.length) (by omega) (fun xs V => p + told xs = Tx.length ∧ ∃ hs bs, FindAt (· < w.heap.size) F H P (some ⟨b, off, none⟩) cap m Tx hs bs V ∧ ChainOk Tx m (Tx.length) hs bs) wr.heap.size _ true _ w3 ?_ ?_ ?_ ?_ rK3 (fun pre r h => itOk_of hT h) ?_ ?_)
          · rintro k (rfl | rfl) <;> omega
          · have := S3.out
            rintro k ((h | rfl | rfl | rfl) | rfl | rfl | rfl) <;> omega
          · rintro (h | h) <;> omega
          · rintro ((h | h | h | h) | h | h | h) <;> omega
          · rintro xs V V' ⟨e, hs, bs, h1, h2⟩ hk
            exact ⟨e, hs, bs, h1.kept hk (by
              rintro k (h | rfl | rfl | rfl)
              · have : k < w.heap.size := h; exact ⟨by omega, by omega⟩
              · exact ⟨by omega, by omega⟩
              · exact ⟨by omega, by omega⟩
              · exact ⟨by omega, by omega⟩), h2⟩
          · intro W hkW
            have hFW := (HF.out.kept (Kept.of_below (S := fun k => k < wr.heap.size) b03 (fun _ h => h)) (by
              rintro k (h | rfl | rfl | rfl)
              · have : k < w.heap.size := h; show k < _; omega
              · show _ < _; omega
              · show _ < _; omega
              · show _ < _; omega)).kept hkW (by
              rintro k (h | rfl | rfl | rfl)
              · have : k < w.heap.size := h; exact ⟨by omega, by omega⟩
              · exact ⟨by omega, by omega⟩
              · exact ⟨by omega, by omega⟩
              · exact ⟨by omega, by omega⟩)
            have hsW := hkW.size
            exact items_seqP 7 (· < w.heap.size) F H P (wK.heap.size + 1) (wK.heap.size + 1 + 1) wK.heap.size (some ⟨b, off, none⟩) cap m Tx hs bs p (Tx.length) hq1 hq2 hm1 (by omega) hT HC.out W (by
              rintro k (h | rfl | rfl | rfl)
              · have : k < w.heap.size := h; omega
              · omega
              · omega
              · omega) (by have := S3.out; omega) (by omega) hFW ((x1.kept hkW ⟨by have := S3.out; omega, by omega⟩).cell rfl) (by first | exact (x2.kept hkW ⟨by have := S3.out; omega, by omega⟩).cell rfl | (rw [HQI.out]; exact (x2.kept hkW ⟨by have := S3.out; omega, by omega⟩).cell rfl)) ((x0.kept hkW ⟨by omega, by omega⟩).cell rfl)
        clear x0 x1 x2 rK rK3 HF HC HZ2 HRN2
        go_wp2_with fail
        refine H4.out.mono ?_
        clear H4
        rintro e w4 ⟨rfl, its, LB, DB, own, ⟨htold, hs', bs', hF4, hC4⟩, hCt⟩
        obtain ⟨iv, g1, g2, gL, gD, gO, gK, gI, ⟨gne, gLB, gDB⟩, gown⟩ := hCt
        obtain ⟨⟨gu, cu, rfl⟩, gOw⟩ := gO
        have s4 := gK.size
        have S3e := S3.out
        obtain ⟨S, hSd⟩ : ∃ S : Nat → Prop, S = fun k => wr.heap.size ≤ k ∧ k < w4.heap.size := ⟨_, rfl⟩
        have hSw : ∀ k, S k → k < w4.heap.size := fun k h => by rw [hSd] at h; exact h.2
        have hil := told_ge its
        have HIL : Hid (its.length ≤ 65535) := by show _ ≤ _; omega
        have hBlk : BlkAt S w4 wr.heap.size (.slice (some ⟨b, off + p, none⟩) (Tx.length - p) (cap - p)) true its (litF its lit0) (dstFr its dst0) (extN its) := by
          have hlf : (litF its lit0).length = 286 := by rw [litF_length]; rfl
          have hld : (dstFr its dst0).length = 30 := by rw [dstFr_length]; rfl
          refine ⟨⟨gu, cu, LB, DB, by rw [hlf, hld]; exact g1, ?_, by rw [hSd]; exact ⟨by omega, gL.lt⟩, by rw [hSd]; exact ⟨by omega, gD.lt⟩, gL, gD⟩, by rw [hSd]; exact ⟨Nat.le_refl _, g1.lt⟩, hlf, hld, upto_mem (litF_upto its lit0 1 lit0_upto) (by omega), upto_mem (dstFr_upto its dst0 1 dst0_upto) (by omega), by have := extN_le its; omega⟩
          rcases gOw.2 with ⟨e, h0⟩ | ⟨g, cp, cur, e, hb, hgb, _⟩
          · exact .inl (List.eq_nil_of_length_eq_zero h0)
          · simp only [Value.slice.injEq] at e
            obtain ⟨rfl, _, _⟩ := e
            refine .inr ⟨g, 0, rfl, by rw [hSd]; exact ⟨by omega, (Array.getElem?_eq_some_iff.1 hgb).1⟩, fun j r hr => ?_⟩
            obtain ⟨c0, c1, c2⟩ := itCells_at its j r hr
            have d0 := gOw.cells (g := g) rfl _ _ c0
            have d1 := gOw.cells (g := g) rfl _ _ c1
            have d2 := gOw.cells (g := g) rfl _ _ c2
            rw [Go.WideShapes.add_plain] at d0 d1 d2
            exact ⟨d0, by rw [Nat.add_assoc]; exact d1, by rw [Nat.add_assoc]; exact d2⟩
        have hk34 : Kept (fun k => k < wr.heap.size ∧ k ≠ H ∧ k ≠ P) w3 w4 := gK.mono (fun k h => ⟨by omega, by omega, by rintro (e | e); exact h.2.1 e; exact h.2.2 e⟩)
        have hkr4 : Kept (fun k => k < wr.heap.size ∧ k ≠ H ∧ k ≠ P) wr w4 := (Kept.of_below b03 (fun k h => h.1)).trans hk34
        obtain ⟨yw, ⟨gw, cw, w1', w2', w3'⟩, wpk⟩ := HW.out
        have HRN2 := HRN.out
        have hRw := w1'.lt
        have twR : Two w4 w.heap.size 72 (.slice gw yw.length cw) (.int .i64 st.length) := w1'.kept hkr4 ⟨hRw, by omega, by omega⟩
        have HLn : Hid (Calls Tryd.prog 21 #[.pointer (some ⟨w.heap.size, 0, none⟩)] w4 fun e w' => e = .returned (.int .i64 (st.length : Int)) ∧ w' = w4) := len_any w.heap.size _ st.length w4 twR
        have hB4 : Below w.heap.size w w4 := HB.out.trans ((hkr4.mono (fun k (h : k < w.heap.size) => ⟨by omega, by omega, by omega⟩)).below (fun _ h => h))
        have HCp : Hid (Calls Tryd.prog 20 #[.pointer (some ⟨wr.heap.size, 0, none⟩), .int .i64 2, .int .i64 (st.length : Int)] w4 _) := cheapest2_any S wr.heap.size st.length (some ⟨b, off + p, none⟩) (Tx.length - p) (cap - p) true its (litF its lit0) (dstFr its dst0) (extN its) w4 hSw hBlk (HO.out.kept (Kept.of_below (S := fun k => k < w.heap.size) hB4 (fun _ h => h)) HO.out.1) (by omega) (by omega)
        go_wp2_with fail
        refine HLn.out.mono ?_
        clear HLn
        rintro e w4' ⟨rfl, hww⟩
        obtain rfl := hww.symm
        clear hww
        go_wp2_with fail
        refine HCp.out.mono ?_
        clear HCp
        rintro e w5 ⟨⟨xs, xf, xc⟩, rfl, hCh, hb5⟩
        have s5 := hb5.size
        have HZe := HZ.out
        have hkr5 : Kept (fun k => k < wr.heap.size ∧ k ≠ H ∧ k ≠ P) wr w5 := hkr4.trans (Kept.of_below hb5 (fun k h => by omega))
        have hB5 : Below w.heap.size w w5 := hB4.trans (hb5.mono (by omega))
        have hF5 : FindAt (· < w.heap.size) F H P (some ⟨b, off, none⟩) cap m Tx hs' bs' w5 := hF4.kept (Kept.of_below (S := fun k => k < w4.heap.size) hb5 (fun _ h => h)) (by
          rintro k (h | rfl | rfl | rfl)
          · have : k < w.heap.size := h; show k < _; omega
          · show _ < _; omega
          · show _ < _; omega
          · show _ < _; omega)
        have hW5 := HW.out.carry (w5 := w5) hkr5 (by rw [HD4.out]; exact .inr (.inr (.inl rfl))) (by rw [HD4.out]; exact .inr (.inr (.inr rfl))) HRN2.2.1 HRN2.2.2.1
        obtain ⟨T5, hT5d⟩ : ∃ T5 : Nat → Prop, T5 = fun k => D4 k ∨ (wr.heap.size ≤ k ∧ k < w5.heap.size) := ⟨_, rfl⟩
        have hT5 : ∀ k, (D4 k ∨ (wr.heap.size ≤ k ∧ k < w5.heap.size)) → k < w5.heap.size := by
          rw [HD4.out]
          rintro k ((h | h | h | h) | h) <;> omega
        have hTR : ¬ (D4 w.heap.size ∨ (wr.heap.size ≤ w.heap.size ∧ w.heap.size < w5.heap.size)) := by
          rw [HD4.out]
          rintro ((h | h | h | h) | h) <;> omega
        have hIo : ItsOf Tx p (Tx.length) its := ⟨htold, gI⟩
        have hok : ∀ r ∈ its, ItOk r := fun r hr => by
          obtain ⟨i, hi, rfl⟩ := List.getElem_of_mem hr
          exact itOk_of hT (gI i _ (List.getElem?_eq_getElem hi))
        have HILo := HIL.out
        have rK5 := g1.below hb5 g1.lt
        have k50 := rK5.cell (i := 0) rfl
        have k51 := rK5.cell (i := 1) rfl
        clear rK5
        clear hkr4 hkr5 hB4 hF4 hBlk twR g1 g2 gL gD gOw gK hb5 hk34 bK b3 b03 w1' w2' w3' HZ
        obtain ⟨hsz5, hcs⟩ := hCh
        simp only at hsz5
        have kc0 : w5.cell? ⟨wr.heap.size, 0, none⟩ = some (.slice (some ⟨b, off + p, none⟩) (Tx.length - p) (cap - p)) := k50
        have kc1 : w5.cell? ⟨wr.heap.size, 1, none⟩ = some (.bool true) := k51
        rcases hcs with ⟨hxs, hst⟩ | ⟨hlev, hxs, hcw⟩ | ⟨zl, zd, head, hlev, hDO, hxs, hcw⟩
        · clear hxs
          obtain ⟨B, e1, e2, hB1, hB2, hB3⟩ := hst
          simp only at e1 e2
          subst e1 e2
          have hzl : ((Tx.drop p).take (Tx.length - p)).length = Tx.length - p := by rw [List.length_take, List.length_drop]; omega
          have HCl : Hid (Calls Tryd.prog 51 #[.pointer (some ⟨w.heap.size, 0, none⟩), .pointer (some ⟨B, 0, none⟩)] w5 fun e w' => e = .returned (.tuple #[]) ∧ IsWb (fun k => D4 k ∨ (wr.heap.size ≤ k ∧ k < w5.heap.size)) w' w.heap.size (st ++ (storedB st.length true ((Tx.drop p).take (Tx.length - p)))) ∧ Kept (fun k => D4 k ∨ (wr.heap.size ≤ k ∧ k < w5.heap.size)) w5 w') :=
            storedF_bits _ B wr.heap.size w.heap.size st true (some ⟨b, off + p, none⟩) (cap - p) ((Tx.drop p).take (Tx.length - p)) w5 hB3 (by rw [hzl]; exact kc0) kc1 (.inr ⟨by omega, hB2⟩) (.inr ⟨Nat.le_refl _, by omega⟩) (fun h => by cases h) (by rw [hzl]; exact (part_in HI.out p (Tx.length) hq1 hq2 hzl hB5).mono (fun k h => .inl (by rw [HD4.out]; exact .inl h))) (part_bytes hT p (Tx.length)) (by omega) hW5 hT5 hTR (by omega)
          have hfd := field58 w5 xs (.func 51) #[] #[.pointer (some ⟨B, 0, none⟩)]
          go_wp2_with fail
          refine HCl.out.mono ?_
          clear HCl hfd
          rintro e w6 ⟨rfl, hI6, hk6⟩
          have HW6 : Hid (IsWb D4 w6 w.heap.size (st ++ (storedB st.length true ((Tx.drop p).take (Tx.length - p))))) := hI6.mono (fun k h => .inl h)
          have HB6 : Hid (Below w.heap.size w w6) := hB5.trans ((hk6.mono (fun k (h : k < w.heap.size) => .inl (by rw [HD4.out]; exact .inl h))).below (fun _ h => h))
          have HF6 : Hid (FindAt (· < w.heap.size) F H P (some ⟨b, off, none⟩) cap m Tx hs' bs' w6) := hF5.kept hk6 (fun k h => .inl (by rw [HD4.out]; exact h))
          have HZ6 : Hid (F < w6.heap.size ∧ H < w6.heap.size ∧ P < w6.heap.size) := by have := hk6.size; show _ ∧ _; omega
          have HST6 : Hid (Strm Tx 2 (Tx.length) (st ++ (storedB st.length true ((Tx.drop p).take (Tx.length - p))))) := .snoc HST.out HMQ.out (by rw [show decide (Tx.length = Tx.length) = true from by first | (simp; omega) | simp]; exact .inl rfl)
          have HNE6 : Hid (st ++ (storedB st.length true ((Tx.drop p).take (Tx.length - p))) ≠ []) := by
            show _ ≠ _
            intro e
            have := congrArg List.length e
            rw [List.length_append] at this
            have h3 := storedB_length st.length true ((Tx.drop p).take (Tx.length - p))
            simp only [List.length_nil] at this
            omega
          have HLN6 : Hid ((st ++ (storedB st.length true ((Tx.drop p).take (Tx.length - p)))).length ≤ 200 * p + 10000000) := by
            show _ ≤ _
            rw [List.length_append]
            have h3 := (show (storedB st.length true ((Tx.drop p).take (Tx.length - p))).length ≤ 600000 by rw [storedB_length, hzl, padN]; omega)
            omega
          clear hI6 hk6 hB5 hF5 hW5
          go_wp2
          exact ⟨.inr ⟨_, _, rfl, rfl, HW6, ⟨by first | exact HST6.out | (rw [show Tx.length = Tx.length by omega]; exact HST6.out), HNE6.out⟩, (by have := HLN6.out; omega), HB6⟩, by simp [leftD]⟩
        · simp only at hxs
          have hszc := hsz5
          rw [hxs] at hszc
          clear hxs
          have HHW : Hid (widF ([] : List Fd) ≤ 70000) := by show _ ≤ _; simp [widF]
          obtain ⟨Bk, Bn, Bh, Bl, Bd, e1, e2, hCA⟩ := hcw
          simp only at e1 e2
          subst e1 e2
          have hCA' := hCA.mono (T' := fun k => D4 k ∨ (wr.heap.size ≤ k ∧ k < w5.heap.size)) (by
            rw [hSd]
            rintro k (h | h)
            · exact .inr ⟨h.1, by omega⟩
            · exact .inr ⟨by omega, h.2⟩)
          have hwid := itsF_wid (codesF_ok fixLit_ok) (codesF_ok fixDist_ok) its
          have HCl : Hid (Calls Tryd.prog 70 #[.pointer (some ⟨w.heap.size, 0, none⟩), .pointer (some ⟨Bk, 0, none⟩), .pointer (some ⟨Bn, 0, none⟩), .pointer (some ⟨Bh, 0, none⟩), .pointer (some ⟨Bl, 0, none⟩), .pointer (some ⟨Bd, 0, none⟩)] w5 fun e w' => e = .returned (.tuple #[]) ∧ IsWb (fun k => D4 k ∨ (wr.heap.size ≤ k ∧ k < w5.heap.size)) w' w.heap.size (st ++ (codedB true 1 [] fixLit fixDist its)) ∧ Kept (fun k => D4 k ∨ (wr.heap.size ≤ k ∧ k < w5.heap.size)) w5 w') :=
            codedF_any _ w.heap.size wr.heap.size Bk Bn Bh Bl Bd st 1 true [] fixLit fixDist its w5 hCA' (by omega) (by simp) (by simp) hok (by omega) fixLit_ok fixDist_ok hW5 hT5 hTR (by have := HHW.out; omega)
          have hfd := field58 w5 xs (.func 70) #[] #[.pointer (some ⟨Bk, 0, none⟩), .pointer (some ⟨Bn, 0, none⟩), .pointer (some ⟨Bh, 0, none⟩), .pointer (some ⟨Bl, 0, none⟩), .pointer (some ⟨Bd, 0, none⟩)]
          have hcl := codedB_len true 1 [] fixLit fixDist its
          have hc256 : ((codesF fixLit)[256]?.getD (0, 0)).2 ≤ 32 := (getD_ok (codesF_ok fixLit_ok) (by rw [codesF_length]; have := fixLit_ok.lo; omega)).2
          go_wp2_with fail
          refine HCl.out.mono ?_
          clear HCl hfd
          rintro e w6 ⟨rfl, hI6, hk6⟩
          have HW6 : Hid (IsWb D4 w6 w.heap.size (st ++ (codedB true 1 [] fixLit fixDist its))) := hI6.mono (fun k h => .inl h)
          have HB6 : Hid (Below w.heap.size w w6) := hB5.trans ((hk6.mono (fun k (h : k < w.heap.size) => .inl (by rw [HD4.out]; exact .inl h))).below (fun _ h => h))
          have HF6 : Hid (FindAt (· < w.heap.size) F H P (some ⟨b, off, none⟩) cap m Tx hs' bs' w6) := hF5.kept hk6 (fun k h => .inl (by rw [HD4.out]; exact h))
          have HZ6 : Hid (F < w6.heap.size ∧ H < w6.heap.size ∧ P < w6.heap.size) := by have := hk6.size; show _ ∧ _; omega
          have HST6 : Hid (Strm Tx 2 (Tx.length) (st ++ (codedB true 1 [] fixLit fixDist its))) := .snoc HST.out HMQ.out (by rw [show decide (Tx.length = Tx.length) = true from by first | (simp; omega) | simp]; exact .inr (.inl ⟨hlev, its, hIo, by first | exact hszc | (rw [Nat.add_sub_cancel_left]; exact hszc), rfl⟩))
          have HNE6 : Hid (st ++ (codedB true 1 [] fixLit fixDist its) ≠ []) := by
            show _ ≠ _
            intro e
            have := congrArg List.length e
            rw [List.length_append] at this
            have h3 := hcl
            simp only [List.length_nil] at this
            omega
          have HLN6 : Hid ((st ++ (codedB true 1 [] fixLit fixDist its)).length ≤ 200 * p + 10000000) := by
            show _ ≤ _
            rw [List.length_append]
            have h3 := (show (codedB true 1 [] fixLit fixDist its).length ≤ 9000000 by have := HHW.out; omega)
            omega
          clear hI6 hk6 hB5 hF5 hW5
          go_wp2
          exact ⟨.inr ⟨_, _, rfl, rfl, HW6, ⟨by first | exact HST6.out | (rw [show Tx.length = Tx.length by omega]; exact HST6.out), HNE6.out⟩, (by have := HLN6.out; omega), HB6⟩, by simp [leftD]⟩
        · simp only at hxs
          have hszc := hsz5
          rw [hxs] at hszc
          clear hxs
          obtain ⟨c1, hbl⟩ := hDO.bl
          obtain ⟨c2, hbd⟩ := hDO.bd
          have hlzl : zl.length = 286 := by rw [hbl.len, litF_length]; rfl
          have hlzd : zd.length = 30 := by rw [hbd.len, dstFr_length]; rfl
          have hol : LenOk zl 286 := ⟨hbl.right, by omega, by omega, getD_bd (best_top hbl (by omega))⟩
          have hod : LenOk zd 30 := ⟨hbd.right, by omega, by omega, getD_bd (best_top hbd (by omega))⟩
          have hokd := headOf_ok hDO.hd hlzl hlzd
          have HHW : Hid (widF head ≤ 70000) := by
            have := widF_le hokd.1 hokd.2 head.length
            rw [List.take_length] at this
            show _ ≤ _
            omega
          obtain ⟨Bk, Bn, Bh, Bl, Bd, e1, e2, hCA⟩ := hcw
          simp only at e1 e2
          subst e1 e2
          have hCA' := hCA.mono (T' := fun k => D4 k ∨ (wr.heap.size ≤ k ∧ k < w5.heap.size)) (by
            rw [hSd]
            rintro k (h | h)
            · exact .inr ⟨h.1, by omega⟩
            · exact .inr ⟨by omega, h.2⟩)
          have hwid := itsF_wid (codesF_ok hol) (codesF_ok hod) its
          have HCl : Hid (Calls Tryd.prog 70 #[.pointer (some ⟨w.heap.size, 0, none⟩), .pointer (some ⟨Bk, 0, none⟩), .pointer (some ⟨Bn, 0, none⟩), .pointer (some ⟨Bh, 0, none⟩), .pointer (some ⟨Bl, 0, none⟩), .pointer (some ⟨Bd, 0, none⟩)] w5 fun e w' => e = .returned (.tuple #[]) ∧ IsWb (fun k => D4 k ∨ (wr.heap.size ≤ k ∧ k < w5.heap.size)) w' w.heap.size (st ++ (codedB true 2 head zl zd its)) ∧ Kept (fun k => D4 k ∨ (wr.heap.size ≤ k ∧ k < w5.heap.size)) w5 w') :=
            codedF_any _ w.heap.size wr.heap.size Bk Bn Bh Bl Bd st 2 true head zl zd its w5 hCA' (by omega) hokd.1 hokd.2 hok (by omega) hol hod hW5 hT5 hTR (by have := HHW.out; omega)
          have hfd := field58 w5 xs (.func 70) #[] #[.pointer (some ⟨Bk, 0, none⟩), .pointer (some ⟨Bn, 0, none⟩), .pointer (some ⟨Bh, 0, none⟩), .pointer (some ⟨Bl, 0, none⟩), .pointer (some ⟨Bd, 0, none⟩)]
          have hcl := codedB_len true 2 head zl zd its
          have hc256 : ((codesF zl)[256]?.getD (0, 0)).2 ≤ 32 := (getD_ok (codesF_ok hol) (by rw [codesF_length]; have := hol.lo; omega)).2
          go_wp2_with fail
          refine HCl.out.mono ?_
          clear HCl hfd
          rintro e w6 ⟨rfl, hI6, hk6⟩
          have HW6 : Hid (IsWb D4 w6 w.heap.size (st ++ (codedB true 2 head zl zd its))) := hI6.mono (fun k h => .inl h)
          have HB6 : Hid (Below w.heap.size w w6) := hB5.trans ((hk6.mono (fun k (h : k < w.heap.size) => .inl (by rw [HD4.out]; exact .inl h))).below (fun _ h => h))
          have HF6 : Hid (FindAt (· < w.heap.size) F H P (some ⟨b, off, none⟩) cap m Tx hs' bs' w6) := hF5.kept hk6 (fun k h => .inl (by rw [HD4.out]; exact h))
          have HZ6 : Hid (F < w6.heap.size ∧ H < w6.heap.size ∧ P < w6.heap.size) := by have := hk6.size; show _ ∧ _; omega
          have HST6 : Hid (Strm Tx 2 (Tx.length) (st ++ (codedB true 2 head zl zd its))) := .snoc HST.out HMQ.out (by rw [show decide (Tx.length = Tx.length) = true from by first | (simp; omega) | simp]; exact .inr (.inr ⟨hlev, its, zl, zd, head, hIo, hDO, by first | exact hszc | (rw [Nat.add_sub_cancel_left]; exact hszc), rfl⟩))
          have HNE6 : Hid (st ++ (codedB true 2 head zl zd its) ≠ []) := by
            show _ ≠ _
            intro e
            have := congrArg List.length e
            rw [List.length_append] at this
            have h3 := hcl
            simp only [List.length_nil] at this
            omega
          have HLN6 : Hid ((st ++ (codedB true 2 head zl zd its)).length ≤ 200 * p + 10000000) := by
            show _ ≤ _
            rw [List.length_append]
            have h3 := (show (codedB true 2 head zl zd its).length ≤ 9000000 by have := HHW.out; omega)
            omega
          clear hI6 hk6 hB5 hF5 hW5
          go_wp2
          exact ⟨.inr ⟨_, _, rfl, rfl, HW6, ⟨by first | exact HST6.out | (rw [show Tx.length = Tx.length by omega]; exact HST6.out), HNE6.out⟩, (by have := HLN6.out; omega), HB6⟩, by simp [leftD]⟩
    · obtain ⟨ys, ⟨g, c, q1, q2, q3⟩, hpk⟩ := HW.out
      have hyl : ys.length ≤ 140737488355328 := by have := hpk.len; omega
      have H9 : Hid (Calls Tryd.prog 22 #[.pointer (some ⟨w.heap.size, 0, none⟩)] wr _) := done_any w.heap.size g c _ ys (fun _ => True) wr hyl q1 (bytesIn_of_owns _ q2 (fun _ _ => trivial))
      clear q1 q2 q3
      go_wp2_with fail
      refine H9.out.mono ?_
      clear H9
      rintro e w9 ⟨g', c', rfl, ho, hb9⟩
      have HF : Hid (w9.ownsRow w.heap.size 5 1 (.slice g' ys.length c') ys.length (ys.map (Value.int .u8)) ∧ Below w.heap.size w w9) := ⟨⟨ho.1, ho.2.imp id (by
        rintro ⟨g, cap, cur, h1, h2, h3⟩
        exact ⟨g, cap, cur, h1, by have := HB.out.size; omega, h3⟩)⟩, HB.out.trans (hb9.mono HB.out.size)⟩
      have HP : Hid (Packed ys st) := hpk
      clear ho hb9 hpk
      go_wp2
      exact bodyPost_ret (v := .tuple #[.slice g' ys.length c', .int .i64 0]) (by simp [results, Tryd.f7, go_sem]) rfl ⟨g', c', ys, st, rfl, HF.out.1, HP.out, HST.out.1, HST.out.2, HF.out.2⟩
end Go.Proofs.YtinbilbgipfemaaDoor
