import Derived.Test.YtgihginfegckcaaGreatDoorLlx
/- lex's Lex, walked. -/
namespace Go.Proofs.YtgihginfegckcaaGreatDoor
open Go.RowKit

theorem owns_below {w w' : World} {base : Nat} {e : TypeId} {size : Nat} {v : Value} {n : Nat} {xs : List Value} (h : w.ownsRow base e size v n xs) (hb : Below w.heap.size w w') : w'.ownsRow base e size v n xs := by
  refine ⟨h.1, ?_⟩
  rcases h.2 with hn | ⟨g, cap, cur, rfl, h1, hgg, rest⟩
  · exact .inl hn
  · exact .inr ⟨g, cap, cur, rfl, h1, (hb.block g (Array.getElem?_eq_some_iff.1 hgg).1).trans hgg, rest⟩
theorem eqI (y : UInt8) (n : Nat) (hn : n < 256) : ((y.toNat : Int) == (n : Int)) = decide (y = UInt8.ofNat n) := by
  by_cases h : y = UInt8.ofNat n
  · subst h
    have : (UInt8.ofNat n).toNat = n := by simp; omega
    simp [this]
  · rw [decide_eq_false h]
    refine beq_eq_false_iff_ne.2 (fun e => h (UInt8.toNat_inj.1 ?_))
    simp; omega
def LexI (w wr : World) (v : Value) (acc : List Tk) : Prop := wr.ownsRow w.heap.size 34 10 v acc.length (tcs acc) ∧ Below w.heap.size w wr
theorem LexI.below {w wr V : World} {v : Value} {acc : List Tk} (h : LexI w wr v acc) (hb : Below wr.heap.size wr V) : LexI w V v acc := ⟨owns_below h.1 hb, h.2.trans (hb.mono h.2.size)⟩
set_option maxRecDepth 100000 in
set_option maxHeartbeats 4000000 in
theorem lex_raw (l : List UInt8) (hsz : (bs l).size ≤ 512) (w : World) (hE : LexE w) :
    Calls Tryz.prog 7 #[.string (bs l)] w fun e w' => (∃ v, e = .returned (.tuple #[v, .int .i64 ((lexG (l.length + 1) l 0 []).2.1 : Int), .int .i64 (lexG (l.length + 1) l 0 []).2.2]) ∧ w'.ownsRow w.heap.size 34 10 v (lexG (l.length + 1) l 0 []).1.length (tcs (lexG (l.length + 1) l 0 []).1)) ∧ Below w.heap.size w w' := by
  have t1 : decide ((512 : Int) < ((bs l).size : Int)) = false := decide_eq_false (by omega)
  have HS : Hid ((bs l).size = l.length) := bs_size l
  obtain ⟨RES, HRES⟩ : ∃ x, Hid (lexG (l.length + 1) l 0 [] = x) := ⟨_, rfl⟩
  rw [HRES.out]
  have HEW : Hid (LexE w) := hE
  obtain ⟨i0, hi, hzz⟩ := Option.map_eq_some_iff.1 (show (Tryz.prog.info? 34).map (fun i => (i.zero, i.size, i.bytes)) = some (some (.agg #[.int .i64 0, .int .i64 0, .string .empty, .int .i64 0, .int .i64 0, .string .empty, .int .i64 0, .int .i64 0, .bool false, .bool false]), 10, 88) by kernel_rfl)
  simp only [Prod.mk.injEq] at hzz
  obtain ⟨hz0, hz1, hz2⟩ := hzz
  clear hE
  go_enter Tryz.func7, Tryz.ntmps7
  go_wp2
  go_step3
  go_wp2
  go_step3
  go_wp2
  go_loopw [5, 6] (fun v5 v6 wr => ∃ (k f : Nat) (acc : List Tk), k ≤ (bs l).size ∧ v6 = .int .i64 (k : Int) ∧ acc.length ≤ k ∧ Hid (l.length - k < f) ∧ Hid (lexG f (l.drop k) k acc = RES) ∧ Hid (LexI w wr v5 acc)) (fun _ v6 _ => (bs l).size - (intOf v6).toNat)
  case atStart => exact ⟨0, l.length + 1, [], Nat.zero_le _, rfl, Nat.le_refl _, (by show _ < _; omega), HRES, World.ownsRow_nil _ _ _ _, Below.refl _ _⟩
  case round =>
    obtain ⟨k, f, acc, hk, rfl, hacc, HF, HG, HI⟩ := hrel
    clear HRES
    by_cases hlt : k < (bs l).size
    · have HK : Hid (k < (bs l).size) := hlt
      have hlt := hlt
      obtain ⟨y, hy⟩ : ∃ y : UInt8, (bs l)[k]'hlt = y := ⟨_, rfl⟩
      have hdr : l.drop k = y :: l.drop (k + 1) := by rw [drop_step l k hlt, hy]
      obtain ⟨R, hR⟩ : ∃ R, l.drop k = R := ⟨_, rfl⟩
      have HX : Hid ((bs l).extract k (bs l).size = bs R) := by show _ = _; rw [bs_drop, hR]
      have HDR : Hid (R = y :: l.drop (k + 1) ∧ l.drop k = R) := ⟨hR ▸ hdr, hR⟩
      rw [hR] at HG
      obtain ⟨f, rfl⟩ : ∃ g, f = g + 1 := ⟨f - 1, by have := HF.out; omega⟩
      have HRV : Hid (Row (wr.alloc (.cells #[.int .i64 0, .int .i64 0, .string ⟨#[]⟩, .int .i64 0, .int .i64 0, .string ⟨#[]⟩, .int .i64 0, .int .i64 0, .bool false, .bool false] 34)).drew wr.heap.size 34 #[.int .i64 0, .int .i64 0, .string .empty, .int .i64 0, .int .i64 0, .string .empty, .int .i64 0, .int .i64 0, .bool false, .bool false] ∧ Below wr.heap.size wr (wr.alloc (.cells #[.int .i64 0, .int .i64 0, .string ⟨#[]⟩, .int .i64 0, .int .i64 0, .string ⟨#[]⟩, .int .i64 0, .int .i64 0, .bool false, .bool false] 34)).drew) := ⟨(Row.new wr 34 _).drewR2, ((Below.refl _ wr).alloc (Nat.le_refl _) _).drew⟩
      have hyI : (((bs l)[k]'hlt).toNat : Int) = (y.toNat : Int) := by rw [hy]
      clear hdr hR hy
      go_wp2_with fail
      refine wp_region_M (fun _ => True) (fun _ => false) 8 rfl (by kernel_rfl) ?_
      refine wpM_free 0 (v := .string (bs l)) rfl (by kernel_rfl) (by kernel_rfl) rfl (fun _ _ _ h => h) rfl (by intro wx; go_simp <;> rfl) ?_
      refine wpM_free 1 (v := .int .i64 (k : Int)) rfl (by kernel_rfl) (by kernel_rfl) rfl (fun _ _ _ h => h) rfl (by intro wx; go_simp <;> rfl) ?_
      refine wpM_free 2 (v := .string (bs R)) rfl (by kernel_rfl) (by kernel_rfl) rfl (fun _ _ _ h => h) rfl (by rw [← HX.out]; intro wx; go_simp <;> first | rfl | omega) ?_
      refine wpM_free 3 (v := .string (bs l)) rfl (by kernel_rfl) (by kernel_rfl) rfl (fun _ _ _ h => h) rfl (by intro wx; go_simp <;> rfl) ?_
      refine wpM_free 4 (v := .int .i64 (k : Int)) rfl (by kernel_rfl) (by kernel_rfl) rfl (fun _ _ _ h => h) rfl (by intro wx; go_simp <;> rfl) ?_
      refine wpM_free 5 (v := .int .u8 (y.toNat : Int)) rfl (by kernel_rfl) (by kernel_rfl) rfl (fun _ _ _ h => h) rfl (by intro wx; go_simp) ?_
      refine wpM_one 6 rfl (by kernel_rfl) rfl ?_
      go_wp2_with fail
      refine ⟨(fun h => by simp at h), ?_⟩
      refine wpM_one 7 rfl (by kernel_rfl) rfl ?_
      go_wp2_with fail
      refine ⟨(fun h => by simp at h), ?_⟩
      refine wpM_done (by kernel_rfl) ?_
      generalize (wr.alloc (.cells #[.int .i64 0, .int .i64 0, .string ⟨#[]⟩, .int .i64 0, .int .i64 0, .string ⟨#[]⟩, .int .i64 0, .int .i64 0, .bool false, .bool false] 34)).drew = V at HRV ⊢
      have e32 := eqI y 32 (by omega)
      have e34 := eqI y 34 (by omega)
      have e39 := eqI y 39 (by omega)
      by_cases hb : y = 32
      · have HG2 : Hid (lexG f (l.drop (k + 1)) (k + 1) acc = RES) := by show _ = _; rw [← HG.out, HDR.out.1, lexG_blank hb]
        rw [decide_eq_true (show y = UInt8.ofNat 32 from hb)] at e32
        have HI2 := HI.out.below HRV.out.2
        have HI3 : Hid (LexI w V u5 acc) := HI2
        clear e34 e39 hb HG HI HI2 HRV HEW HX
        go_wp2
        go_roundw
        case rel => exact ⟨k + 1, f, acc, by omega, by go_num, by omega, by have := HF.out; have := HS.out; show _ < _; omega, HG2, HI3⟩
        case measure => have := HK.out; simp [intOf]; omega
      · rw [decide_eq_false (show ¬ y = UInt8.ofNat 32 from hb)] at e32
        have HO := oneC_of y (l.drop (k + 1)) (by have := HS.out; simp; omega)
        rw [← HDR.out.1] at HO
        have HAdv : Hid ((oneR R).2.2 = 0 → 1 ≤ (oneR R).2.1 ∧ (oneR R).2.1 ≤ R.length) := oneR_adv
        have HGt : Hid ((oneR R).2.2 = 0 → lexG f (R.drop (oneR R).2.1) (k + (oneR R).2.1) (acc ++ [(oneR R).1.put k]) = RES) := fun h0 => by
          have h1 := HG.out
          rw [HDR.out.1] at h0 h1 ⊢
          rw [lexG_tok hb h0] at h1
          exact h1
        have HGe : Hid ((oneR R).2.2 ≠ 0 → ([], k, (oneR R).2.2) = RES) := fun h0 => by
          have h1 := HG.out
          rw [HDR.out.1] at h0 h1 ⊢
          rw [lexG_err hb h0] at h1
          exact h1
        have HLV : Hid (LexE V) := (HEW.out.below HI.out.2).below HRV.out.2
        obtain ⟨⟨t, n, er⟩, hone⟩ : ∃ x, oneR R = x := ⟨_, rfl⟩
        rw [hone] at HO HAdv HGt HGe
        simp only at HO HAdv HGt HGe
        generalize digL.contains y = d1 at HO
        generalize bgnL.contains y = d2 at HO
        generalize Lib.hasPrefix R lostL = b5 at HO
        have HA1 : Hid (Calls Tryz.prog 14 #[.string ⟨#[48, 49, 50, 51, 52, 53, 54, 55, 56, 57]⟩, .int .u8 (y.toNat : Int)] V fun e w' => e = .returned (.bool d1) ∧ w' = V) := by have := among_any digL y V; rw [HO.dig] at this; exact this
        have HA2 : Hid (Calls Tryz.prog 14 #[.string (bs bgnL), .int .u8 (y.toNat : Int)] V fun e w' => e = .returned (.bool d2) ∧ w' = V) := by have := among_any bgnL y V; rw [HO.bgn] at this; exact this
        have HA3 : Hid (Calls Tryz.prog 20 #[.string (bs R), .string ⟨#[35, 82, 69, 70, 33]⟩] V fun e w' => e = .returned (.bool b5) ∧ w' = V) := by have := Tryz.strings_HasPrefix (bs R) (bs lostL) V; rw [show Lib.hasPrefix (bs R).data.toList (bs lostL).data.toList = Lib.hasPrefix R lostL from rfl, HO.lost] at this; exact this
        have HQ : y = 39 → Hid (Calls Tryz.prog 18 #[.string (bs R)] V fun e w' => e = .returned (.int .i64 ((quotedN R : Nat) : Int)) ∧ w' = V) := fun _ => by rw [HDR.out.1]; exact quoted_any y _ (by have := HS.out; simp; omega) V
        have HOH : Hid (OneC y R t n er d1 d2 b5) := HO
        clear hone HO HG HEW HX
        go_upto_block 2 with fail
        go_cut [6, 8, 9] (fun v6 v8 v9 wx => v6 = .int .i64 (k : Int) ∧ v8 = .int .i64 (n : Int) ∧ v9 = .int .i64 er ∧ Hid (Row wx wr.heap.size 34 t.cells ∧ Below wr.heap.size wr wx))
        case first =>
          clear HAdv HGt HGe HI HF
          cases d1
          · by_cases h34 : y = 34
            · rw [decide_eq_true (show y = UInt8.ofNat 34 from h34)] at e34
              have HC := HOH.out.txt rfl h34 V HLV.out
              have HCH : Hid (Calls Tryz.prog 16 #[.string (bs R)] V fun e w' => e = tokR t n er ∧ Below V.heap.size V w') := HC
              clear HC HQ h34 e39
              go_wp2_with fail
              refine Calls.mono HA1.out ?_
              rintro _ w0 ⟨rfl, hw⟩
              rw [hw]
              clear hw w0
              unfold tokR Tk.v Tk.cells at HCH
              go_wp2_with fail
              refine Calls.mono HCH.out ?_
              rintro _ w3 ⟨rfl, q3⟩
              have hZ := HRV.out.1.below q3 HRV.out.1.lt
              have hB := HRV.out.2.trans (q3.mono HRV.out.2.size)
              clear q3 HCH
              obtain ⟨c0, c1, c2, c3, c4, c5, c6, c7, c8, c9⟩ := hZ.ten
              have fZ := hZ.frozen
              have lZ := hZ.lt
              have hE := Row.set10 hZ (.int .i64 t.k) (.int .i64 t.at') (.string (bs t.s)) (.int .i64 t.c) (.int .i64 t.e) (.string t.r.s) (.int .i64 t.r.c) (.int .i64 t.r.r) (.bool t.r.ac) (.bool t.r.ar)
              have hF := below_set10 hB (B := wr.heap.size) (Nat.le_refl _) (.int .i64 t.k) (.int .i64 t.at') (.string (bs t.s)) (.int .i64 t.c) (.int .i64 t.e) (.string t.r.s) (.int .i64 t.r.c) (.int .i64 t.r.r) (.bool t.r.ac) (.bool t.r.ar)
              clear hZ hB
              go_wp2
              go_meet
              exact ⟨rfl, rfl, rfl, hE, hF⟩
            · rw [decide_eq_false (show ¬ y = UInt8.ofNat 34 from h34)] at e34
              by_cases h39 : y = 39
              · rw [decide_eq_true (show y = UInt8.ofNat 39 from h39)] at e39
                have HCH : Hid (Calls Tryz.prog 17 #[.string (bs R), .int .i64 ((quotedN R : Nat) : Int)] V fun e w' => e = tokR t n er ∧ Below V.heap.size V w') := HOH.out.sht rfl h39 V HLV.out
                have HQH := HQ h39
                clear HQ h39 h34
                go_wp2_with fail
                refine Calls.mono HA1.out ?_
                rintro _ w0 ⟨rfl, hw⟩
                rw [hw]
                clear hw w0
                go_wp2_with fail
                refine Calls.mono HQH.out ?_
                rintro _ w0 ⟨rfl, hw⟩
                rw [hw]
                clear hw w0
                unfold tokR Tk.v Tk.cells at HCH
                go_wp2_with fail
                refine Calls.mono HCH.out ?_
                rintro _ w3 ⟨rfl, q3⟩
                have hZ := HRV.out.1.below q3 HRV.out.1.lt
                have hB := HRV.out.2.trans (q3.mono HRV.out.2.size)
                clear q3 HCH
                obtain ⟨c0, c1, c2, c3, c4, c5, c6, c7, c8, c9⟩ := hZ.ten
                have fZ := hZ.frozen
                have lZ := hZ.lt
                have hE := Row.set10 hZ (.int .i64 t.k) (.int .i64 t.at') (.string (bs t.s)) (.int .i64 t.c) (.int .i64 t.e) (.string t.r.s) (.int .i64 t.r.c) (.int .i64 t.r.r) (.bool t.r.ac) (.bool t.r.ar)
                have hF := below_set10 hB (B := wr.heap.size) (Nat.le_refl _) (.int .i64 t.k) (.int .i64 t.at') (.string (bs t.s)) (.int .i64 t.c) (.int .i64 t.e) (.string t.r.s) (.int .i64 t.r.c) (.int .i64 t.r.r) (.bool t.r.ac) (.bool t.r.ar)
                clear hZ hB
                go_wp2
                go_meet
                exact ⟨rfl, rfl, rfl, hE, hF⟩
              · rw [decide_eq_false (show ¬ y = UInt8.ofNat 39 from h39)] at e39
                clear HQ
                cases d2
                · cases b5
                  · have HCH : Hid (Calls Tryz.prog 21 #[.string (bs R)] V fun e w' => e = tokR t n er ∧ Below V.heap.size V w') := HOH.out.mrk rfl h34 h39 rfl rfl V HLV.out
                    clear h34 h39
                    go_wp2_with fail
                    refine Calls.mono HA1.out ?_
                    rintro _ w0 ⟨rfl, hw⟩
                    rw [hw]
                    clear hw w0
                    go_wp2_with fail
                    refine Calls.mono HA2.out ?_
                    rintro _ w0 ⟨rfl, hw⟩
                    rw [hw]
                    clear hw w0
                    go_wp2_with fail
                    refine Calls.mono HA3.out ?_
                    rintro _ w0 ⟨rfl, hw⟩
                    rw [hw]
                    clear hw w0
                    unfold tokR Tk.v Tk.cells at HCH
                    go_wp2_with fail
                    refine Calls.mono HCH.out ?_
                    rintro _ w3 ⟨rfl, q3⟩
                    have hZ := HRV.out.1.below q3 HRV.out.1.lt
                    have hB := HRV.out.2.trans (q3.mono HRV.out.2.size)
                    clear q3 HCH
                    obtain ⟨c0, c1, c2, c3, c4, c5, c6, c7, c8, c9⟩ := hZ.ten
                    have fZ := hZ.frozen
                    have lZ := hZ.lt
                    have hE := Row.set10 hZ (.int .i64 t.k) (.int .i64 t.at') (.string (bs t.s)) (.int .i64 t.c) (.int .i64 t.e) (.string t.r.s) (.int .i64 t.r.c) (.int .i64 t.r.r) (.bool t.r.ac) (.bool t.r.ar)
                    have hF := below_set10 hB (B := wr.heap.size) (Nat.le_refl _) (.int .i64 t.k) (.int .i64 t.at') (.string (bs t.s)) (.int .i64 t.c) (.int .i64 t.e) (.string t.r.s) (.int .i64 t.r.c) (.int .i64 t.r.r) (.bool t.r.ac) (.bool t.r.ar)
                    clear hZ hB
                    go_wp2
                    go_meet
                    exact ⟨rfl, rfl, rfl, hE, hF⟩
                  · obtain ⟨rfl, rfl, rfl⟩ := HOH.out.bad rfl h34 h39 rfl rfl
                    clear h34 h39
                    go_wp2_with fail
                    refine Calls.mono HA1.out ?_
                    rintro _ w0 ⟨rfl, hw⟩
                    rw [hw]
                    clear hw w0
                    go_wp2_with fail
                    refine Calls.mono HA2.out ?_
                    rintro _ w0 ⟨rfl, hw⟩
                    rw [hw]
                    clear hw w0
                    go_wp2_with fail
                    refine Calls.mono HA3.out ?_
                    rintro _ w0 ⟨rfl, hw⟩
                    rw [hw]
                    clear hw w0
                    have hZ := HRV.out.1
                    have hB := HRV.out.2
                    obtain ⟨c0, c1, c2, c3, c4, c5, c6, c7, c8, c9⟩ := hZ.ten
                    have fZ := hZ.frozen
                    have lZ := hZ.lt
                    have hE := Row.set10 hZ (.int .i64 6) (.int .i64 0) (.string ⟨#[]⟩) (.int .i64 0) (.int .i64 0) (.string ⟨#[]⟩) (.int .i64 0) (.int .i64 0) (.bool false) (.bool false)
                    have hF := below_set10 hB (B := wr.heap.size) (Nat.le_refl _) (.int .i64 6) (.int .i64 0) (.string ⟨#[]⟩) (.int .i64 0) (.int .i64 0) (.string ⟨#[]⟩) (.int .i64 0) (.int .i64 0) (.bool false) (.bool false)
                    clear hZ hB
                    go_wp2
                    go_meet
                    exact ⟨rfl, rfl, rfl, hE, hF⟩
                · have HCH : Hid (Calls Tryz.prog 19 #[.string (bs R)] V fun e w' => e = tokR t n er ∧ Below V.heap.size V w') := HOH.out.run rfl h34 h39 rfl V HLV.out
                  clear h34 h39
                  go_wp2_with fail
                  refine Calls.mono HA1.out ?_
                  rintro _ w0 ⟨rfl, hw⟩
                  rw [hw]
                  clear hw w0
                  go_wp2_with fail
                  refine Calls.mono HA2.out ?_
                  rintro _ w0 ⟨rfl, hw⟩
                  rw [hw]
                  clear hw w0
                  unfold tokR Tk.v Tk.cells at HCH
                  go_wp2_with fail
                  refine Calls.mono HCH.out ?_
                  rintro _ w3 ⟨rfl, q3⟩
                  have hZ := HRV.out.1.below q3 HRV.out.1.lt
                  have hB := HRV.out.2.trans (q3.mono HRV.out.2.size)
                  clear q3 HCH
                  obtain ⟨c0, c1, c2, c3, c4, c5, c6, c7, c8, c9⟩ := hZ.ten
                  have fZ := hZ.frozen
                  have lZ := hZ.lt
                  have hE := Row.set10 hZ (.int .i64 t.k) (.int .i64 t.at') (.string (bs t.s)) (.int .i64 t.c) (.int .i64 t.e) (.string t.r.s) (.int .i64 t.r.c) (.int .i64 t.r.r) (.bool t.r.ac) (.bool t.r.ar)
                  have hF := below_set10 hB (B := wr.heap.size) (Nat.le_refl _) (.int .i64 t.k) (.int .i64 t.at') (.string (bs t.s)) (.int .i64 t.c) (.int .i64 t.e) (.string t.r.s) (.int .i64 t.r.c) (.int .i64 t.r.r) (.bool t.r.ac) (.bool t.r.ar)
                  clear hZ hB
                  go_wp2
                  go_meet
                  exact ⟨rfl, rfl, rfl, hE, hF⟩
          · have HCH : Hid (Calls Tryz.prog 15 #[.string (bs R)] V fun e w' => e = tokR t n er ∧ Below V.heap.size V w') := HOH.out.num rfl V HLV.out
            clear HQ
            go_wp2_with fail
            refine Calls.mono HA1.out ?_
            rintro _ w0 ⟨rfl, hw⟩
            rw [hw]
            clear hw w0
            unfold tokR Tk.v Tk.cells at HCH
            go_wp2_with fail
            refine Calls.mono HCH.out ?_
            rintro _ w3 ⟨rfl, q3⟩
            have hZ := HRV.out.1.below q3 HRV.out.1.lt
            have hB := HRV.out.2.trans (q3.mono HRV.out.2.size)
            clear q3 HCH
            obtain ⟨c0, c1, c2, c3, c4, c5, c6, c7, c8, c9⟩ := hZ.ten
            have fZ := hZ.frozen
            have lZ := hZ.lt
            have hE := Row.set10 hZ (.int .i64 t.k) (.int .i64 t.at') (.string (bs t.s)) (.int .i64 t.c) (.int .i64 t.e) (.string t.r.s) (.int .i64 t.r.c) (.int .i64 t.r.r) (.bool t.r.ac) (.bool t.r.ar)
            have hF := below_set10 hB (B := wr.heap.size) (Nat.le_refl _) (.int .i64 t.k) (.int .i64 t.at') (.string (bs t.s)) (.int .i64 t.c) (.int .i64 t.e) (.string t.r.s) (.int .i64 t.r.c) (.int .i64 t.r.r) (.bool t.r.ac) (.bool t.r.ar)
            clear hZ hB
            go_wp2
            go_meet
            exact ⟨rfl, rfl, rfl, hE, hF⟩
        case rest =>
          obtain ⟨rfl, rfl, rfl, HRW⟩ := hcut
          clear HRV HOH HA1 HA2 HA3 HQ HLV e32 e34 e39
          by_cases h0 : er = 0
          · subst h0
            obtain ⟨hn1, hn2⟩ := HAdv.out rfl
            have HG2 : Hid (lexG f (l.drop (k + n)) (k + n) (acc ++ [t.put k]) = RES) := by
              have := HGt.out rfl
              rw [← HDR.out.2, List.drop_drop] at this
              exact this
            have hkn : k + n ≤ (bs l).size := by
              have h1 := congrArg List.length HDR.out.2
              have := HS.out
              simp at h1
              omega
            have hI := HI.out.below HRW.out.2
            have hown := hI.1
            have hBw := hI.2
            have hlt2 : ∀ q, u5.ownBlock = some q → w.heap.size ≤ q ∧ q ≠ wr.heap.size := fun q hq => ⟨(hown.lt q hq).1, by have := (HI.out.1.lt q hq).2; omega⟩
            have hRow : Row wc wr.heap.size 34 #[.int .i64 t.k, .int .i64 t.at', .string (bs t.s), .int .i64 t.c, .int .i64 t.e, .string t.r.s, .int .i64 t.r.c, .int .i64 t.r.r, .bool t.r.ac, .bool t.r.ar] := HRW.out.1
            have hws : w.heap.size ≤ wr.heap.size := HI.out.2.size
            obtain ⟨c0, c1, c2, c3, c4, c5, c6, c7, c8, c9⟩ := hRow.ten
            have fZ := hRow.frozen
            have lZ := hRow.lt
            have hown1 : (wc.setCell ⟨wr.heap.size, 1, none⟩ (.int .i64 (k : Int))).ownsRow w.heap.size 34 10 u5 acc.length (tcs acc) := owns_kept hown ((Kept.refl (fun q => q ≠ wr.heap.size) wc).setCell (p := ⟨wr.heap.size, 1, none⟩) (by simp) (.int .i64 (k : Int))) (fun q hq => (hlt2 q hq).2)
            have hBs := below_allocS (below_set hBw (B := wr.heap.size) 1 (.int .i64 (k : Int)) hws) (.cells (t.put k).cells 34)
            have HNW : Hid (∀ (j : Nat) u, (t.put k).cells.toList[j]? = some u → ((wc.setCell ⟨wr.heap.size, 1, none⟩ (.int .i64 (k : Int))).alloc (.cells (t.put k).cells 34)).cell? ((⟨wc.heap.size, 0, none⟩ : Addr).add j) = some u) := by
              intro j u hu
              have hR2 := Row.new (wc.setCell ⟨wr.heap.size, 1, none⟩ (.int .i64 (k : Int))) 34 (t.put k).cells
              have h := hR2.cell (i := j) (v := u) (by simpa using hu)
              rw [Go.WideShapes.add_plain]
              simpa using h
            have HHS : Hid (w.heap.size ≤ ((wc.setCell ⟨wr.heap.size, 1, none⟩ (.int .i64 (k : Int))).alloc (.cells (t.put k).cells 34)).heap.size) := hBs.size
            have HOwn : Hid (((wc.setCell ⟨wr.heap.size, 1, none⟩ (.int .i64 (k : Int))).alloc (.cells (t.put k).cells 34)).ownsRow w.heap.size 34 10 u5 acc.length (tcs acc)) := hown1.alloc _
            have HBs : Hid (Below w.heap.size w ((wc.setCell ⟨wr.heap.size, 1, none⟩ (.int .i64 (k : Int))).alloc (.cells (t.put k).cells 34))) := hBs
            have HLT : Hid (∀ q, u5.ownBlock = some q → w.heap.size ≤ q) := fun q hq => (hlt2 q hq).1
            have hacc2 : acc.length + 1 ≤ 600 := by omega
            unfold Tk.put Tk.cells at HNW HOwn HBs HHS
            simp only at HNW HOwn HBs HHS
            clear hown hBw hI hlt2 hRow hown1 hBs HRW HGt HGe HAdv
            go_wp2_with (at_builtin; refine wpList_append_own2 _ rfl (.tmp 84) (.tmp 86) 22 rfl w.heap.size 34 i0 (.agg #[.int .i64 0, .int .i64 0, .string .empty, .int .i64 0, .int .i64 0, .string .empty, .int .i64 0, .int .i64 0, .bool false, .bool false]) 10 88 Tryz.underlying22 hi hz0 hz1 hz2 rfl (by decide) _ _ _ rfl HOwn.out ⟨wc.heap.size, 0, none⟩ 1 1 _ rfl rfl HNW.out (by simp [Value.oneCell']) (by unfold maxLen; omega) (by omega) HHS.out ?_)
            intro v' w3 hown' hgrow hblk
            have HI2 : Hid (LexI w w3 v' (acc ++ [t.put k])) := by
              refine ⟨?_, ?_⟩
              · rw [List.length_append, tcs_snoc]
                exact hown'
              · exact HBs.out.grown hgrow HHS.out (fun q hq => HLT.out q hq)
            clear hown' hgrow hblk HNW HOwn HBs HHS HLT c0 c1 c2 c3 c4 c5 c6 c7 c8 c9 fZ lZ hws
            go_wp2
            go_roundw
            case rel => exact ⟨k + n, f, acc ++ [t.put k], hkn, by go_num, by simp; omega, by have := HF.out; have := HS.out; show _ < _; omega, HG2, HI2⟩
            case measure => have := HK.out; simp [intOf]; omega
          · have hne : (er != 0) = true := by simpa using h0
            have HR : Hid (([], k, er) = RES) := HGe.out h0
            have HBf : Hid (Below w.heap.size w wc) := HI.out.2.trans (HRW.out.2.mono HI.out.2.size)
            clear HRW HGt HGe HAdv HI HF h0
            go_wp2
            rw [Exit.noGoto_ret]
            refine bodyPost_ret (results_tmp3 rfl _ _ _) rfl ⟨⟨.slice none 0 0, by rw [← HR.out]; rfl, by rw [← HR.out]; exact World.ownsRow_nil _ _ _ _⟩, HBf.out⟩
    · obtain rfl : k = (bs l).size := by omega
      have HR : Hid ((acc, 0, 0) = RES) := by
        have h1 := HG.out
        rw [List.drop_eq_nil_of_le (by have := HS.out; omega)] at h1
        obtain ⟨f, rfl⟩ : ∃ g, f = g + 1 := ⟨f - 1, by have := HF.out; omega⟩
        show _ = _
        rw [← h1, lexG]
      clear HG HF
      go_wp2
      rw [Exit.noGoto_ret]
      refine bodyPost_ret (results_tmp3 rfl _ _ _) rfl ⟨⟨_, by rw [← HR.out]; rfl, by rw [← HR.out]; exact HI.out.1⟩, HI.out.2⟩
end Go.Proofs.YtgihginfegckcaaGreatDoor
