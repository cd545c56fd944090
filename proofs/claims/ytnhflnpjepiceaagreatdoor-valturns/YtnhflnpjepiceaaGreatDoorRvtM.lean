import Derived.Test.YtnhflnpjepiceaaGreatDoorRvr
import Derived.Test.YtnhflnpjepiceaaGreatDoorRpx
import Derived.Test.YtnhflnpjepiceaaGreatDoorVnmM
import Derived.Test.YtnhflnpjepiceaaGreatDoorVrk67M
import Derived.Test.YtnhflnpjepiceaaGreatDoorRpw
/- val: the document's Text, Bool. -/
namespace Go.Proofs.YtnhflnpjepiceaaGreatDoor
open Go.RowKit

theorem asc_dec (n : Nat) (h : n < 128) (t : List Nat) : decL (n :: t) = (n, 1) := by
  have := dec_wr n (by unfold charZ; omega) t
  rw [wrN_1 h] at this
  exact this
theorem asc_xml : ∀ l : List Nat, (∀ x ∈ l, 32 ≤ x ∧ x < 128) → xmlL l = true
  | [], _ => rfl
  | n :: t, h => by
    have hn := h n (by simp)
    have hd := asc_dec n hn.2 t
    rw [xmlL_step (by simp) (by rw [hd]; intro e; have := congrArg Prod.fst e; simp only at this; omega) (by rw [hd]; exact decide_eq_true (by omega)), hd]
    exact asc_xml t (fun x hx => h x (by simp [hx]))
theorem print_text {c e : Int} (hc : I64 c) (hw : within e) : textB (printS c e) = true := by
  obtain ⟨_, _, p3, p4⟩ := parse_txt c e hc hw
  rw [print_txt c e hc hw]
  generalize txtL (decW c e) = l at p3 p4
  unfold textB
  rw [decide_eq_true (by rw [bs_size]; omega), Bool.true_and]
  refine asc_xml _ (fun x hx => ?_)
  unfold natsOf at hx
  rw [bs_list] at hx
  obtain ⟨y, hy, rfl⟩ := List.mem_map.1 hx
  rcases p4 y hy with rfl | rfl | h
  · decide
  · decide
  · omega
theorem word_text (b : Bool) : textB (wordS b) = true := by cases b <;> kernel_rfl
set_option maxRecDepth 100000 in
set_option maxHeartbeats 2000000 in
theorem rvtext_any (v : Vl) (hc : I64 v.c) (w : World) : Calls Tryz.prog 14 #[v.v] w fun r w' => r = .returned (textV v).v ∧ Below w.heap.size w w' := by
  have hcc : ∀ c' e', cleanV v = vN c' e' → I64 c' := fun c' e' h => by
    unfold cleanV at h
    split at h
    · rw [h] at hc; exact hc
    · cases h
  have HT : ∀ V, Hid (Calls Tryz.prog 50 #[v.v] V fun r w' => r = .returned (cleanV v).v ∧ Below V.heap.size V w') := fun V => rtaken_any v hc V
  obtain ⟨u, hu⟩ : ∃ u, cleanV v = u := ⟨_, rfl⟩
  have hcs := clean_cases v
  unfold textV
  rw [hu] at HT hcs hcc ⊢
  have hhc := hc
  clear hu hc
  obtain ⟨k, c, e, s, b, x, hv⟩ := v.v_form
  rw [hv] at HT ⊢
  clear hv
  have h0 := PR.start w #[.int .i64 k, .int .i64 c, .int .i64 e, .string s, .bool b, .int .i64 x] #[.int .i64 0, .int .i64 0, .int .i64 0, .string .empty, .bool false, .int .i64 0]
  rcases hcs with rfl | ⟨c', e', rfl, hr⟩ | ⟨s', rfl, hr⟩ | ⟨b', rfl⟩ | ⟨x', rfl, hr⟩
  · rw [vE_v] at HT
    clear hcc hhc
    have HST : ∀ V, Hid (Calls Tryz.prog 26 #[.string ⟨#[]⟩] V fun r w' => r = .returned (.agg #[.int .i64 2, .int .i64 0, .int .i64 0, .string ⟨#[]⟩, .bool false, .int .i64 0]) ∧ Below V.heap.size V w') := fun V => by
      have h := rstr_any ⟨#[]⟩ V
      unfold strW at h
      rw [show textB ⟨#[]⟩ = true from by kernel_rfl] at h
      exact h
    go_enter Tryz.func14, Tryz.ntmps14
    go_wp2_with fail
    refine Calls.mono (HT _).out ?_
    rintro _ w1 ⟨rfl, b1⟩
    have h1 := h0.next b1
    obtain ⟨m0, m1, m2, m3, m4, m5⟩ := h1.1.six
    have mf := h1.1.frozen
    have ml := h1.1.lt
    have h2 := h1.setP (.int .i64 0) (.int .i64 0) (.int .i64 0) (.string .empty) (.bool false) (.int .i64 0)
    obtain ⟨n0, n1, n2, n3, n4, n5⟩ := h2.1.six
    obtain ⟨y0, y1, y2, y3, y4, y5⟩ := h2.2.1.six
    have zf := h2.2.1.frozen
    have wl := h2.2.1.lt
    clear h0 b1 HT h1
    go_wp2_with fail
    refine Calls.mono (HST _).out ?_
    rintro _ w2 ⟨rfl, b2⟩
    have h3 := h2.next b2
    obtain ⟨p0, p1, p2, p3, p4, p5⟩ := h3.2.1.six
    have qf := h3.2.1.frozen
    have ql := h3.2.1.lt
    clear b2 n0 n1 n2 n3 n4 n5 y0 y1 y2 y3 y4 y5 zf wl HST
    go_wp2
    exact bodyPost_ret (ret_one rfl (g := w.heap.size + 1) rfl ((h3.setR _ _ _ _ _ _).res rfl)) rfl ⟨rfl, (h3.setR _ _ _ _ _ _).2.2⟩
  · rw [vN_v] at HT
    have hb := hcc c' e' rfl
    have HP : ∀ V, Hid (Calls Tryz.prog 55 #[.agg #[.int .i64 c', .int .i64 e']] V fun r w' => r = .returned (.string (printS c' e')) ∧ Below V.heap.size V w') := fun V => rprint_ok c' e' hb (right_within hr) V _ rfl
    have HST : ∀ V, Hid (Calls Tryz.prog 26 #[.string (printS c' e')] V fun r w' => r = .returned (.agg #[.int .i64 2, .int .i64 0, .int .i64 0, .string (printS c' e'), .bool false, .int .i64 0]) ∧ Below V.heap.size V w') := fun V => by
      have h := rstr_any (printS c' e') V
      unfold strW at h
      rw [print_text hb (right_within hr)] at h
      exact h
    clear hcc hhc hr hb
    go_enter Tryz.func14, Tryz.ntmps14
    go_wp2_with fail
    refine Calls.mono (HT _).out ?_
    rintro _ w1 ⟨rfl, b1⟩
    have h1 := h0.next b1
    obtain ⟨m0, m1, m2, m3, m4, m5⟩ := h1.1.six
    have mf := h1.1.frozen
    have ml := h1.1.lt
    have h2 := h1.setP (.int .i64 1) (.int .i64 c') (.int .i64 e') (.string .empty) (.bool false) (.int .i64 0)
    obtain ⟨n0, n1, n2, n3, n4, n5⟩ := h2.1.six
    obtain ⟨y0, y1, y2, y3, y4, y5⟩ := h2.2.1.six
    have zf := h2.2.1.frozen
    have wl := h2.2.1.lt
    clear h0 b1 HT h1
    go_wp2_with fail
    refine Calls.mono (HP _).out ?_
    rintro _ w3 ⟨rfl, b3⟩
    have h2' := h2.next b3
    clear b3 n0 n1 n2 n3 n4 n5 y0 y1 y2 y3 y4 y5 zf wl h2
    go_wp2_with fail
    refine Calls.mono (HST _).out ?_
    rintro _ w2 ⟨rfl, b2⟩
    have h3 := h2'.next b2
    obtain ⟨p0, p1, p2, p3, p4, p5⟩ := h3.2.1.six
    have qf := h3.2.1.frozen
    have ql := h3.2.1.lt
    clear b2 h2' HST
    go_wp2
    exact bodyPost_ret (ret_one rfl (g := w.heap.size + 1) rfl ((h3.setR _ _ _ _ _ _).res rfl)) rfl ⟨rfl, (h3.setR _ _ _ _ _ _).2.2⟩
  · rw [vT_v] at HT
    clear hcc hhc hr
    go_enter Tryz.func14, Tryz.ntmps14
    go_wp2_with fail
    refine Calls.mono (HT _).out ?_
    rintro _ w1 ⟨rfl, b1⟩
    have h1 := h0.next b1
    obtain ⟨m0, m1, m2, m3, m4, m5⟩ := h1.1.six
    have mf := h1.1.frozen
    have ml := h1.1.lt
    have h2 := h1.setP (.int .i64 2) (.int .i64 0) (.int .i64 0) (.string s') (.bool false) (.int .i64 0)
    obtain ⟨n0, n1, n2, n3, n4, n5⟩ := h2.1.six
    obtain ⟨y0, y1, y2, y3, y4, y5⟩ := h2.2.1.six
    have zf := h2.2.1.frozen
    have wl := h2.2.1.lt
    clear h0 b1 HT h1
    go_wp2
    exact bodyPost_ret (ret_one rfl (g := w.heap.size + 1) rfl ((h2.setR _ _ _ _ _ _).res rfl)) rfl ⟨rfl, (h2.setR _ _ _ _ _ _).2.2⟩
  · rw [vB_v] at HT
    clear hcc hhc
    have HP : ∀ V, Hid (Calls Tryz.prog 54 #[.bool b'] V fun r w' => r = .returned (.string (wordS b')) ∧ Below V.heap.size V w') := fun V => (rword_any b' V).mono (fun r w h => ⟨h.1, by rw [h.2]; exact Below.refl _ _⟩)
    have HST : ∀ V, Hid (Calls Tryz.prog 26 #[.string (wordS b')] V fun r w' => r = .returned (.agg #[.int .i64 2, .int .i64 0, .int .i64 0, .string (wordS b'), .bool false, .int .i64 0]) ∧ Below V.heap.size V w') := fun V => by
      have h := rstr_any (wordS b') V
      unfold strW at h
      rw [word_text b'] at h
      exact h
    go_enter Tryz.func14, Tryz.ntmps14
    go_wp2_with fail
    refine Calls.mono (HT _).out ?_
    rintro _ w1 ⟨rfl, b1⟩
    have h1 := h0.next b1
    obtain ⟨m0, m1, m2, m3, m4, m5⟩ := h1.1.six
    have mf := h1.1.frozen
    have ml := h1.1.lt
    have h2 := h1.setP (.int .i64 3) (.int .i64 0) (.int .i64 0) (.string .empty) (.bool b') (.int .i64 0)
    obtain ⟨n0, n1, n2, n3, n4, n5⟩ := h2.1.six
    obtain ⟨y0, y1, y2, y3, y4, y5⟩ := h2.2.1.six
    have zf := h2.2.1.frozen
    have wl := h2.2.1.lt
    clear h0 b1 HT h1
    go_wp2_with fail
    refine Calls.mono (HP _).out ?_
    rintro _ w3 ⟨rfl, b3⟩
    have h2' := h2.next b3
    clear b3 n0 n1 n2 n3 n4 n5 y0 y1 y2 y3 y4 y5 zf wl h2
    go_wp2_with fail
    refine Calls.mono (HST _).out ?_
    rintro _ w2 ⟨rfl, b2⟩
    have h3 := h2'.next b2
    obtain ⟨p0, p1, p2, p3, p4, p5⟩ := h3.2.1.six
    have qf := h3.2.1.frozen
    have ql := h3.2.1.lt
    clear b2 h2' HST
    go_wp2
    exact bodyPost_ret (ret_one rfl (g := w.heap.size + 1) rfl ((h3.setR _ _ _ _ _ _).res rfl)) rfl ⟨rfl, (h3.setR _ _ _ _ _ _).2.2⟩
  · rw [vX_v] at HT
    clear hcc hhc hr
    go_enter Tryz.func14, Tryz.ntmps14
    go_wp2_with fail
    refine Calls.mono (HT _).out ?_
    rintro _ w1 ⟨rfl, b1⟩
    have h1 := h0.next b1
    obtain ⟨m0, m1, m2, m3, m4, m5⟩ := h1.1.six
    have mf := h1.1.frozen
    have ml := h1.1.lt
    have h2 := h1.setP (.int .i64 4) (.int .i64 0) (.int .i64 0) (.string .empty) (.bool false) (.int .i64 x')
    obtain ⟨n0, n1, n2, n3, n4, n5⟩ := h2.1.six
    obtain ⟨y0, y1, y2, y3, y4, y5⟩ := h2.2.1.six
    have zf := h2.2.1.frozen
    have wl := h2.2.1.lt
    clear h0 b1 HT h1
    go_wp2
    exact bodyPost_ret (ret_one rfl (g := w.heap.size + 1) rfl ((h2.setR _ _ _ _ _ _).res rfl)) rfl ⟨rfl, (h2.setR _ _ _ _ _ _).2.2⟩
set_option maxRecDepth 100000 in
set_option maxHeartbeats 2000000 in
theorem rvbool_any (v : Vl) (hc : I64 v.c) (w : World) : Calls Tryz.prog 16 #[v.v] w fun r w' => r = .returned (boolV v).v ∧ Below w.heap.size w w' := by
  have HT : ∀ V, Hid (Calls Tryz.prog 50 #[v.v] V fun r w' => r = .returned (cleanV v).v ∧ Below V.heap.size V w') := fun V => rtaken_any v hc V
  obtain ⟨u, hu⟩ : ∃ u, cleanV v = u := ⟨_, rfl⟩
  have hcs := clean_cases v
  unfold boolV
  rw [hu] at HT hcs ⊢
  have hhc := hc
  clear hu hc
  obtain ⟨k, c, e, s, b, x, hv⟩ := v.v_form
  rw [hv] at HT ⊢
  clear hv
  have h0 := PR.start w #[.int .i64 k, .int .i64 c, .int .i64 e, .string s, .bool b, .int .i64 x] #[.int .i64 0, .int .i64 0, .int .i64 0, .string .empty, .bool false, .int .i64 0]
  rcases hcs with rfl | ⟨c', e', rfl, hr⟩ | ⟨s', rfl, hr⟩ | ⟨b', rfl⟩ | ⟨x', rfl, hr⟩
  · rw [vE_v] at HT
    clear hhc
    go_enter Tryz.func16, Tryz.ntmps16
    go_wp2_with fail
    refine Calls.mono (HT _).out ?_
    rintro _ w1 ⟨rfl, b1⟩
    have h1 := h0.next b1
    obtain ⟨m0, m1, m2, m3, m4, m5⟩ := h1.1.six
    have mf := h1.1.frozen
    have ml := h1.1.lt
    have h2 := h1.setP (.int .i64 0) (.int .i64 0) (.int .i64 0) (.string .empty) (.bool false) (.int .i64 0)
    obtain ⟨n0, n1, n2, n3, n4, n5⟩ := h2.1.six
    obtain ⟨y0, y1, y2, y3, y4, y5⟩ := h2.2.1.six
    have zf := h2.2.1.frozen
    have wl := h2.2.1.lt
    clear h0 b1 HT h1
    go_wp2_with fail
    refine Calls.mono (rtruth_any false _) ?_
    rintro _ w2 ⟨rfl, b2⟩
    rw [vB_v]
    have h3 := h2.next b2
    obtain ⟨p0, p1, p2, p3, p4, p5⟩ := h3.2.1.six
    have qf := h3.2.1.frozen
    have ql := h3.2.1.lt
    clear b2 n0 n1 n2 n3 n4 n5 y0 y1 y2 y3 y4 y5 zf wl
    go_wp2
    exact bodyPost_ret (ret_one rfl (g := w.heap.size + 1) rfl ((h3.setR _ _ _ _ _ _).res rfl)) rfl ⟨rfl, (h3.setR _ _ _ _ _ _).2.2⟩
  · rw [vN_v] at HT
    have hz : (c' != 0) = !decide (c' = 0) := by by_cases h : c' = 0 <;> simp [h]
    clear hhc hr
    go_enter Tryz.func16, Tryz.ntmps16
    go_wp2_with fail
    refine Calls.mono (HT _).out ?_
    rintro _ w1 ⟨rfl, b1⟩
    have h1 := h0.next b1
    obtain ⟨m0, m1, m2, m3, m4, m5⟩ := h1.1.six
    have mf := h1.1.frozen
    have ml := h1.1.lt
    have h2 := h1.setP (.int .i64 1) (.int .i64 c') (.int .i64 e') (.string .empty) (.bool false) (.int .i64 0)
    obtain ⟨n0, n1, n2, n3, n4, n5⟩ := h2.1.six
    obtain ⟨y0, y1, y2, y3, y4, y5⟩ := h2.2.1.six
    have zf := h2.2.1.frozen
    have wl := h2.2.1.lt
    clear h0 b1 HT h1
    go_wp2_with fail
    refine Calls.mono (rtruth_any _ _) ?_
    rintro _ w2 ⟨rfl, b2⟩
    rw [vB_v]
    have h3 := h2.next b2
    obtain ⟨p0, p1, p2, p3, p4, p5⟩ := h3.2.1.six
    have qf := h3.2.1.frozen
    have ql := h3.2.1.lt
    clear b2 n0 n1 n2 n3 n4 n5 y0 y1 y2 y3 y4 y5 zf wl
    go_wp2
    exact bodyPost_ret (ret_one rfl (g := w.heap.size + 1) rfl ((h3.setR _ _ _ _ _ _).res rfl)) rfl ⟨by first | rfl | exact congrArg (fun q => Ending.returned (vB q).v) hz, (h3.setR _ _ _ _ _ _).2.2⟩
  · rw [vT_v] at HT
    have HU : ∀ V, Hid (Calls Tryz.prog 58 #[.string s'] V fun r w' => r = .returned (.string (upS s')) ∧ Below V.heap.size V w') := fun V => upper_any s' (by have := text_size hr; omega) V
    have hK : boolK (vT s') = if upS s' = wordS true then vB true else if upS s' = wordS false then vB false else vX 2 := rfl
    rw [hK]
    clear hhc hr hK
    obtain ⟨U, hU⟩ : ∃ U, upS s' = U := ⟨_, rfl⟩
    rw [hU] at HU ⊢
    clear hU
    by_cases hA : U = wordS true
    · rw [if_pos hA]
      have hAE : U.toList = [84, 82, 85, 69] := by rw [hA, ByteArray.toList_eq]; rfl
      clear hA
      go_enter Tryz.func16, Tryz.ntmps16
      go_wp2_with fail
      refine Calls.mono (HT _).out ?_
      rintro _ w1 ⟨rfl, b1⟩
      have h1 := h0.next b1
      obtain ⟨m0, m1, m2, m3, m4, m5⟩ := h1.1.six
      have mf := h1.1.frozen
      have ml := h1.1.lt
      have h2 := h1.setP (.int .i64 2) (.int .i64 0) (.int .i64 0) (.string s') (.bool false) (.int .i64 0)
      obtain ⟨n0, n1, n2, n3, n4, n5⟩ := h2.1.six
      obtain ⟨y0, y1, y2, y3, y4, y5⟩ := h2.2.1.six
      have zf := h2.2.1.frozen
      have wl := h2.2.1.lt
      clear h0 b1 HT h1
      go_wp2_with fail
      refine Calls.mono (HU _).out ?_
      rintro _ w3 ⟨rfl, b3⟩
      have h2' := h2.next b3
      clear b3 HU n0 n1 n2 n3 n4 n5 y0 y1 y2 y3 y4 y5 zf wl h2
      go_wp2_with fail
      refine Calls.mono (rtruth_any true _) ?_
      rintro _ w2 ⟨rfl, b2⟩
      rw [vB_v]
      have h3 := h2'.next b2
      obtain ⟨p0, p1, p2, p3, p4, p5⟩ := h3.2.1.six
      have qf := h3.2.1.frozen
      have ql := h3.2.1.lt
      clear b2 h2'
      go_wp2
      exact bodyPost_ret (ret_one rfl (g := w.heap.size + 1) rfl ((h3.setR _ _ _ _ _ _).res rfl)) rfl ⟨rfl, (h3.setR _ _ _ _ _ _).2.2⟩
    · rw [if_neg hA]
      have hAE := toList_ne2 (s := U) (l := [84, 82, 85, 69]) hA
      clear hA
      by_cases hB : U = wordS false
      · rw [if_pos hB]
        have hBE : U.toList = [70, 65, 76, 83, 69] := by rw [hB, ByteArray.toList_eq]; rfl
        clear hB
        go_enter Tryz.func16, Tryz.ntmps16
        go_wp2_with fail
        refine Calls.mono (HT _).out ?_
        rintro _ w1 ⟨rfl, b1⟩
        have h1 := h0.next b1
        obtain ⟨m0, m1, m2, m3, m4, m5⟩ := h1.1.six
        have mf := h1.1.frozen
        have ml := h1.1.lt
        have h2 := h1.setP (.int .i64 2) (.int .i64 0) (.int .i64 0) (.string s') (.bool false) (.int .i64 0)
        obtain ⟨n0, n1, n2, n3, n4, n5⟩ := h2.1.six
        obtain ⟨y0, y1, y2, y3, y4, y5⟩ := h2.2.1.six
        have zf := h2.2.1.frozen
        have wl := h2.2.1.lt
        clear h0 b1 HT h1
        go_wp2_with fail
        refine Calls.mono (HU _).out ?_
        rintro _ w3 ⟨rfl, b3⟩
        have h2' := h2.next b3
        clear b3 HU n0 n1 n2 n3 n4 n5 y0 y1 y2 y3 y4 y5 zf wl h2
        go_wp2_with fail
        refine Calls.mono (rtruth_any false _) ?_
        rintro _ w2 ⟨rfl, b2⟩
        rw [vB_v]
        have h3 := h2'.next b2
        obtain ⟨p0, p1, p2, p3, p4, p5⟩ := h3.2.1.six
        have qf := h3.2.1.frozen
        have ql := h3.2.1.lt
        clear b2 h2'
        go_wp2
        exact bodyPost_ret (ret_one rfl (g := w.heap.size + 1) rfl ((h3.setR _ _ _ _ _ _).res rfl)) rfl ⟨rfl, (h3.setR _ _ _ _ _ _).2.2⟩
      · rw [if_neg hB]
        have hBE := toList_ne2 (s := U) (l := [70, 65, 76, 83, 69]) hB
        clear hB
        go_enter Tryz.func16, Tryz.ntmps16
        go_wp2_with fail
        refine Calls.mono (HT _).out ?_
        rintro _ w1 ⟨rfl, b1⟩
        have h1 := h0.next b1
        obtain ⟨m0, m1, m2, m3, m4, m5⟩ := h1.1.six
        have mf := h1.1.frozen
        have ml := h1.1.lt
        have h2 := h1.setP (.int .i64 2) (.int .i64 0) (.int .i64 0) (.string s') (.bool false) (.int .i64 0)
        obtain ⟨n0, n1, n2, n3, n4, n5⟩ := h2.1.six
        obtain ⟨y0, y1, y2, y3, y4, y5⟩ := h2.2.1.six
        have zf := h2.2.1.frozen
        have wl := h2.2.1.lt
        clear h0 b1 HT h1
        go_wp2_with fail
        refine Calls.mono (HU _).out ?_
        rintro _ w3 ⟨rfl, b3⟩
        have h2' := h2.next b3
        clear b3 HU n0 n1 n2 n3 n4 n5 y0 y1 y2 y3 y4 y5 zf wl h2
        go_wp2_with fail
        refine Calls.mono (rerr_any 2 _) ?_
        rintro _ w2 ⟨rfl, b2⟩
        rw [errW2]
        have h3 := h2'.next b2
        obtain ⟨p0, p1, p2, p3, p4, p5⟩ := h3.2.1.six
        have qf := h3.2.1.frozen
        have ql := h3.2.1.lt
        clear b2 h2'
        go_wp2
        exact bodyPost_ret (ret_one rfl (g := w.heap.size + 1) rfl ((h3.setR _ _ _ _ _ _).res rfl)) rfl ⟨rfl, (h3.setR _ _ _ _ _ _).2.2⟩
  · rw [vB_v] at HT
    clear hhc
    go_enter Tryz.func16, Tryz.ntmps16
    go_wp2_with fail
    refine Calls.mono (HT _).out ?_
    rintro _ w1 ⟨rfl, b1⟩
    have h1 := h0.next b1
    obtain ⟨m0, m1, m2, m3, m4, m5⟩ := h1.1.six
    have mf := h1.1.frozen
    have ml := h1.1.lt
    have h2 := h1.setP (.int .i64 3) (.int .i64 0) (.int .i64 0) (.string .empty) (.bool b') (.int .i64 0)
    obtain ⟨n0, n1, n2, n3, n4, n5⟩ := h2.1.six
    obtain ⟨y0, y1, y2, y3, y4, y5⟩ := h2.2.1.six
    have zf := h2.2.1.frozen
    have wl := h2.2.1.lt
    clear h0 b1 HT h1
    go_wp2
    exact bodyPost_ret (ret_one rfl (g := w.heap.size + 1) rfl ((h2.setR _ _ _ _ _ _).res rfl)) rfl ⟨rfl, (h2.setR _ _ _ _ _ _).2.2⟩
  · rw [vX_v] at HT
    clear hhc
    go_enter Tryz.func16, Tryz.ntmps16
    go_wp2_with fail
    refine Calls.mono (HT _).out ?_
    rintro _ w1 ⟨rfl, b1⟩
    have h1 := h0.next b1
    obtain ⟨m0, m1, m2, m3, m4, m5⟩ := h1.1.six
    have mf := h1.1.frozen
    have ml := h1.1.lt
    have h2 := h1.setP (.int .i64 4) (.int .i64 0) (.int .i64 0) (.string .empty) (.bool false) (.int .i64 x')
    obtain ⟨n0, n1, n2, n3, n4, n5⟩ := h2.1.six
    obtain ⟨y0, y1, y2, y3, y4, y5⟩ := h2.2.1.six
    have zf := h2.2.1.frozen
    have wl := h2.2.1.lt
    clear h0 b1 HT h1
    go_wp2
    exact bodyPost_ret (ret_one rfl (g := w.heap.size + 1) rfl ((h2.setR _ _ _ _ _ _).res rfl)) rfl ⟨rfl, (h2.setR _ _ _ _ _ _).2.2⟩
end Go.Proofs.YtnhflnpjepiceaaGreatDoor
/- val: the document's Names, Show, ErrCode. -/
namespace Go.Proofs.YtnhflnpjepiceaaGreatDoor
open Go.RowKit

def namesA : Array Value := #[.string ⟨#[]⟩, .string ⟨#[35, 68, 73, 86, 47, 48, 33]⟩, .string ⟨#[35, 86, 65, 76, 85, 69, 33]⟩, .string ⟨#[35, 82, 69, 70, 33]⟩, .string ⟨#[35, 78, 65, 77, 69, 63]⟩, .string ⟨#[35, 78, 85, 77, 33]⟩, .string ⟨#[35, 78, 47, 65]⟩, .string ⟨#[35, 67, 89, 67, 76, 69, 33]⟩]
set_option maxRecDepth 100000 in
set_option maxHeartbeats 2000000 in
theorem names_any (w : World) : Calls Tryz.prog 22 #[] w fun r w' => r = .returned (.slice (some ⟨w.heap.size, 0, none⟩) 8 8) ∧ w' = w.alloc (.cells namesA 9) := by
  unfold namesA
  go_enter Tryz.func22, Tryz.ntmps22
  go_wp2
  go_ret
  exact ⟨rfl, rfl⟩
theorem names_row (w : World) : Row (w.alloc (.cells namesA 9)) w.heap.size 9 #[.string ⟨#[]⟩, .string ⟨#[35, 68, 73, 86, 47, 48, 33]⟩, .string ⟨#[35, 86, 65, 76, 85, 69, 33]⟩, .string ⟨#[35, 82, 69, 70, 33]⟩, .string ⟨#[35, 78, 65, 77, 69, 63]⟩, .string ⟨#[35, 78, 85, 77, 33]⟩, .string ⟨#[35, 78, 47, 65]⟩, .string ⟨#[35, 67, 89, 67, 76, 69, 33]⟩] := Row.new w 9 _
set_option maxRecDepth 100000 in
set_option maxHeartbeats 4000000 in
theorem rvshow_any (v : Vl) (hc : I64 v.c) (w : World) : Calls Tryz.prog 18 #[v.v] w fun r w' => r = .returned (.string (showV v)) ∧ Below w.heap.size w w' := by
  have HT : ∀ V, Hid (Calls Tryz.prog 50 #[v.v] V fun r w' => r = .returned (cleanV v).v ∧ Below V.heap.size V w') := fun V => rtaken_any v hc V
  have hcb := clean_bd hc
  have hcr := clean_right v
  unfold showV textV
  obtain ⟨u, hu⟩ : ∃ u, cleanV v = u := ⟨_, rfl⟩
  rw [hu] at HT hcb hcr ⊢
  clear hu hc
  obtain ⟨k, c, e, s, b, x, hv⟩ := v.v_form
  rw [hv] at HT ⊢
  clear hv
  have h0 := R1.start w #[.int .i64 k, .int .i64 c, .int .i64 e, .string s, .bool b, .int .i64 x]
  by_cases h4 : u.k = 4
  · rw [if_pos h4]
    rcases right_cases hcr with rfl | ⟨c', e', rfl, hr⟩ | ⟨s', rfl, hr⟩ | ⟨b', rfl⟩ | ⟨x', rfl, hr⟩
    · cases h4
    · cases h4
    · cases h4
    · cases h4
    · rw [vX_v] at HT
      show Calls Tryz.prog 18 _ w fun r w' => r = .returned (.string (nameS x')) ∧ _
      clear h4 hcb hcr
      have hx' : 1 ≤ x' ∧ x' ≤ 7 := of_decide_eq_true hr
      clear hr
      obtain hx | hx | hx | hx | hx | hx | hx : x' = 1 ∨ x' = 2 ∨ x' = 3 ∨ x' = 4 ∨ x' = 5 ∨ x' = 6 ∨ x' = 7 := by omega
      · subst hx
        clear hx'
        go_enter Tryz.func18, Tryz.ntmps18
        go_wp2_with fail
        refine Calls.mono (HT _).out ?_
        rintro _ w1 ⟨rfl, b1⟩
        have h1 := h0.next b1
        obtain ⟨m0, m1, m2, m3, m4, m5⟩ := h1.1.six
        have mf := h1.1.frozen
        have ml := h1.1.lt
        have h2 := h1.set (.int .i64 4) (.int .i64 0) (.int .i64 0) (.string .empty) (.bool false) (.int .i64 1)
        obtain ⟨n0, n1, n2, n3, n4, n5⟩ := h2.1.six
        clear h0 b1 HT h1
        go_upto_region 3 with fail
        generalize ((((((w1.setCell ⟨w.heap.size, 0, none⟩ (.int .i64 4)).setCell ⟨w.heap.size, 1, none⟩ (.int .i64 0)).setCell ⟨w.heap.size, 2, none⟩ (.int .i64 0)).setCell ⟨w.heap.size, 3, none⟩ (.string .empty)).setCell ⟨w.heap.size, 4, none⟩ (.bool false)).setCell ⟨w.heap.size, 5, none⟩ (.int .i64 1)) = W at *
        clear m0 m1 m2 m3 m4 m5 mf ml n0 n1 n2 n3 n4 n5
        have hS := h2.drew
        refine wp_region_M (fun wx : World => R1 w wx #[.int .i64 4, .int .i64 0, .int .i64 0, .string .empty, .bool false, .int .i64 1]) (fun j => decide (j < 3)) 6 rfl (by kernel_rfl) ?_
        refine wpM_held 1 (v := ?_) rfl (by kernel_rfl) (by kernel_rfl) rfl (fun _ _ _ h => h) rfl (by intro wx hx; go_simp <;> rfl) hS ?_
        refine wpM_held 2 (v := .int .i64 1) rfl (by kernel_rfl) (by kernel_rfl) rfl (fun _ _ _ h => h) rfl (by intro wx hx; obtain ⟨z0, z1, z2, z3, z4, z5⟩ := hx.1.six; go_simp <;> rfl) hS ?_
        refine wpM_one 0 rfl (by kernel_rfl) rfl ?_
        go_wp2_with fail
        refine Calls.mono (names_any _) ?_
        rintro _ w3 ⟨rfl, hw3⟩
        have hN := names_row W.drew
        rw [← hw3] at hN
        have h3 : R1 w w3 #[.int .i64 4, .int .i64 0, .int .i64 0, .string .empty, .bool false, .int .i64 1] := by rw [hw3]; exact hS.alloc _
        clear hw3
        generalize W.drew.heap.size = K at *
        have c0 : w3.cell? ⟨K, 1, none⟩ = some (.string ⟨#[35, 68, 73, 86, 47, 48, 33]⟩) := hN.cell rfl
        have hf := hN.frozen
        go_wp2_with fail
        refine ⟨fun _ => h3, ?_⟩
        refine wpM_one 3 rfl (by kernel_rfl) rfl ?_
        go_wp2_with fail
        refine ⟨fun h => absurd h (by decide), ?_⟩
        refine wpM_one 4 rfl (by kernel_rfl) rfl ?_
        go_wp2_with fail
        refine ⟨fun h => absurd h (by decide), ?_⟩
        refine wpM_one 5 rfl (by kernel_rfl) rfl ?_
        go_wp2_with fail
        refine ⟨fun h => absurd h (by decide), ?_⟩
        refine wpM_done (by kernel_rfl) ?_
        go_wp2
        go_ret
        exact ⟨rfl, h3.2⟩
      · subst hx
        clear hx'
        go_enter Tryz.func18, Tryz.ntmps18
        go_wp2_with fail
        refine Calls.mono (HT _).out ?_
        rintro _ w1 ⟨rfl, b1⟩
        have h1 := h0.next b1
        obtain ⟨m0, m1, m2, m3, m4, m5⟩ := h1.1.six
        have mf := h1.1.frozen
        have ml := h1.1.lt
        have h2 := h1.set (.int .i64 4) (.int .i64 0) (.int .i64 0) (.string .empty) (.bool false) (.int .i64 2)
        obtain ⟨n0, n1, n2, n3, n4, n5⟩ := h2.1.six
        clear h0 b1 HT h1
        go_upto_region 3 with fail
        generalize ((((((w1.setCell ⟨w.heap.size, 0, none⟩ (.int .i64 4)).setCell ⟨w.heap.size, 1, none⟩ (.int .i64 0)).setCell ⟨w.heap.size, 2, none⟩ (.int .i64 0)).setCell ⟨w.heap.size, 3, none⟩ (.string .empty)).setCell ⟨w.heap.size, 4, none⟩ (.bool false)).setCell ⟨w.heap.size, 5, none⟩ (.int .i64 2)) = W at *
        clear m0 m1 m2 m3 m4 m5 mf ml n0 n1 n2 n3 n4 n5
        have hS := h2.drew
        refine wp_region_M (fun wx : World => R1 w wx #[.int .i64 4, .int .i64 0, .int .i64 0, .string .empty, .bool false, .int .i64 2]) (fun j => decide (j < 3)) 6 rfl (by kernel_rfl) ?_
        refine wpM_held 1 (v := ?_) rfl (by kernel_rfl) (by kernel_rfl) rfl (fun _ _ _ h => h) rfl (by intro wx hx; go_simp <;> rfl) hS ?_
        refine wpM_held 2 (v := .int .i64 2) rfl (by kernel_rfl) (by kernel_rfl) rfl (fun _ _ _ h => h) rfl (by intro wx hx; obtain ⟨z0, z1, z2, z3, z4, z5⟩ := hx.1.six; go_simp <;> rfl) hS ?_
        refine wpM_one 0 rfl (by kernel_rfl) rfl ?_
        go_wp2_with fail
        refine Calls.mono (names_any _) ?_
        rintro _ w3 ⟨rfl, hw3⟩
        have hN := names_row W.drew
        rw [← hw3] at hN
        have h3 : R1 w w3 #[.int .i64 4, .int .i64 0, .int .i64 0, .string .empty, .bool false, .int .i64 2] := by rw [hw3]; exact hS.alloc _
        clear hw3
        generalize W.drew.heap.size = K at *
        have c0 : w3.cell? ⟨K, 2, none⟩ = some (.string ⟨#[35, 86, 65, 76, 85, 69, 33]⟩) := hN.cell rfl
        have hf := hN.frozen
        go_wp2_with fail
        refine ⟨fun _ => h3, ?_⟩
        refine wpM_one 3 rfl (by kernel_rfl) rfl ?_
        go_wp2_with fail
        refine ⟨fun h => absurd h (by decide), ?_⟩
        refine wpM_one 4 rfl (by kernel_rfl) rfl ?_
        go_wp2_with fail
        refine ⟨fun h => absurd h (by decide), ?_⟩
        refine wpM_one 5 rfl (by kernel_rfl) rfl ?_
        go_wp2_with fail
        refine ⟨fun h => absurd h (by decide), ?_⟩
        refine wpM_done (by kernel_rfl) ?_
        go_wp2
        go_ret
        exact ⟨rfl, h3.2⟩
      · subst hx
        clear hx'
        go_enter Tryz.func18, Tryz.ntmps18
        go_wp2_with fail
        refine Calls.mono (HT _).out ?_
        rintro _ w1 ⟨rfl, b1⟩
        have h1 := h0.next b1
        obtain ⟨m0, m1, m2, m3, m4, m5⟩ := h1.1.six
        have mf := h1.1.frozen
        have ml := h1.1.lt
        have h2 := h1.set (.int .i64 4) (.int .i64 0) (.int .i64 0) (.string .empty) (.bool false) (.int .i64 3)
        obtain ⟨n0, n1, n2, n3, n4, n5⟩ := h2.1.six
        clear h0 b1 HT h1
        go_upto_region 3 with fail
        generalize ((((((w1.setCell ⟨w.heap.size, 0, none⟩ (.int .i64 4)).setCell ⟨w.heap.size, 1, none⟩ (.int .i64 0)).setCell ⟨w.heap.size, 2, none⟩ (.int .i64 0)).setCell ⟨w.heap.size, 3, none⟩ (.string .empty)).setCell ⟨w.heap.size, 4, none⟩ (.bool false)).setCell ⟨w.heap.size, 5, none⟩ (.int .i64 3)) = W at *
        clear m0 m1 m2 m3 m4 m5 mf ml n0 n1 n2 n3 n4 n5
        have hS := h2.drew
        refine wp_region_M (fun wx : World => R1 w wx #[.int .i64 4, .int .i64 0, .int .i64 0, .string .empty, .bool false, .int .i64 3]) (fun j => decide (j < 3)) 6 rfl (by kernel_rfl) ?_
        refine wpM_held 1 (v := ?_) rfl (by kernel_rfl) (by kernel_rfl) rfl (fun _ _ _ h => h) rfl (by intro wx hx; go_simp <;> rfl) hS ?_
        refine wpM_held 2 (v := .int .i64 3) rfl (by kernel_rfl) (by kernel_rfl) rfl (fun _ _ _ h => h) rfl (by intro wx hx; obtain ⟨z0, z1, z2, z3, z4, z5⟩ := hx.1.six; go_simp <;> rfl) hS ?_
        refine wpM_one 0 rfl (by kernel_rfl) rfl ?_
        go_wp2_with fail
        refine Calls.mono (names_any _) ?_
        rintro _ w3 ⟨rfl, hw3⟩
        have hN := names_row W.drew
        rw [← hw3] at hN
        have h3 : R1 w w3 #[.int .i64 4, .int .i64 0, .int .i64 0, .string .empty, .bool false, .int .i64 3] := by rw [hw3]; exact hS.alloc _
        clear hw3
        generalize W.drew.heap.size = K at *
        have c0 : w3.cell? ⟨K, 3, none⟩ = some (.string ⟨#[35, 82, 69, 70, 33]⟩) := hN.cell rfl
        have hf := hN.frozen
        go_wp2_with fail
        refine ⟨fun _ => h3, ?_⟩
        refine wpM_one 3 rfl (by kernel_rfl) rfl ?_
        go_wp2_with fail
        refine ⟨fun h => absurd h (by decide), ?_⟩
        refine wpM_one 4 rfl (by kernel_rfl) rfl ?_
        go_wp2_with fail
        refine ⟨fun h => absurd h (by decide), ?_⟩
        refine wpM_one 5 rfl (by kernel_rfl) rfl ?_
        go_wp2_with fail
        refine ⟨fun h => absurd h (by decide), ?_⟩
        refine wpM_done (by kernel_rfl) ?_
        go_wp2
        go_ret
        exact ⟨rfl, h3.2⟩
      · subst hx
        clear hx'
        go_enter Tryz.func18, Tryz.ntmps18
        go_wp2_with fail
        refine Calls.mono (HT _).out ?_
        rintro _ w1 ⟨rfl, b1⟩
        have h1 := h0.next b1
        obtain ⟨m0, m1, m2, m3, m4, m5⟩ := h1.1.six
        have mf := h1.1.frozen
        have ml := h1.1.lt
        have h2 := h1.set (.int .i64 4) (.int .i64 0) (.int .i64 0) (.string .empty) (.bool false) (.int .i64 4)
        obtain ⟨n0, n1, n2, n3, n4, n5⟩ := h2.1.six
        clear h0 b1 HT h1
        go_upto_region 3 with fail
        generalize ((((((w1.setCell ⟨w.heap.size, 0, none⟩ (.int .i64 4)).setCell ⟨w.heap.size, 1, none⟩ (.int .i64 0)).setCell ⟨w.heap.size, 2, none⟩ (.int .i64 0)).setCell ⟨w.heap.size, 3, none⟩ (.string .empty)).setCell ⟨w.heap.size, 4, none⟩ (.bool false)).setCell ⟨w.heap.size, 5, none⟩ (.int .i64 4)) = W at *
        clear m0 m1 m2 m3 m4 m5 mf ml n0 n1 n2 n3 n4 n5
        have hS := h2.drew
        refine wp_region_M (fun wx : World => R1 w wx #[.int .i64 4, .int .i64 0, .int .i64 0, .string .empty, .bool false, .int .i64 4]) (fun j => decide (j < 3)) 6 rfl (by kernel_rfl) ?_
        refine wpM_held 1 (v := ?_) rfl (by kernel_rfl) (by kernel_rfl) rfl (fun _ _ _ h => h) rfl (by intro wx hx; go_simp <;> rfl) hS ?_
        refine wpM_held 2 (v := .int .i64 4) rfl (by kernel_rfl) (by kernel_rfl) rfl (fun _ _ _ h => h) rfl (by intro wx hx; obtain ⟨z0, z1, z2, z3, z4, z5⟩ := hx.1.six; go_simp <;> rfl) hS ?_
        refine wpM_one 0 rfl (by kernel_rfl) rfl ?_
        go_wp2_with fail
        refine Calls.mono (names_any _) ?_
        rintro _ w3 ⟨rfl, hw3⟩
        have hN := names_row W.drew
        rw [← hw3] at hN
        have h3 : R1 w w3 #[.int .i64 4, .int .i64 0, .int .i64 0, .string .empty, .bool false, .int .i64 4] := by rw [hw3]; exact hS.alloc _
        clear hw3
        generalize W.drew.heap.size = K at *
        have c0 : w3.cell? ⟨K, 4, none⟩ = some (.string ⟨#[35, 78, 65, 77, 69, 63]⟩) := hN.cell rfl
        have hf := hN.frozen
        go_wp2_with fail
        refine ⟨fun _ => h3, ?_⟩
        refine wpM_one 3 rfl (by kernel_rfl) rfl ?_
        go_wp2_with fail
        refine ⟨fun h => absurd h (by decide), ?_⟩
        refine wpM_one 4 rfl (by kernel_rfl) rfl ?_
        go_wp2_with fail
        refine ⟨fun h => absurd h (by decide), ?_⟩
        refine wpM_one 5 rfl (by kernel_rfl) rfl ?_
        go_wp2_with fail
        refine ⟨fun h => absurd h (by decide), ?_⟩
        refine wpM_done (by kernel_rfl) ?_
        go_wp2
        go_ret
        exact ⟨rfl, h3.2⟩
      · subst hx
        clear hx'
        go_enter Tryz.func18, Tryz.ntmps18
        go_wp2_with fail
        refine Calls.mono (HT _).out ?_
        rintro _ w1 ⟨rfl, b1⟩
        have h1 := h0.next b1
        obtain ⟨m0, m1, m2, m3, m4, m5⟩ := h1.1.six
        have mf := h1.1.frozen
        have ml := h1.1.lt
        have h2 := h1.set (.int .i64 4) (.int .i64 0) (.int .i64 0) (.string .empty) (.bool false) (.int .i64 5)
        obtain ⟨n0, n1, n2, n3, n4, n5⟩ := h2.1.six
        clear h0 b1 HT h1
        go_upto_region 3 with fail
        generalize ((((((w1.setCell ⟨w.heap.size, 0, none⟩ (.int .i64 4)).setCell ⟨w.heap.size, 1, none⟩ (.int .i64 0)).setCell ⟨w.heap.size, 2, none⟩ (.int .i64 0)).setCell ⟨w.heap.size, 3, none⟩ (.string .empty)).setCell ⟨w.heap.size, 4, none⟩ (.bool false)).setCell ⟨w.heap.size, 5, none⟩ (.int .i64 5)) = W at *
        clear m0 m1 m2 m3 m4 m5 mf ml n0 n1 n2 n3 n4 n5
        have hS := h2.drew
        refine wp_region_M (fun wx : World => R1 w wx #[.int .i64 4, .int .i64 0, .int .i64 0, .string .empty, .bool false, .int .i64 5]) (fun j => decide (j < 3)) 6 rfl (by kernel_rfl) ?_
        refine wpM_held 1 (v := ?_) rfl (by kernel_rfl) (by kernel_rfl) rfl (fun _ _ _ h => h) rfl (by intro wx hx; go_simp <;> rfl) hS ?_
        refine wpM_held 2 (v := .int .i64 5) rfl (by kernel_rfl) (by kernel_rfl) rfl (fun _ _ _ h => h) rfl (by intro wx hx; obtain ⟨z0, z1, z2, z3, z4, z5⟩ := hx.1.six; go_simp <;> rfl) hS ?_
        refine wpM_one 0 rfl (by kernel_rfl) rfl ?_
        go_wp2_with fail
        refine Calls.mono (names_any _) ?_
        rintro _ w3 ⟨rfl, hw3⟩
        have hN := names_row W.drew
        rw [← hw3] at hN
        have h3 : R1 w w3 #[.int .i64 4, .int .i64 0, .int .i64 0, .string .empty, .bool false, .int .i64 5] := by rw [hw3]; exact hS.alloc _
        clear hw3
        generalize W.drew.heap.size = K at *
        have c0 : w3.cell? ⟨K, 5, none⟩ = some (.string ⟨#[35, 78, 85, 77, 33]⟩) := hN.cell rfl
        have hf := hN.frozen
        go_wp2_with fail
        refine ⟨fun _ => h3, ?_⟩
        refine wpM_one 3 rfl (by kernel_rfl) rfl ?_
        go_wp2_with fail
        refine ⟨fun h => absurd h (by decide), ?_⟩
        refine wpM_one 4 rfl (by kernel_rfl) rfl ?_
        go_wp2_with fail
        refine ⟨fun h => absurd h (by decide), ?_⟩
        refine wpM_one 5 rfl (by kernel_rfl) rfl ?_
        go_wp2_with fail
        refine ⟨fun h => absurd h (by decide), ?_⟩
        refine wpM_done (by kernel_rfl) ?_
        go_wp2
        go_ret
        exact ⟨rfl, h3.2⟩
      · subst hx
        clear hx'
        go_enter Tryz.func18, Tryz.ntmps18
        go_wp2_with fail
        refine Calls.mono (HT _).out ?_
        rintro _ w1 ⟨rfl, b1⟩
        have h1 := h0.next b1
        obtain ⟨m0, m1, m2, m3, m4, m5⟩ := h1.1.six
        have mf := h1.1.frozen
        have ml := h1.1.lt
        have h2 := h1.set (.int .i64 4) (.int .i64 0) (.int .i64 0) (.string .empty) (.bool false) (.int .i64 6)
        obtain ⟨n0, n1, n2, n3, n4, n5⟩ := h2.1.six
        clear h0 b1 HT h1
        go_upto_region 3 with fail
        generalize ((((((w1.setCell ⟨w.heap.size, 0, none⟩ (.int .i64 4)).setCell ⟨w.heap.size, 1, none⟩ (.int .i64 0)).setCell ⟨w.heap.size, 2, none⟩ (.int .i64 0)).setCell ⟨w.heap.size, 3, none⟩ (.string .empty)).setCell ⟨w.heap.size, 4, none⟩ (.bool false)).setCell ⟨w.heap.size, 5, none⟩ (.int .i64 6)) = W at *
        clear m0 m1 m2 m3 m4 m5 mf ml n0 n1 n2 n3 n4 n5
        have hS := h2.drew
        refine wp_region_M (fun wx : World => R1 w wx #[.int .i64 4, .int .i64 0, .int .i64 0, .string .empty, .bool false, .int .i64 6]) (fun j => decide (j < 3)) 6 rfl (by kernel_rfl) ?_
        refine wpM_held 1 (v := ?_) rfl (by kernel_rfl) (by kernel_rfl) rfl (fun _ _ _ h => h) rfl (by intro wx hx; go_simp <;> rfl) hS ?_
        refine wpM_held 2 (v := .int .i64 6) rfl (by kernel_rfl) (by kernel_rfl) rfl (fun _ _ _ h => h) rfl (by intro wx hx; obtain ⟨z0, z1, z2, z3, z4, z5⟩ := hx.1.six; go_simp <;> rfl) hS ?_
        refine wpM_one 0 rfl (by kernel_rfl) rfl ?_
        go_wp2_with fail
        refine Calls.mono (names_any _) ?_
        rintro _ w3 ⟨rfl, hw3⟩
        have hN := names_row W.drew
        rw [← hw3] at hN
        have h3 : R1 w w3 #[.int .i64 4, .int .i64 0, .int .i64 0, .string .empty, .bool false, .int .i64 6] := by rw [hw3]; exact hS.alloc _
        clear hw3
        generalize W.drew.heap.size = K at *
        have c0 : w3.cell? ⟨K, 6, none⟩ = some (.string ⟨#[35, 78, 47, 65]⟩) := hN.cell rfl
        have hf := hN.frozen
        go_wp2_with fail
        refine ⟨fun _ => h3, ?_⟩
        refine wpM_one 3 rfl (by kernel_rfl) rfl ?_
        go_wp2_with fail
        refine ⟨fun h => absurd h (by decide), ?_⟩
        refine wpM_one 4 rfl (by kernel_rfl) rfl ?_
        go_wp2_with fail
        refine ⟨fun h => absurd h (by decide), ?_⟩
        refine wpM_one 5 rfl (by kernel_rfl) rfl ?_
        go_wp2_with fail
        refine ⟨fun h => absurd h (by decide), ?_⟩
        refine wpM_done (by kernel_rfl) ?_
        go_wp2
        go_ret
        exact ⟨rfl, h3.2⟩
      · subst hx
        clear hx'
        go_enter Tryz.func18, Tryz.ntmps18
        go_wp2_with fail
        refine Calls.mono (HT _).out ?_
        rintro _ w1 ⟨rfl, b1⟩
        have h1 := h0.next b1
        obtain ⟨m0, m1, m2, m3, m4, m5⟩ := h1.1.six
        have mf := h1.1.frozen
        have ml := h1.1.lt
        have h2 := h1.set (.int .i64 4) (.int .i64 0) (.int .i64 0) (.string .empty) (.bool false) (.int .i64 7)
        obtain ⟨n0, n1, n2, n3, n4, n5⟩ := h2.1.six
        clear h0 b1 HT h1
        go_upto_region 3 with fail
        generalize ((((((w1.setCell ⟨w.heap.size, 0, none⟩ (.int .i64 4)).setCell ⟨w.heap.size, 1, none⟩ (.int .i64 0)).setCell ⟨w.heap.size, 2, none⟩ (.int .i64 0)).setCell ⟨w.heap.size, 3, none⟩ (.string .empty)).setCell ⟨w.heap.size, 4, none⟩ (.bool false)).setCell ⟨w.heap.size, 5, none⟩ (.int .i64 7)) = W at *
        clear m0 m1 m2 m3 m4 m5 mf ml n0 n1 n2 n3 n4 n5
        have hS := h2.drew
        refine wp_region_M (fun wx : World => R1 w wx #[.int .i64 4, .int .i64 0, .int .i64 0, .string .empty, .bool false, .int .i64 7]) (fun j => decide (j < 3)) 6 rfl (by kernel_rfl) ?_
        refine wpM_held 1 (v := ?_) rfl (by kernel_rfl) (by kernel_rfl) rfl (fun _ _ _ h => h) rfl (by intro wx hx; go_simp <;> rfl) hS ?_
        refine wpM_held 2 (v := .int .i64 7) rfl (by kernel_rfl) (by kernel_rfl) rfl (fun _ _ _ h => h) rfl (by intro wx hx; obtain ⟨z0, z1, z2, z3, z4, z5⟩ := hx.1.six; go_simp <;> rfl) hS ?_
        refine wpM_one 0 rfl (by kernel_rfl) rfl ?_
        go_wp2_with fail
        refine Calls.mono (names_any _) ?_
        rintro _ w3 ⟨rfl, hw3⟩
        have hN := names_row W.drew
        rw [← hw3] at hN
        have h3 : R1 w w3 #[.int .i64 4, .int .i64 0, .int .i64 0, .string .empty, .bool false, .int .i64 7] := by rw [hw3]; exact hS.alloc _
        clear hw3
        generalize W.drew.heap.size = K at *
        have c0 : w3.cell? ⟨K, 7, none⟩ = some (.string ⟨#[35, 67, 89, 67, 76, 69, 33]⟩) := hN.cell rfl
        have hf := hN.frozen
        go_wp2_with fail
        refine ⟨fun _ => h3, ?_⟩
        refine wpM_one 3 rfl (by kernel_rfl) rfl ?_
        go_wp2_with fail
        refine ⟨fun h => absurd h (by decide), ?_⟩
        refine wpM_one 4 rfl (by kernel_rfl) rfl ?_
        go_wp2_with fail
        refine ⟨fun h => absurd h (by decide), ?_⟩
        refine wpM_one 5 rfl (by kernel_rfl) rfl ?_
        go_wp2_with fail
        refine ⟨fun h => absurd h (by decide), ?_⟩
        refine wpM_done (by kernel_rfl) ?_
        go_wp2
        go_ret
        exact ⟨rfl, h3.2⟩
  · rw [if_neg h4]
    have HX : ∀ V, Hid (Calls Tryz.prog 14 #[u.v] V fun r w' => r = .returned (.agg #[.int .i64 2, .int .i64 0, .int .i64 0, .string (textK u).s, .bool false, .int .i64 0]) ∧ Below V.heap.size V w') := fun V => by
      have h := rvtext_any u hcb V
      rw [text_of hcr h4] at h
      exact h
    generalize (textK u).s = t at HX ⊢
    obtain ⟨k', c', e', s', b', x'⟩ := u
    unfold Vl.v Vl.cells at HT HX
    simp only at HT HX h4
    have h5 : (k' == 4) = false := by simpa using h4
    clear h4 hcb hcr
    go_enter Tryz.func18, Tryz.ntmps18
    go_wp2_with fail
    refine Calls.mono (HT _).out ?_
    rintro _ w1 ⟨rfl, b1⟩
    have h1 := h0.next b1
    obtain ⟨m0, m1, m2, m3, m4, m5⟩ := h1.1.six
    have mf := h1.1.frozen
    have ml := h1.1.lt
    have h2 := h1.set (.int .i64 k') (.int .i64 c') (.int .i64 e') (.string s') (.bool b') (.int .i64 x')
    obtain ⟨n0, n1, n2, n3, n4, n5⟩ := h2.1.six
    clear h0 b1 HT h1
    go_upto_region 2 with fail
    generalize ((((((w1.setCell ⟨w.heap.size, 0, none⟩ (.int .i64 k')).setCell ⟨w.heap.size, 1, none⟩ (.int .i64 c')).setCell ⟨w.heap.size, 2, none⟩ (.int .i64 e')).setCell ⟨w.heap.size, 3, none⟩ (.string s')).setCell ⟨w.heap.size, 4, none⟩ (.bool b')).setCell ⟨w.heap.size, 5, none⟩ (.int .i64 x')) = W at *
    clear m0 m1 m2 m3 m4 m5 mf ml
    go_wp2_with fail
    refine Calls.mono (HX W).out ?_
    rintro _ w2 ⟨rfl, b2⟩
    have hf := field25 2 0 0 0 t false
    go_wp2
    go_ret
    exact ⟨rfl, (h2.next b2).2⟩
end Go.Proofs.YtnhflnpjepiceaaGreatDoor
/- val: the document's Num. -/
namespace Go.Proofs.YtnhflnpjepiceaaGreatDoor
open Go.RowKit

theorem dw_nil {α : Type} (p : α → Bool) : ∀ l : List α, l.dropWhile p = [] ↔ ∀ x ∈ l, p x = true
  | [] => by simp
  | a :: l => by
    cases h : p a with
    | true => rw [List.dropWhile_cons_of_pos h, dw_nil p l]; simp [h]
    | false => rw [List.dropWhile_cons_of_neg (by simp [h])]; simp [h]
theorem tw_all {α : Type} (p : α → Bool) : ∀ l : List α, ∀ y ∈ l.takeWhile p, p y = true
  | [], y, hy => by simp at hy
  | a :: l, y, hy => by
    cases h : p a with
    | true =>
      rw [List.takeWhile_cons_of_pos h] at hy
      rcases List.mem_cons.1 hy with rfl | hy
      · exact h
      · exact tw_all p l y hy
    | false =>
      rw [List.takeWhile_cons_of_neg (by simp [h])] at hy
      cases hy
theorem rdrop_append {α : Type} (p : α → Bool) (a b : List α) (h : ∃ y ∈ b, p y = false) : ((a ++ b).reverse.dropWhile p).reverse = a ++ (b.reverse.dropWhile p).reverse := by
  rw [List.reverse_append, List.dropWhile_append]
  have hne : (b.reverse.dropWhile p).isEmpty = false := by
    cases hh : b.reverse.dropWhile p with
    | cons _ _ => rfl
    | nil =>
      exfalso
      obtain ⟨y, hy, hp⟩ := h
      have := (dw_nil _ _).1 hh y (by simpa using hy)
      rw [hp] at this
      cases this
  rw [hne, if_neg (by simp), List.reverse_append, List.reverse_reverse]
/-- Blanks may go first from the left or from the right. -/
theorem trim_comm (l : List UInt8) : Lib.trimRightB (Lib.trimLeftB l 32) 32 = Lib.trimB l 32 := by
  unfold Lib.trimB Lib.trimLeftB Lib.trimRightB
  have hl := List.takeWhile_append_dropWhile (p := (· == (32 : UInt8))) (l := l)
  cases hd : l.dropWhile (· == (32 : UInt8)) with
  | nil =>
    have hall := (dw_nil _ _).1 hd
    have hr : l.reverse.dropWhile (· == (32 : UInt8)) = [] := (dw_nil _ _).2 (fun y hy => hall y (by simpa using hy))
    rw [hr]; rfl
  | cons x t =>
    have hx : (x == (32 : UInt8)) = false := by
      have := List.head_dropWhile_not (p := (· == (32 : UInt8))) (l := l) (by rw [hd]; simp)
      simpa [hd] using this
    rw [hd] at hl
    have ha : ∀ y ∈ l.takeWhile (· == (32 : UInt8)), (y == (32 : UInt8)) = true := fun y hy => tw_all _ _ y hy
    generalize l.takeWhile (· == (32 : UInt8)) = a at hl ha
    rw [← hl, rdrop_append _ a (x :: t) ⟨x, by simp, hx⟩]
    have h1 : ∃ t', ((x :: t).reverse.dropWhile (· == (32 : UInt8))).reverse = x :: t' := by
      by_cases hy : ∃ y ∈ t, (y == (32 : UInt8)) = false
      · exact ⟨_, rdrop_append _ [x] t hy⟩
      · have hall : ∀ y ∈ t, (y == (32 : UInt8)) = true := fun y h => by
          cases hq : (y == (32 : UInt8)) with
          | true => rfl
          | false => exact absurd ⟨y, h, hq⟩ hy
        have hr : t.reverse.dropWhile (· == (32 : UInt8)) = [] := (dw_nil _ _).2 (fun y hy => hall y (by simpa using hy))
        refine ⟨[], ?_⟩
        rw [List.reverse_cons, List.dropWhile_append, hr]
        simp [hx]
    obtain ⟨t', h1⟩ := h1
    rw [h1, List.dropWhile_append, (dw_nil _ _).2 ha]
    simp [hx]
set_option maxRecDepth 100000 in
set_option maxHeartbeats 2000000 in
theorem rvnum_any (v : Vl) (hc : I64 v.c) (w : World) : Calls Tryz.prog 12 #[v.v] w fun r w' => r = .returned (numV v).v ∧ Below w.heap.size w w' := by
  have HT : ∀ V, Hid (Calls Tryz.prog 50 #[v.v] V fun r w' => r = .returned (cleanV v).v ∧ Below V.heap.size V w') := fun V => rtaken_any v hc V
  obtain ⟨u, hu⟩ : ∃ u, cleanV v = u := ⟨_, rfl⟩
  have hcs := clean_cases v
  unfold numV
  rw [hu] at HT hcs ⊢
  have hhc := hc
  clear hu hc
  obtain ⟨k, c, e, s, b, x, hv⟩ := v.v_form
  rw [hv] at HT ⊢
  clear hv
  have h0 := PR.start w #[.int .i64 k, .int .i64 c, .int .i64 e, .string s, .bool b, .int .i64 x] #[.int .i64 0, .int .i64 0, .int .i64 0, .string .empty, .bool false, .int .i64 0]
  rcases hcs with rfl | ⟨c', e', rfl, hr⟩ | ⟨s', rfl, hr⟩ | ⟨b', rfl⟩ | ⟨x', rfl, hr⟩
  · rw [vE_v] at HT
    go_enter Tryz.func12, Tryz.ntmps12
    go_wp2_with fail
    refine Calls.mono (HT _).out ?_
    rintro _ w1 ⟨rfl, b1⟩
    have h1 := h0.next b1
    obtain ⟨m0, m1, m2, m3, m4, m5⟩ := h1.1.six
    have mf := h1.1.frozen
    have ml := h1.1.lt
    have h2 := h1.setP (.int .i64 0) (.int .i64 0) (.int .i64 0) (.string .empty) (.bool false) (.int .i64 0)
    obtain ⟨n0, n1, n2, n3, n4, n5⟩ := h2.1.six
    obtain ⟨y0, y1, y2, y3, y4, y5⟩ := h2.2.1.six
    have zf := h2.2.1.frozen
    have wl := h2.2.1.lt
    clear h0 b1 HT h1
    go_wp2_with fail
    refine Calls.mono (rof_val 0 0 0 ⟨by decide, by decide⟩ _) ?_
    rintro _ w2 ⟨rfl, b2⟩
    rw [of_zero, vN_v]
    have h3 := h2.next b2
    obtain ⟨p0, p1, p2, p3, p4, p5⟩ := h3.2.1.six
    have qf := h3.2.1.frozen
    have ql := h3.2.1.lt
    clear b2 n0 n1 n2 n3 n4 n5 y0 y1 y2 y3 y4 y5 zf wl
    go_wp2
    exact bodyPost_ret (ret_one rfl (g := w.heap.size + 1) rfl ((h3.setR _ _ _ _ _ _).res rfl)) rfl ⟨rfl, (h3.setR _ _ _ _ _ _).2.2⟩
  · rw [vN_v] at HT
    go_enter Tryz.func12, Tryz.ntmps12
    go_wp2_with fail
    refine Calls.mono (HT _).out ?_
    rintro _ w1 ⟨rfl, b1⟩
    have h1 := h0.next b1
    obtain ⟨m0, m1, m2, m3, m4, m5⟩ := h1.1.six
    have mf := h1.1.frozen
    have ml := h1.1.lt
    have h2 := h1.setP (.int .i64 1) (.int .i64 c') (.int .i64 e') (.string .empty) (.bool false) (.int .i64 0)
    obtain ⟨n0, n1, n2, n3, n4, n5⟩ := h2.1.six
    obtain ⟨y0, y1, y2, y3, y4, y5⟩ := h2.2.1.six
    have zf := h2.2.1.frozen
    have wl := h2.2.1.lt
    clear h0 b1 HT h1
    go_wp2
    exact bodyPost_ret (ret_one rfl (g := w.heap.size + 1) rfl ((h2.setR _ _ _ _ _ _).res rfl)) rfl ⟨rfl, (h2.setR _ _ _ _ _ _).2.2⟩
  · rw [vT_v] at HT
    have hK : numK (vT s') = numT s' := rfl
    rw [hK]
    unfold numT
    have hsz := text_size hr
    have HQ : ∀ V, Hid (Calls Tryz.prog 51 #[.string (bs (trimT s'))] V fun e w' => e = .returned (.tuple #[.agg #[.int .i64 (parseQ (trimT s')).1, .int .i64 (parseQ (trimT s')).2.1], .int .i64 (parseQ (trimT s')).2.2]) ∧ Below V.heap.size V w') := fun V => by
      have h := rparse_any (trimT s') V
      rw [parseQ_v] at h
      exact h
    have hbd := parseQ_bd (trimT s')
    obtain ⟨c5, hc5⟩ : ∃ c, (parseQ (trimT s')).1 = c := ⟨_, rfl⟩
    obtain ⟨e5, he5⟩ : ∃ e, (parseQ (trimT s')).2.1 = e := ⟨_, rfl⟩
    obtain ⟨er, her⟩ : ∃ er, (parseQ (trimT s')).2.2 = er := ⟨_, rfl⟩
    rw [hc5] at hbd
    simp only [hc5, he5, her] at HQ ⊢
    clear hc5 he5 her
    have HO : ∀ V, Hid (Calls Tryz.prog 24 #[.agg #[.int .i64 c5, .int .i64 e5], .int .i64 er] V fun r w' => r = .returned (ofW c5 e5 er).v ∧ Below V.heap.size V w') := fun V => rof_val c5 e5 er hbd V
    clear hbd hK hhc hr
    obtain ⟨l, hl⟩ : ∃ l, s'.data.toList = l := ⟨_, rfl⟩
    have hsl : s' = bs l := bs_ext hl
    have hll : l.length ≤ 255 := by rw [← hl]; exact hsz
    have HTM : Hid (Lib.trimRightB (Lib.trimLeftB l 32) 32 = trimT s') := by rw [trim_comm, ← hl]; rfl
    generalize trimT s' = T at *
    subst hsl
    clear hl hsz
    go_enter Tryz.func12, Tryz.ntmps12
    go_wp2_with fail
    refine Calls.mono (HT _).out ?_
    rintro _ w1 ⟨rfl, b1⟩
    have h1 := h0.next b1
    obtain ⟨m0, m1, m2, m3, m4, m5⟩ := h1.1.six
    have mf := h1.1.frozen
    have ml := h1.1.lt
    have h2 := h1.setP (.int .i64 2) (.int .i64 0) (.int .i64 0) (.string (bs l)) (.bool false) (.int .i64 0)
    obtain ⟨n0, n1, n2, n3, n4, n5⟩ := h2.1.six
    clear h0 b1 HT h1
    go_upto_region 2 with fail
    generalize ((((((w1.setCell ⟨w.heap.size, 0, none⟩ (.int .i64 2)).setCell ⟨w.heap.size, 1, none⟩ (.int .i64 0)).setCell ⟨w.heap.size, 2, none⟩ (.int .i64 0)).setCell ⟨w.heap.size, 3, none⟩ (.string (bs l))).setCell ⟨w.heap.size, 4, none⟩ (.bool false)).setCell ⟨w.heap.size, 5, none⟩ (.int .i64 0)) = W at *
    clear m0 m1 m2 m3 m4 m5 mf ml
    go_wp2_with fail
    go_loopw [3] (fun v3 wr => ∃ r : List UInt8, v3 = .string (bs r) ∧ wr = W ∧ r.length ≤ 255 ∧ Hid (Lib.trimRightB (Lib.trimLeftB r 32) 32 = T)) (fun v3 _ => (strV v3).size)
    case atStart => exact ⟨l, rfl, rfl, hll, HTM⟩
    case round =>
      clear n0 n1 n2 n3 n4 n5 HTM hll
      obtain ⟨r, rfl, rfl, hrl, HR1⟩ := hrel
      cases r with
      | nil =>
        have hz : (bs []).size = 0 := rfl
        go_wp2_with fail
        go_loopw [3] (fun v3 wr2 => ∃ r : List UInt8, v3 = .string (bs r) ∧ wr2 = wr ∧ r.length ≤ 255 ∧ Hid (Lib.trimRightB r 32 = T)) (fun v3 _ => (strV v3).size)
        case atStart => exact ⟨[], rfl, rfl, by simp, HR1⟩
        case round =>
          obtain ⟨r2, rfl, rfl, hrl2, HR2⟩ := hrel
          rcases List.eq_nil_or_concat r2 with rfl | ⟨r3, a3, rfl⟩
          · have HTT : Hid (T = []) := HR2.out.symm
            have hz2 : (bs []).size = 0 := rfl
            rw [HTT.out] at HQ
            clear HR2 HTT
            go_wp2_with fail
            refine Calls.mono (HQ _).out ?_
            rintro _ w5 ⟨rfl, b5⟩
            have h5 := (h2.next b5).next ((Below.refl _ w5).alloc (Nat.le_refl _) (.cells #[.int .i64 c5, .int .i64 e5] 23))
            clear b5 h2 HQ
            by_cases e40 : er = 40
            · subst e40
              go_wp2_with fail
              refine Calls.mono (rerr_any 2 _) ?_
              rintro _ w6 ⟨rfl, b6⟩
              rw [errW2]
              have h6 := h5.next b6
              obtain ⟨y0, y1, y2, y3, y4, y5⟩ := h6.2.1.six
              have zf := h6.2.1.frozen
              have wl := h6.2.1.lt
              clear b6 h5 HO
              go_wp2
              exact bodyPost_ret (ret_one rfl (g := w.heap.size + 1) rfl ((h6.setR _ _ _ _ _ _).res rfl)) rfl ⟨rfl, (h6.setR _ _ _ _ _ _).2.2⟩
            · have e4 : (er == 40) = false := by simpa using e40
              go_wp2_with fail
              refine Calls.mono (HO _).out ?_
              rintro _ w6 ⟨rfl, b6⟩
              obtain ⟨k', c', e', x', hv⟩ := ofW_form c5 e5 er
              rw [hv]
              have h6 := h5.next b6
              obtain ⟨y0, y1, y2, y3, y4, y5⟩ := h6.2.1.six
              have zf := h6.2.1.frozen
              have wl := h6.2.1.lt
              clear b6 h5 HO
              go_wp2
              exact bodyPost_ret (ret_one rfl (g := w.heap.size + 1) rfl ((h6.setR _ _ _ _ _ _).res rfl)) rfl ⟨by first | rfl | rw [if_neg e40, hv], (h6.setR _ _ _ _ _ _).2.2⟩
          · have hsz3 : (bs (r3.concat a3)).size = r3.length + 1 := by rw [bs_size]; simp
            have h03 : ((bs (r3.concat a3)).size : Int) - 1 = (r3.length : Int) := by rw [hsz3]; omega
            have h04 : r3.length < (bs (r3.concat a3)).size := by rw [hsz3]; omega
            have h05 : ((bs (r3.concat a3))[r3.length]'h04) = a3 := by
              show (r3.concat a3).toArray[r3.length]'_ = a3
              simp
            have h06 : (bs (r3.concat a3)).extract 0 r3.length = bs r3 := by
              rw [bs_take]
              simp
            have hrev : (r3.concat a3).reverse = a3 :: r3.reverse := by simp
            by_cases ha3 : a3 = 32
            · have HN2 : Hid (Lib.trimRightB r3 32 = T) := by
                have e9 := HR2.out
                unfold Lib.trimRightB at e9 ⊢
                rw [hrev, List.dropWhile_cons_of_pos (by simp [ha3])] at e9
                exact e9
              have h07 : (((bs (r3.concat a3))[r3.length]'h04).toNat : Int) = 32 := by rw [h05, ha3]; rfl
              have hl3 : r3.length ≤ 255 := by simp at hrl2; omega
              have h08 : (bs r3).size = r3.length := bs_size r3
              have h09 : 0 < (bs (r3.concat a3)).size := by omega
              clear HR2 hrev h05 ha3
              generalize bs (r3.concat a3) = S at *
              go_wp2
              exact ⟨⟨r3, rfl, trivial, hl3, HN2⟩, by simp only [strV]; omega⟩
            · have HTT : T = r3.concat a3 := by
                have e9 := HR2.out
                unfold Lib.trimRightB at e9
                rw [hrev, List.dropWhile_cons_of_neg (by simpa using ha3)] at e9
                rw [← e9]
                simp
              have h07 : ((((bs (r3.concat a3))[r3.length]'h04).toNat : Int) == 32) = false := by
                rw [h05]
                have : a3.toNat ≠ 32 := fun h => ha3 (UInt8.toNat_inj.1 h)
                simp
                omega
              rw [HTT] at HQ
              have h09 : 0 < (bs (r3.concat a3)).size := by omega
              have hl3 : r3.length ≤ 255 := by simp at hrl2; omega
              clear HR2 hrev h05 ha3 HTT h06
              generalize bs (r3.concat a3) = S at *
              go_wp2_with fail
              refine Calls.mono (HQ _).out ?_
              rintro _ w5 ⟨rfl, b5⟩
              have h5 := (h2.next b5).next ((Below.refl _ w5).alloc (Nat.le_refl _) (.cells #[.int .i64 c5, .int .i64 e5] 23))
              clear b5 h2 HQ
              by_cases e40 : er = 40
              · subst e40
                go_wp2_with fail
                refine Calls.mono (rerr_any 2 _) ?_
                rintro _ w6 ⟨rfl, b6⟩
                rw [errW2]
                have h6 := h5.next b6
                obtain ⟨y0, y1, y2, y3, y4, y5⟩ := h6.2.1.six
                have zf := h6.2.1.frozen
                have wl := h6.2.1.lt
                clear b6 h5 HO
                go_wp2
                exact bodyPost_ret (ret_one rfl (g := w.heap.size + 1) rfl ((h6.setR _ _ _ _ _ _).res rfl)) rfl ⟨rfl, (h6.setR _ _ _ _ _ _).2.2⟩
              · have e4 : (er == 40) = false := by simpa using e40
                go_wp2_with fail
                refine Calls.mono (HO _).out ?_
                rintro _ w6 ⟨rfl, b6⟩
                obtain ⟨k', c', e', x', hv⟩ := ofW_form c5 e5 er
                rw [hv]
                have h6 := h5.next b6
                obtain ⟨y0, y1, y2, y3, y4, y5⟩ := h6.2.1.six
                have zf := h6.2.1.frozen
                have wl := h6.2.1.lt
                clear b6 h5 HO
                go_wp2
                exact bodyPost_ret (ret_one rfl (g := w.heap.size + 1) rfl ((h6.setR _ _ _ _ _ _).res rfl)) rfl ⟨by first | rfl | rw [if_neg e40, hv], (h6.setR _ _ _ _ _ _).2.2⟩
      | cons a r' =>
        have h0' : 0 < (bs (a :: r')).size := by rw [bs_size]; simp
        have hx : ((bs (a :: r'))[0]'h0') = a := rfl
        have hdr : (bs (a :: r')).extract 1 (bs (a :: r')).size = bs r' := bs_drop (a :: r') 1
        by_cases ha : a = 32
        · subst ha
          have hx2 : (((bs (32 :: r'))[0]'h0').toNat : Int) = 32 := by rw [hx]; rfl
          have HN : Hid (Lib.trimRightB (Lib.trimLeftB r' 32) 32 = T) := by rw [← HR1.out]; rfl
          clear hx HR1
          go_wp2
          exact ⟨⟨r', rfl, trivial, by simp at hrl; omega, HN⟩, by simp [strV, bs_size]⟩
        · have hx2 : ((((bs (a :: r'))[0]'h0').toNat : Int) == 32) = false := by
            rw [hx]
            have : a.toNat ≠ 32 := fun h => ha (UInt8.toNat_inj.1 h)
            simp
            omega
          have HN : Hid (Lib.trimRightB (a :: r') 32 = T) := by
            have e9 := HR1.out
            have : Lib.trimLeftB (a :: r') 32 = a :: r' := by
              unfold Lib.trimLeftB
              rw [List.dropWhile_cons_of_neg (by simpa using ha)]
            rw [this] at e9
            exact e9
          clear hx hdr HR1
          go_wp2_with fail
          go_loopw [3] (fun v3 wr2 => ∃ r : List UInt8, v3 = .string (bs r) ∧ wr2 = wr ∧ r.length ≤ 255 ∧ Hid (Lib.trimRightB r 32 = T)) (fun v3 _ => (strV v3).size)
          case atStart => exact ⟨(a :: r'), rfl, rfl, hrl, HN⟩
          case round =>
            obtain ⟨r2, rfl, rfl, hrl2, HR2⟩ := hrel
            rcases List.eq_nil_or_concat r2 with rfl | ⟨r3, a3, rfl⟩
            · have HTT : Hid (T = []) := HR2.out.symm
              have hz2 : (bs []).size = 0 := rfl
              rw [HTT.out] at HQ
              clear HR2 HTT
              go_wp2_with fail
              refine Calls.mono (HQ _).out ?_
              rintro _ w5 ⟨rfl, b5⟩
              have h5 := (h2.next b5).next ((Below.refl _ w5).alloc (Nat.le_refl _) (.cells #[.int .i64 c5, .int .i64 e5] 23))
              clear b5 h2 HQ
              by_cases e40 : er = 40
              · subst e40
                go_wp2_with fail
                refine Calls.mono (rerr_any 2 _) ?_
                rintro _ w6 ⟨rfl, b6⟩
                rw [errW2]
                have h6 := h5.next b6
                obtain ⟨y0, y1, y2, y3, y4, y5⟩ := h6.2.1.six
                have zf := h6.2.1.frozen
                have wl := h6.2.1.lt
                clear b6 h5 HO
                go_wp2
                exact bodyPost_ret (ret_one rfl (g := w.heap.size + 1) rfl ((h6.setR _ _ _ _ _ _).res rfl)) rfl ⟨rfl, (h6.setR _ _ _ _ _ _).2.2⟩
              · have e4 : (er == 40) = false := by simpa using e40
                go_wp2_with fail
                refine Calls.mono (HO _).out ?_
                rintro _ w6 ⟨rfl, b6⟩
                obtain ⟨k', c', e', x', hv⟩ := ofW_form c5 e5 er
                rw [hv]
                have h6 := h5.next b6
                obtain ⟨y0, y1, y2, y3, y4, y5⟩ := h6.2.1.six
                have zf := h6.2.1.frozen
                have wl := h6.2.1.lt
                clear b6 h5 HO
                go_wp2
                exact bodyPost_ret (ret_one rfl (g := w.heap.size + 1) rfl ((h6.setR _ _ _ _ _ _).res rfl)) rfl ⟨by first | rfl | rw [if_neg e40, hv], (h6.setR _ _ _ _ _ _).2.2⟩
            · have hsz3 : (bs (r3.concat a3)).size = r3.length + 1 := by rw [bs_size]; simp
              have h03 : ((bs (r3.concat a3)).size : Int) - 1 = (r3.length : Int) := by rw [hsz3]; omega
              have h04 : r3.length < (bs (r3.concat a3)).size := by rw [hsz3]; omega
              have h05 : ((bs (r3.concat a3))[r3.length]'h04) = a3 := by
                show (r3.concat a3).toArray[r3.length]'_ = a3
                simp
              have h06 : (bs (r3.concat a3)).extract 0 r3.length = bs r3 := by
                rw [bs_take]
                simp
              have hrev : (r3.concat a3).reverse = a3 :: r3.reverse := by simp
              by_cases ha3 : a3 = 32
              · have HN2 : Hid (Lib.trimRightB r3 32 = T) := by
                  have e9 := HR2.out
                  unfold Lib.trimRightB at e9 ⊢
                  rw [hrev, List.dropWhile_cons_of_pos (by simp [ha3])] at e9
                  exact e9
                have h07 : (((bs (r3.concat a3))[r3.length]'h04).toNat : Int) = 32 := by rw [h05, ha3]; rfl
                have hl3 : r3.length ≤ 255 := by simp at hrl2; omega
                have h08 : (bs r3).size = r3.length := bs_size r3
                have h09 : 0 < (bs (r3.concat a3)).size := by omega
                clear HR2 hrev h05 ha3
                generalize bs (r3.concat a3) = S at *
                go_wp2
                exact ⟨⟨r3, rfl, trivial, hl3, HN2⟩, by simp only [strV]; omega⟩
              · have HTT : T = r3.concat a3 := by
                  have e9 := HR2.out
                  unfold Lib.trimRightB at e9
                  rw [hrev, List.dropWhile_cons_of_neg (by simpa using ha3)] at e9
                  rw [← e9]
                  simp
                have h07 : ((((bs (r3.concat a3))[r3.length]'h04).toNat : Int) == 32) = false := by
                  rw [h05]
                  have : a3.toNat ≠ 32 := fun h => ha3 (UInt8.toNat_inj.1 h)
                  simp
                  omega
                rw [HTT] at HQ
                have h09 : 0 < (bs (r3.concat a3)).size := by omega
                have hl3 : r3.length ≤ 255 := by simp at hrl2; omega
                clear HR2 hrev h05 ha3 HTT h06
                generalize bs (r3.concat a3) = S at *
                go_wp2_with fail
                refine Calls.mono (HQ _).out ?_
                rintro _ w5 ⟨rfl, b5⟩
                have h5 := (h2.next b5).next ((Below.refl _ w5).alloc (Nat.le_refl _) (.cells #[.int .i64 c5, .int .i64 e5] 23))
                clear b5 h2 HQ
                by_cases e40 : er = 40
                · subst e40
                  go_wp2_with fail
                  refine Calls.mono (rerr_any 2 _) ?_
                  rintro _ w6 ⟨rfl, b6⟩
                  rw [errW2]
                  have h6 := h5.next b6
                  obtain ⟨y0, y1, y2, y3, y4, y5⟩ := h6.2.1.six
                  have zf := h6.2.1.frozen
                  have wl := h6.2.1.lt
                  clear b6 h5 HO
                  go_wp2
                  exact bodyPost_ret (ret_one rfl (g := w.heap.size + 1) rfl ((h6.setR _ _ _ _ _ _).res rfl)) rfl ⟨rfl, (h6.setR _ _ _ _ _ _).2.2⟩
                · have e4 : (er == 40) = false := by simpa using e40
                  go_wp2_with fail
                  refine Calls.mono (HO _).out ?_
                  rintro _ w6 ⟨rfl, b6⟩
                  obtain ⟨k', c', e', x', hv⟩ := ofW_form c5 e5 er
                  rw [hv]
                  have h6 := h5.next b6
                  obtain ⟨y0, y1, y2, y3, y4, y5⟩ := h6.2.1.six
                  have zf := h6.2.1.frozen
                  have wl := h6.2.1.lt
                  clear b6 h5 HO
                  go_wp2
                  exact bodyPost_ret (ret_one rfl (g := w.heap.size + 1) rfl ((h6.setR _ _ _ _ _ _).res rfl)) rfl ⟨by first | rfl | rw [if_neg e40, hv], (h6.setR _ _ _ _ _ _).2.2⟩
  · rw [vB_v] at HT
    cases b'
    · go_enter Tryz.func12, Tryz.ntmps12
      go_wp2_with fail
      refine Calls.mono (HT _).out ?_
      rintro _ w1 ⟨rfl, b1⟩
      have h1 := h0.next b1
      obtain ⟨m0, m1, m2, m3, m4, m5⟩ := h1.1.six
      have mf := h1.1.frozen
      have ml := h1.1.lt
      have h2 := h1.setP (.int .i64 3) (.int .i64 0) (.int .i64 0) (.string .empty) (.bool false) (.int .i64 0)
      obtain ⟨n0, n1, n2, n3, n4, n5⟩ := h2.1.six
      obtain ⟨y0, y1, y2, y3, y4, y5⟩ := h2.2.1.six
      have zf := h2.2.1.frozen
      have wl := h2.2.1.lt
      clear h0 b1 HT h1
      go_wp2_with fail
      refine Calls.mono (rof_val 0 0 0 ⟨by decide, by decide⟩ _) ?_
      rintro _ w2 ⟨rfl, b2⟩
      rw [of_zero, vN_v]
      have h3 := h2.next b2
      obtain ⟨p0, p1, p2, p3, p4, p5⟩ := h3.2.1.six
      have qf := h3.2.1.frozen
      have ql := h3.2.1.lt
      clear b2 n0 n1 n2 n3 n4 n5 y0 y1 y2 y3 y4 y5 zf wl
      go_wp2
      exact bodyPost_ret (ret_one rfl (g := w.heap.size + 1) rfl ((h3.setR _ _ _ _ _ _).res rfl)) rfl ⟨rfl, (h3.setR _ _ _ _ _ _).2.2⟩
    · go_enter Tryz.func12, Tryz.ntmps12
      go_wp2_with fail
      refine Calls.mono (HT _).out ?_
      rintro _ w1 ⟨rfl, b1⟩
      have h1 := h0.next b1
      obtain ⟨m0, m1, m2, m3, m4, m5⟩ := h1.1.six
      have mf := h1.1.frozen
      have ml := h1.1.lt
      have h2 := h1.setP (.int .i64 3) (.int .i64 0) (.int .i64 0) (.string .empty) (.bool true) (.int .i64 0)
      obtain ⟨n0, n1, n2, n3, n4, n5⟩ := h2.1.six
      obtain ⟨y0, y1, y2, y3, y4, y5⟩ := h2.2.1.six
      have zf := h2.2.1.frozen
      have wl := h2.2.1.lt
      clear h0 b1 HT h1
      go_wp2_with fail
      refine Calls.mono (rof_val 1 0 0 ⟨by decide, by decide⟩ _) ?_
      rintro _ w2 ⟨rfl, b2⟩
      rw [of_one, vN_v]
      have h3 := h2.next b2
      obtain ⟨p0, p1, p2, p3, p4, p5⟩ := h3.2.1.six
      have qf := h3.2.1.frozen
      have ql := h3.2.1.lt
      clear b2 n0 n1 n2 n3 n4 n5 y0 y1 y2 y3 y4 y5 zf wl
      go_wp2
      exact bodyPost_ret (ret_one rfl (g := w.heap.size + 1) rfl ((h3.setR _ _ _ _ _ _).res rfl)) rfl ⟨rfl, (h3.setR _ _ _ _ _ _).2.2⟩
  · rw [vX_v] at HT
    go_enter Tryz.func12, Tryz.ntmps12
    go_wp2_with fail
    refine Calls.mono (HT _).out ?_
    rintro _ w1 ⟨rfl, b1⟩
    have h1 := h0.next b1
    obtain ⟨m0, m1, m2, m3, m4, m5⟩ := h1.1.six
    have mf := h1.1.frozen
    have ml := h1.1.lt
    have h2 := h1.setP (.int .i64 4) (.int .i64 0) (.int .i64 0) (.string .empty) (.bool false) (.int .i64 x')
    obtain ⟨n0, n1, n2, n3, n4, n5⟩ := h2.1.six
    obtain ⟨y0, y1, y2, y3, y4, y5⟩ := h2.2.1.six
    have zf := h2.2.1.frozen
    have wl := h2.2.1.lt
    clear h0 b1 HT h1
    go_wp2
    exact bodyPost_ret (ret_one rfl (g := w.heap.size + 1) rfl ((h2.setR _ _ _ _ _ _).res rfl)) rfl ⟨rfl, (h2.setR _ _ _ _ _ _).2.2⟩
end Go.Proofs.YtnhflnpjepiceaaGreatDoor
/- val: ValTurns' law. -/
namespace Go.Proofs.YtnhflnpjepiceaaGreatDoor
open Go.RowKit

set_option maxRecDepth 100000 in
set_option maxHeartbeats 8000000 in
theorem vturns_any (v : Vl) (hc : I64 v.c) (w : World) (hE : Env w) : Calls Tryz.prog 3 #[v.v] w fun r w' => r = .returned (.bool true) ∧ Below w.heap.size w w' := by
  have A1 : ∀ V, Hid (Calls Tryz.prog 9 #[v.v] V fun r w' => r = .returned (.bool (rightV v)) ∧ Below V.heap.size V w') := fun V => vright_any v hc V
  have A2 : ∀ V, Hid (Calls Tryz.prog 10 #[v.v] V fun r w' => r = .returned (.bool (rightV v)) ∧ Below V.heap.size V w') := fun V => rvright_any v hc V
  have B1 : ∀ V, Hid (Calls Tryz.prog 11 #[v.v] V fun r w' => r = .returned ((numV v).v) ∧ Below V.heap.size V w') := fun V => vnum_any v hc V
  have B2 : ∀ V, Hid (Calls Tryz.prog 12 #[v.v] V fun r w' => r = .returned ((numV v).v) ∧ Below V.heap.size V w') := fun V => rvnum_any v hc V
  have C1 : ∀ V, Env V → Hid (Calls Tryz.prog 13 #[v.v] V fun r w' => r = .returned ((textV v).v) ∧ Below V.heap.size V w') := fun V hV => vtext_any v hc V hV
  have C2 : ∀ V, Hid (Calls Tryz.prog 14 #[v.v] V fun r w' => r = .returned ((textV v).v) ∧ Below V.heap.size V w') := fun V => rvtext_any v hc V
  have D1 : ∀ V, Hid (Calls Tryz.prog 15 #[v.v] V fun r w' => r = .returned ((boolV v).v) ∧ Below V.heap.size V w') := fun V => vbool_any v hc V
  have D2 : ∀ V, Hid (Calls Tryz.prog 16 #[v.v] V fun r w' => r = .returned ((boolV v).v) ∧ Below V.heap.size V w') := fun V => rvbool_any v hc V
  have E1 : ∀ V, Env V → Hid (Calls Tryz.prog 17 #[v.v] V fun r w' => r = .returned (.string (showV v)) ∧ Below V.heap.size V w') := fun V hV => vshow_any v hc V hV
  have E2 : ∀ V, Hid (Calls Tryz.prog 18 #[v.v] V fun r w' => r = .returned (.string (showV v)) ∧ Below V.heap.size V w') := fun V => rvshow_any v hc V
  have HL : ∀ V, Env V → Hid (Calls Tryz.prog 19 #[] V fun r w' => r = .returned (.bool true) ∧ Below V.heap.size V w') := fun V hV => valive_any V hV
  generalize rightV v = R at A1 A2
  generalize showV v = sh at E1 E2
  obtain ⟨kb, cb, eb, sb, bb, xb, hbv⟩ := (numV v).v_form
  obtain ⟨kc, cc, ec, sc', bc, xc, hcv⟩ := (textV v).v_form
  obtain ⟨kd, cd, ed, sd, bd, xd, hdv⟩ := (boolV v).v_form
  rw [hbv] at B1 B2
  rw [hcv] at C1 C2
  rw [hdv] at D1 D2
  have qb := same25 kb cb eb xb sb bb
  have qc := same25 kc cc ec xc sc' bc
  have qd := same25 kd cd ed xd sd bd
  have qs : (sh.toList == sh.toList) = true := by simp
  have qr : (R == R) = true := by simp
  clear hbv hcv hdv hc
  obtain ⟨k, c, e, s, b, x⟩ := v
  unfold Vl.v Vl.cells at *
  simp only at A1 A2 B1 B2 C1 C2 D1 D2 E1 E2
  have h0 := R1.start w #[.int .i64 k, .int .i64 c, .int .i64 e, .string s, .bool b, .int .i64 x]
  go_enter Tryz.func3, Tryz.ntmps3
  go_upto_region 1 with fail
  generalize w.alloc (.cells #[.int .i64 k, .int .i64 c, .int .i64 e, .string s, .bool b, .int .i64 x] 25) = W at *
  have g0 := h0.drew
  refine wp_region_M (fun wx : World => R1 w wx #[.int .i64 k, .int .i64 c, .int .i64 e, .string s, .bool b, .int .i64 x]) (fun j => decide (j < 37)) 37 rfl (by kernel_rfl) ?_
  refine wpM_held 0 (v := .agg #[.int .i64 k, .int .i64 c, .int .i64 e, .string s, .bool b, .int .i64 x]) rfl (by kernel_rfl) (by kernel_rfl) rfl (fun _ _ _ h => h) rfl (by intro wx hx; obtain ⟨z0, z1, z2, z3, z4, z5⟩ := hx.1.six; go_simp <;> rfl) g0 ?_
  refine wpM_held 2 (v := .agg #[.int .i64 k, .int .i64 c, .int .i64 e, .string s, .bool b, .int .i64 x]) rfl (by kernel_rfl) (by kernel_rfl) rfl (fun _ _ _ h => h) rfl (by intro wx hx; obtain ⟨z0, z1, z2, z3, z4, z5⟩ := hx.1.six; go_simp <;> rfl) g0 ?_
  refine wpM_one 1 rfl (by kernel_rfl) rfl ?_
  go_wp2_with fail
  refine Calls.mono (A1 _).out ?_
  rintro _ v1 ⟨rfl, l1⟩
  have g1 := g0.next l1
  clear l1 A1
  go_wp2_with fail
  refine ⟨fun _ => g1, ?_⟩
  refine wpM_one 3 rfl (by kernel_rfl) rfl ?_
  go_wp2_with fail
  refine Calls.mono (A2 _).out ?_
  rintro _ v2 ⟨rfl, l2⟩
  have g2 := g1.next l2
  clear l2 A2
  go_wp2_with fail
  refine ⟨fun _ => g2, ?_⟩
  refine wpM_one 4 rfl (by kernel_rfl) rfl ?_
  go_wp2_with fail
  refine ⟨fun _ => g2, ?_⟩
  refine wpM_one 5 rfl (by kernel_rfl) rfl ?_
  go_wp2_with fail
  refine ⟨fun _ => g2, ?_⟩
  refine wpM_held 6 (v := .agg #[.int .i64 k, .int .i64 c, .int .i64 e, .string s, .bool b, .int .i64 x]) rfl (by kernel_rfl) (by kernel_rfl) rfl (fun _ _ _ h => h) rfl (by intro wx hx; obtain ⟨z0, z1, z2, z3, z4, z5⟩ := hx.1.six; go_simp <;> rfl) g2 ?_
  refine wpM_held 8 (v := .agg #[.int .i64 k, .int .i64 c, .int .i64 e, .string s, .bool b, .int .i64 x]) rfl (by kernel_rfl) (by kernel_rfl) rfl (fun _ _ _ h => h) rfl (by intro wx hx; obtain ⟨z0, z1, z2, z3, z4, z5⟩ := hx.1.six; go_simp <;> rfl) g2 ?_
  refine wpM_one 7 rfl (by kernel_rfl) rfl ?_
  go_wp2_with fail
  refine Calls.mono (B1 _).out ?_
  rintro _ v3 ⟨rfl, l3⟩
  have g3 := g2.next l3
  clear l3 B1
  go_wp2_with fail
  refine ⟨fun _ => g3, ?_⟩
  refine wpM_one 9 rfl (by kernel_rfl) rfl ?_
  go_wp2_with fail
  refine Calls.mono (B2 _).out ?_
  rintro _ v4 ⟨rfl, l4⟩
  have g4 := g3.next l4
  clear l4 B2
  go_wp2_with fail
  refine ⟨fun _ => g4, ?_⟩
  refine wpM_one 10 rfl (by kernel_rfl) rfl ?_
  go_wp2_with fail
  refine ⟨fun _ => g4, ?_⟩
  refine wpM_one 11 rfl (by kernel_rfl) rfl ?_
  go_wp2_with fail
  refine ⟨fun _ => g4, ?_⟩
  refine wpM_one 12 rfl (by kernel_rfl) rfl ?_
  go_wp2_with fail
  refine ⟨fun _ => g4, ?_⟩
  refine wpM_held 13 (v := .agg #[.int .i64 k, .int .i64 c, .int .i64 e, .string s, .bool b, .int .i64 x]) rfl (by kernel_rfl) (by kernel_rfl) rfl (fun _ _ _ h => h) rfl (by intro wx hx; obtain ⟨z0, z1, z2, z3, z4, z5⟩ := hx.1.six; go_simp <;> rfl) g4 ?_
  refine wpM_held 15 (v := .agg #[.int .i64 k, .int .i64 c, .int .i64 e, .string s, .bool b, .int .i64 x]) rfl (by kernel_rfl) (by kernel_rfl) rfl (fun _ _ _ h => h) rfl (by intro wx hx; obtain ⟨z0, z1, z2, z3, z4, z5⟩ := hx.1.six; go_simp <;> rfl) g4 ?_
  refine wpM_one 14 rfl (by kernel_rfl) rfl ?_
  go_wp2_with fail
  refine Calls.mono (C1 _ (hE.next g4.2)).out ?_
  rintro _ v5 ⟨rfl, l5⟩
  have g5 := g4.next l5
  clear l5 C1
  go_wp2_with fail
  refine ⟨fun _ => g5, ?_⟩
  refine wpM_one 16 rfl (by kernel_rfl) rfl ?_
  go_wp2_with fail
  refine Calls.mono (C2 _).out ?_
  rintro _ v6 ⟨rfl, l6⟩
  have g6 := g5.next l6
  clear l6 C2
  go_wp2_with fail
  refine ⟨fun _ => g6, ?_⟩
  refine wpM_one 17 rfl (by kernel_rfl) rfl ?_
  go_wp2_with fail
  refine ⟨fun _ => g6, ?_⟩
  refine wpM_one 18 rfl (by kernel_rfl) rfl ?_
  go_wp2_with fail
  refine ⟨fun _ => g6, ?_⟩
  refine wpM_one 19 rfl (by kernel_rfl) rfl ?_
  go_wp2_with fail
  refine ⟨fun _ => g6, ?_⟩
  refine wpM_held 20 (v := .agg #[.int .i64 k, .int .i64 c, .int .i64 e, .string s, .bool b, .int .i64 x]) rfl (by kernel_rfl) (by kernel_rfl) rfl (fun _ _ _ h => h) rfl (by intro wx hx; obtain ⟨z0, z1, z2, z3, z4, z5⟩ := hx.1.six; go_simp <;> rfl) g6 ?_
  refine wpM_held 22 (v := .agg #[.int .i64 k, .int .i64 c, .int .i64 e, .string s, .bool b, .int .i64 x]) rfl (by kernel_rfl) (by kernel_rfl) rfl (fun _ _ _ h => h) rfl (by intro wx hx; obtain ⟨z0, z1, z2, z3, z4, z5⟩ := hx.1.six; go_simp <;> rfl) g6 ?_
  refine wpM_one 21 rfl (by kernel_rfl) rfl ?_
  go_wp2_with fail
  refine Calls.mono (D1 _).out ?_
  rintro _ v7 ⟨rfl, l7⟩
  have g7 := g6.next l7
  clear l7 D1
  go_wp2_with fail
  refine ⟨fun _ => g7, ?_⟩
  refine wpM_one 23 rfl (by kernel_rfl) rfl ?_
  go_wp2_with fail
  refine Calls.mono (D2 _).out ?_
  rintro _ v8 ⟨rfl, l8⟩
  have g8 := g7.next l8
  clear l8 D2
  go_wp2_with fail
  refine ⟨fun _ => g8, ?_⟩
  refine wpM_one 24 rfl (by kernel_rfl) rfl ?_
  go_wp2_with fail
  refine ⟨fun _ => g8, ?_⟩
  refine wpM_one 25 rfl (by kernel_rfl) rfl ?_
  go_wp2_with fail
  refine ⟨fun _ => g8, ?_⟩
  refine wpM_one 26 rfl (by kernel_rfl) rfl ?_
  go_wp2_with fail
  refine ⟨fun _ => g8, ?_⟩
  refine wpM_held 27 (v := .agg #[.int .i64 k, .int .i64 c, .int .i64 e, .string s, .bool b, .int .i64 x]) rfl (by kernel_rfl) (by kernel_rfl) rfl (fun _ _ _ h => h) rfl (by intro wx hx; obtain ⟨z0, z1, z2, z3, z4, z5⟩ := hx.1.six; go_simp <;> rfl) g8 ?_
  refine wpM_held 29 (v := .agg #[.int .i64 k, .int .i64 c, .int .i64 e, .string s, .bool b, .int .i64 x]) rfl (by kernel_rfl) (by kernel_rfl) rfl (fun _ _ _ h => h) rfl (by intro wx hx; obtain ⟨z0, z1, z2, z3, z4, z5⟩ := hx.1.six; go_simp <;> rfl) g8 ?_
  refine wpM_one 28 rfl (by kernel_rfl) rfl ?_
  go_wp2_with fail
  refine Calls.mono (E1 _ (hE.next g8.2)).out ?_
  rintro _ v9 ⟨rfl, l9⟩
  have g9 := g8.next l9
  clear l9 E1
  go_wp2_with fail
  refine ⟨fun _ => g9, ?_⟩
  refine wpM_one 30 rfl (by kernel_rfl) rfl ?_
  go_wp2_with fail
  refine Calls.mono (E2 _).out ?_
  rintro _ v10 ⟨rfl, l10⟩
  have g10 := g9.next l10
  clear l10 E2
  go_wp2_with fail
  refine ⟨fun _ => g10, ?_⟩
  refine wpM_one 31 rfl (by kernel_rfl) rfl ?_
  go_wp2_with fail
  refine ⟨fun _ => g10, ?_⟩
  refine wpM_one 32 rfl (by kernel_rfl) rfl ?_
  go_wp2_with fail
  refine ⟨fun _ => g10, ?_⟩
  refine wpM_one 33 rfl (by kernel_rfl) rfl ?_
  go_wp2_with fail
  refine ⟨fun _ => g10, ?_⟩
  refine wpM_one 34 rfl (by kernel_rfl) rfl ?_
  go_wp2_with fail
  refine Calls.mono (HL _ (hE.next g10.2)).out ?_
  rintro _ v11 ⟨rfl, l11⟩
  have g11 := g10.next l11
  clear l11 HL
  go_wp2_with fail
  refine ⟨fun _ => g11, ?_⟩
  refine wpM_one 35 rfl (by kernel_rfl) rfl ?_
  go_wp2_with fail
  refine ⟨fun _ => g11, ?_⟩
  refine wpM_one 36 rfl (by kernel_rfl) rfl ?_
  go_wp2_with fail
  refine ⟨fun _ => g11, ?_⟩
  refine wpM_done (by kernel_rfl) ?_
  go_wp2
  go_ret
  exact ⟨rfl, g11.2⟩
end Go.Proofs.YtnhflnpjepiceaaGreatDoor
