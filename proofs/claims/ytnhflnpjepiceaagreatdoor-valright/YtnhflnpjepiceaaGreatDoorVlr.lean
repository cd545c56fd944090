import Derived.Test.YtnhflnpjepiceaaGreatDoorVrx
/- val: ValRight's law. -/
namespace Go.Proofs.YtnhflnpjepiceaaGreatDoor
open Go.RowKit

theorem right_call {u : Vl} (h : Good u) (V : World) : Calls Tryz.prog 9 #[u.v] V fun r w' => r = .returned (.bool true) ∧ Below V.heap.size V w' := by
  have := vright_any u h.2 V
  rw [h.1] at this
  exact this
set_option maxRecDepth 100000 in
set_option maxHeartbeats 8000000 in
theorem vrights_any (op : Int) (a b : Vl) (l : List UInt8) (ha : I64 a.c) (hb : I64 b.c) (hl : l.length ≤ 140737488351232) (w : World) (hE : Env w) :
    Calls Tryz.prog 6 #[.int .i64 op, a.v, b.v, .string (bs l)] w fun r w' => r = .returned (.bool true) ∧ Below w.heap.size w w' := by
  obtain ⟨u1, g1, C1⟩ := bin_good op a b ha hb
  obtain ⟨u5, g5, C5⟩ := neg_good a ha
  obtain ⟨u6, g6, C6⟩ := pct_good a ha
  have C1 : ∀ V, Env V → Hid (Calls Tryz.prog 34 #[.int .i64 op, a.v, b.v] V fun r w' => r = .returned u1.v ∧ Below V.heap.size V w') := C1
  have g2 := (good_num ha).1
  have C2 : ∀ V, Hid (Calls Tryz.prog 11 #[a.v] V fun r w' => r = .returned (numV a).v ∧ Below V.heap.size V w') := fun V => vnum_any a ha V
  have g3 := good_text ha
  have C3 : ∀ V, Env V → Hid (Calls Tryz.prog 13 #[a.v] V fun r w' => r = .returned (textV a).v ∧ Below V.heap.size V w') := fun V hV => vtext_any a ha V hV
  have g4 := good_bool ha
  have C4 : ∀ V, Hid (Calls Tryz.prog 15 #[a.v] V fun r w' => r = .returned (boolV a).v ∧ Below V.heap.size V w') := fun V => vbool_any a ha V
  have g7 := good_typed l
  have C7 : ∀ V, Env V → Hid (Calls Tryz.prog 30 #[.string (bs l)] V fun r w' => r = .returned (typedV l).v ∧ Below V.heap.size V w') := fun V hV => vtyped_any l hl V hV
  have g8 := good_str (bs l)
  have C8 : ∀ V, Hid (Calls Tryz.prog 25 #[.string (bs l)] V fun r w' => r = .returned (strW (bs l)).v ∧ Below V.heap.size V w') := fun V => str_any (bs l) V
  have g9 := good_err op
  have C9 : ∀ V, Hid (Calls Tryz.prog 27 #[.int .i64 op] V fun r w' => r = .returned (errW op).v ∧ Below V.heap.size V w') := fun V => err_any op V
  have HL : ∀ V, Env V → Hid (Calls Tryz.prog 19 #[] V fun r w' => r = .returned (.bool true) ∧ Below V.heap.size V w') := fun V hV => valive_any V hV
  generalize numV a = u2 at *
  generalize textV a = u3 at *
  generalize boolV a = u4 at *
  generalize typedV l = u7 at *
  generalize strW (bs l) = u8 at *
  generalize errW op = u9 at *
  have R1 : ∀ V, Hid (Calls Tryz.prog 9 #[u1.v] V fun r w' => r = .returned (.bool true) ∧ Below V.heap.size V w') := fun V => right_call g1 V
  have R2 : ∀ V, Hid (Calls Tryz.prog 9 #[u2.v] V fun r w' => r = .returned (.bool true) ∧ Below V.heap.size V w') := fun V => right_call g2 V
  have R3 : ∀ V, Hid (Calls Tryz.prog 9 #[u3.v] V fun r w' => r = .returned (.bool true) ∧ Below V.heap.size V w') := fun V => right_call g3 V
  have R4 : ∀ V, Hid (Calls Tryz.prog 9 #[u4.v] V fun r w' => r = .returned (.bool true) ∧ Below V.heap.size V w') := fun V => right_call g4 V
  have R5 : ∀ V, Hid (Calls Tryz.prog 9 #[u5.v] V fun r w' => r = .returned (.bool true) ∧ Below V.heap.size V w') := fun V => right_call g5 V
  have R6 : ∀ V, Hid (Calls Tryz.prog 9 #[u6.v] V fun r w' => r = .returned (.bool true) ∧ Below V.heap.size V w') := fun V => right_call g6 V
  have R7 : ∀ V, Hid (Calls Tryz.prog 9 #[u7.v] V fun r w' => r = .returned (.bool true) ∧ Below V.heap.size V w') := fun V => right_call g7 V
  have R8 : ∀ V, Hid (Calls Tryz.prog 9 #[u8.v] V fun r w' => r = .returned (.bool true) ∧ Below V.heap.size V w') := fun V => right_call g8 V
  have R9 : ∀ V, Hid (Calls Tryz.prog 9 #[u9.v] V fun r w' => r = .returned (.bool true) ∧ Below V.heap.size V w') := fun V => right_call g9 V
  clear g1 g2 g3 g4 g5 g6 g7 g8 g9 ha hb hl
  obtain ⟨k1, c1, e1, s1, b1, x1, hv1⟩ := u1.v_form
  rw [hv1] at C1 R1
  clear hv1
  obtain ⟨k2, c2, e2, s2, b2, x2, hv2⟩ := u2.v_form
  rw [hv2] at C2 R2
  clear hv2
  obtain ⟨k3, c3, e3, s3, b3, x3, hv3⟩ := u3.v_form
  rw [hv3] at C3 R3
  clear hv3
  obtain ⟨k4, c4, e4, s4, b4, x4, hv4⟩ := u4.v_form
  rw [hv4] at C4 R4
  clear hv4
  obtain ⟨k5, c5, e5, s5, b5, x5, hv5⟩ := u5.v_form
  rw [hv5] at C5 R5
  clear hv5
  obtain ⟨k6, c6, e6, s6, b6, x6, hv6⟩ := u6.v_form
  rw [hv6] at C6 R6
  clear hv6
  obtain ⟨k7, c7, e7, s7, b7, x7, hv7⟩ := u7.v_form
  rw [hv7] at C7 R7
  clear hv7
  obtain ⟨k8, c8, e8, s8, b8, x8, hv8⟩ := u8.v_form
  rw [hv8] at C8 R8
  clear hv8
  obtain ⟨k9, c9, e9, s9, b9, x9, hv9⟩ := u9.v_form
  rw [hv9] at C9 R9
  clear hv9
  obtain ⟨ak, ac, ae, as', ab, ax⟩ := a
  obtain ⟨bk, bc, be, bs', bb, bx⟩ := b
  unfold Vl.v Vl.cells at *
  simp only at C1 C2 C3 C4 C5 C6
  have h0 := PR.start w #[.int .i64 ak, .int .i64 ac, .int .i64 ae, .string as', .bool ab, .int .i64 ax] #[.int .i64 bk, .int .i64 bc, .int .i64 be, .string bs', .bool bb, .int .i64 bx]
  generalize bs l = ls at *
  go_enter Tryz.func6, Tryz.ntmps6
  go_upto_region 1 with fail
  generalize (w.alloc (.cells #[.int .i64 ak, .int .i64 ac, .int .i64 ae, .string as', .bool ab, .int .i64 ax] 25)).alloc (.cells #[.int .i64 bk, .int .i64 bc, .int .i64 be, .string bs', .bool bb, .int .i64 bx] 25) = v0 at *
  obtain ⟨m0, m1, m2, m3, m4, m5⟩ := h0.1.six
  obtain ⟨n0, n1, n2, n3, n4, n5⟩ := h0.2.1.six
  go_wp2_with fail
  refine Calls.mono (C1 _ (hE.next h0.2.2)).out ?_
  rintro _ v1 ⟨rfl, l1⟩
  have h1 := h0.next l1
  clear l1 C1 m0 m1 m2 m3 m4 m5 n0 n1 n2 n3 n4 n5
  obtain ⟨m0, m1, m2, m3, m4, m5⟩ := h1.1.six
  go_wp2_with fail
  refine Calls.mono (R1 _).out ?_
  rintro _ v2 ⟨rfl, l2⟩
  have h2 := h1.next l2
  clear l2 R1 m0 m1 m2 m3 m4 m5
  obtain ⟨m0, m1, m2, m3, m4, m5⟩ := h2.1.six
  go_wp2_with fail
  refine Calls.mono (C2 _).out ?_
  rintro _ v3 ⟨rfl, l3⟩
  have h3 := h2.next l3
  clear l3 C2 m0 m1 m2 m3 m4 m5
  obtain ⟨m0, m1, m2, m3, m4, m5⟩ := h3.1.six
  go_wp2_with fail
  refine Calls.mono (R2 _).out ?_
  rintro _ v4 ⟨rfl, l4⟩
  have h4 := h3.next l4
  clear l4 R2 m0 m1 m2 m3 m4 m5
  obtain ⟨m0, m1, m2, m3, m4, m5⟩ := h4.1.six
  go_wp2_with fail
  refine Calls.mono (C3 _ (hE.next h4.2.2)).out ?_
  rintro _ v5 ⟨rfl, l5⟩
  have h5 := h4.next l5
  clear l5 C3 m0 m1 m2 m3 m4 m5
  obtain ⟨m0, m1, m2, m3, m4, m5⟩ := h5.1.six
  go_wp2_with fail
  refine Calls.mono (R3 _).out ?_
  rintro _ v6 ⟨rfl, l6⟩
  have h6 := h5.next l6
  clear l6 R3 m0 m1 m2 m3 m4 m5
  obtain ⟨m0, m1, m2, m3, m4, m5⟩ := h6.1.six
  go_wp2_with fail
  refine Calls.mono (C4 _).out ?_
  rintro _ v7 ⟨rfl, l7⟩
  have h7 := h6.next l7
  clear l7 C4 m0 m1 m2 m3 m4 m5
  obtain ⟨m0, m1, m2, m3, m4, m5⟩ := h7.1.six
  go_wp2_with fail
  refine Calls.mono (R4 _).out ?_
  rintro _ v8 ⟨rfl, l8⟩
  have h8 := h7.next l8
  clear l8 R4 m0 m1 m2 m3 m4 m5
  obtain ⟨m0, m1, m2, m3, m4, m5⟩ := h8.1.six
  go_wp2_with fail
  refine Calls.mono (C5 _).out ?_
  rintro _ v9 ⟨rfl, l9⟩
  have h9 := h8.next l9
  clear l9 C5 m0 m1 m2 m3 m4 m5
  obtain ⟨m0, m1, m2, m3, m4, m5⟩ := h9.1.six
  go_wp2_with fail
  refine Calls.mono (R5 _).out ?_
  rintro _ v10 ⟨rfl, l10⟩
  have h10 := h9.next l10
  clear l10 R5 m0 m1 m2 m3 m4 m5
  obtain ⟨m0, m1, m2, m3, m4, m5⟩ := h10.1.six
  go_wp2_with fail
  refine Calls.mono (C6 _).out ?_
  rintro _ v11 ⟨rfl, l11⟩
  have h11 := h10.next l11
  clear l11 C6 m0 m1 m2 m3 m4 m5
  obtain ⟨m0, m1, m2, m3, m4, m5⟩ := h11.1.six
  go_wp2_with fail
  refine Calls.mono (R6 _).out ?_
  rintro _ v12 ⟨rfl, l12⟩
  have h12 := h11.next l12
  clear l12 R6 m0 m1 m2 m3 m4 m5
  obtain ⟨m0, m1, m2, m3, m4, m5⟩ := h12.1.six
  go_wp2_with fail
  refine Calls.mono (C7 _ (hE.next h12.2.2)).out ?_
  rintro _ v13 ⟨rfl, l13⟩
  have h13 := h12.next l13
  clear l13 C7 m0 m1 m2 m3 m4 m5
  obtain ⟨m0, m1, m2, m3, m4, m5⟩ := h13.1.six
  go_wp2_with fail
  refine Calls.mono (R7 _).out ?_
  rintro _ v14 ⟨rfl, l14⟩
  have h14 := h13.next l14
  clear l14 R7 m0 m1 m2 m3 m4 m5
  obtain ⟨m0, m1, m2, m3, m4, m5⟩ := h14.1.six
  go_wp2_with fail
  refine Calls.mono (C8 _).out ?_
  rintro _ v15 ⟨rfl, l15⟩
  have h15 := h14.next l15
  clear l15 C8 m0 m1 m2 m3 m4 m5
  obtain ⟨m0, m1, m2, m3, m4, m5⟩ := h15.1.six
  go_wp2_with fail
  refine Calls.mono (R8 _).out ?_
  rintro _ v16 ⟨rfl, l16⟩
  have h16 := h15.next l16
  clear l16 R8 m0 m1 m2 m3 m4 m5
  obtain ⟨m0, m1, m2, m3, m4, m5⟩ := h16.1.six
  go_wp2_with fail
  refine Calls.mono (C9 _).out ?_
  rintro _ v17 ⟨rfl, l17⟩
  have h17 := h16.next l17
  clear l17 C9 m0 m1 m2 m3 m4 m5
  obtain ⟨m0, m1, m2, m3, m4, m5⟩ := h17.1.six
  go_wp2_with fail
  refine Calls.mono (R9 _).out ?_
  rintro _ v18 ⟨rfl, l18⟩
  have h18 := h17.next l18
  clear l18 R9 m0 m1 m2 m3 m4 m5
  obtain ⟨m0, m1, m2, m3, m4, m5⟩ := h18.1.six
  go_wp2_with fail
  refine Calls.mono (HL _ (hE.next h18.2.2)).out ?_
  rintro _ v19 ⟨rfl, l19⟩
  have h19 := h18.next l19
  clear l19 HL m0 m1 m2 m3 m4 m5
  obtain ⟨m0, m1, m2, m3, m4, m5⟩ := h19.1.six
  go_wp2
  go_ret
  exact ⟨rfl, h19.2.2⟩
end Go.Proofs.YtnhflnpjepiceaaGreatDoor
