/- UtfTwice is proved: for every text (within the form's reach) trimming twice is as trimming once, Upper of Lower is Upper, Lower of Upper is Lower, Upper keeps the length, and the chapter's examples hold; no condition. -/
import Derived.Test.YtckopbcpjecjhaaPal
import Derived.Test.YtckopbcpjecjhaaPtw
import Derived.Test.YtckopbcpjecjhaaRowk
import Derived.Test.YtckopbcpjecjhaaRows
import Derived.ChangeMaps5
namespace Go.Proofs.Ytckopbcpjecjhaa.utfTwice
open Go.ChangeShapes Go.WideShapes Go.ChangeAt Go.RowKit Go.ChangeMaps

theorem trim_len (s : ByteArray) : (strOfNums (trimEnd (trimTo s s.size))).size ≤ s.size := by
  have h := trimTo_len s s.size
  rw [strOfNums_size]
  unfold trimEnd
  split
  · rw [List.length_dropLast]
    omega
  · exact h
theorem turn_len (s : ByteArray) (fr by_ : Nat) : (strOfNums (upto (turnAt s fr by_) s.size)).size = s.size := by
  rw [strOfNums_size, upto_length]

set_option maxHeartbeats 2000000 in
set_option maxRecDepth 100000 in
theorem walk (a : ByteArray) (w : World) (hl : a.size ≤ 140737488351232) :
    Calls Try.prog 7 #[.string a] w fun e w' => e = .returned (.bool true) ∧ Below w.heap.size w w' := by
  have hTl := trim_len a
  have hUl := turn_len a 97 224
  have hLl := turn_len a 65 32
  have H1 : ∀ W, Hid (Calls Try.prog 25 #[.string a] W fun e w' => e = .returned (.string (strOfNums (trimEnd (trimTo a a.size)))) ∧ Below W.heap.size W w') := fun W => ptrim_any a hl W
  have H2 : ∀ W, Hid (Calls Try.prog 25 #[.string (strOfNums (trimEnd (trimTo a a.size)))] W fun e w' => e = .returned (.string (strOfNums (trimEnd (trimTo a a.size)))) ∧ Below W.heap.size W w') := by
    intro W
    have := ptrim_any (strOfNums (trimEnd (trimTo a a.size))) (by omega) W
    rw [trim_twice] at this
    exact this
  have H3 : ∀ W, Hid (Calls Try.prog 23 #[.string a] W fun e w' => e = .returned (.string (strOfNums (upto (turnAt a 65 32) a.size))) ∧ Below W.heap.size W w') := fun W => plower_any a hl W
  have H4 : ∀ W, Hid (Calls Try.prog 21 #[.string (strOfNums (upto (turnAt a 65 32) a.size))] W fun e w' => e = .returned (.string (strOfNums (upto (turnAt a 97 224) a.size))) ∧ Below W.heap.size W w') := by
    intro W
    have := pupper_any (strOfNums (upto (turnAt a 65 32) a.size)) (by omega) W
    rw [turn_turn a 65 32 97 224 up_low] at this
    exact this
  have H5 : ∀ W, Hid (Calls Try.prog 21 #[.string a] W fun e w' => e = .returned (.string (strOfNums (upto (turnAt a 97 224) a.size))) ∧ Below W.heap.size W w') := fun W => pupper_any a hl W
  have H6 : ∀ W, Hid (Calls Try.prog 23 #[.string (strOfNums (upto (turnAt a 97 224) a.size))] W fun e w' => e = .returned (.string (strOfNums (upto (turnAt a 65 32) a.size))) ∧ Below W.heap.size W w') := by
    intro W
    have := plower_any (strOfNums (upto (turnAt a 97 224) a.size)) (by omega) W
    rw [turn_turn a 97 224 65 32 low_up] at this
    exact this
  have H8 : ∀ W, Hid (Calls Try.prog 16 #[] W fun e w' => e = .returned (.bool true) ∧ Below W.heap.size W w') := fun W => alive_any W
  generalize strOfNums (upto (turnAt a 97 224) a.size) = U at H4 H5 H6 hUl
  generalize strOfNums (upto (turnAt a 65 32) a.size) = L at H3 H4 H6 hLl
  generalize strOfNums (trimEnd (trimTo a a.size)) = T at H1 H2 hTl
  have hUz : (U.size : Int) = (a.size : Int) := by omega
  go_enter Try.func7, Try.ntmps7
  go_wp2_with fail
  refine Calls.mono (H1 _).out ?_
  rintro e w1 ⟨rfl, b1⟩
  go_wp2_with fail
  refine Calls.mono (H2 _).out ?_
  rintro e w2 ⟨rfl, b2⟩
  have B2 : Hid (Below w.heap.size w w2) := b1.trans (b2.mono b1.size)
  clear b1 b2
  go_wp2_with fail
  refine Calls.mono (H3 _).out ?_
  rintro e w3 ⟨rfl, b3⟩
  have B3 : Hid (Below w.heap.size w w3) := B2.out.trans (b3.mono B2.out.size)
  clear b3 B2
  go_wp2_with fail
  refine Calls.mono (H4 _).out ?_
  rintro e w4 ⟨rfl, b4⟩
  have B4 : Hid (Below w.heap.size w w4) := B3.out.trans (b4.mono B3.out.size)
  clear b4 B3
  go_wp2_with fail
  refine Calls.mono (H5 _).out ?_
  rintro e w5 ⟨rfl, b5⟩
  have B5 : Hid (Below w.heap.size w w5) := B4.out.trans (b5.mono B4.out.size)
  clear b5 B4
  go_wp2_with fail
  refine Calls.mono (H5 _).out ?_
  rintro e w6 ⟨rfl, b6⟩
  have B6 : Hid (Below w.heap.size w w6) := B5.out.trans (b6.mono B5.out.size)
  clear b6 B5
  go_wp2_with fail
  refine Calls.mono (H6 _).out ?_
  rintro e w7 ⟨rfl, b7⟩
  have B7 : Hid (Below w.heap.size w w7) := B6.out.trans (b7.mono B6.out.size)
  clear b7 B6
  go_wp2_with fail
  refine Calls.mono (H3 _).out ?_
  rintro e w8 ⟨rfl, b8⟩
  have B8 : Hid (Below w.heap.size w w8) := B7.out.trans (b8.mono B7.out.size)
  clear b8 B7
  go_wp2_with fail
  refine Calls.mono (H5 _).out ?_
  rintro e w9 ⟨rfl, b9⟩
  have B9 : Hid (Below w.heap.size w w9) := B8.out.trans (b9.mono B8.out.size)
  clear b9 B8
  go_wp2_with fail
  refine Calls.mono (H8 _).out ?_
  rintro e w10 ⟨rfl, b10⟩
  have B10 : Hid (Below w.heap.size w w10) := B9.out.trans (b10.mono B9.out.size)
  clear b10 B9
  go_wp2
  go_ret
  exact ⟨rfl, B10.out⟩

set_option maxRecDepth 100000 in
theorem lifted (os : Os) (started : os.Started) (H : Type) (enc : TypeId × Value → H) :
    ReturnsInHanded {} Try.checked os 7 .any (Rows.utfTwiceSpec.pre6 enc Try.prog Try.f7 Rows.utfTwiceRow.domain false) (Rows.utfTwiceSpec.post enc Try.prog Try.f7 false true false false) := by
  refine returnsInHanded_of_change_sized (C := Try.checked) own started (by kernel_rfl) Try.func7
    (ChangeSpec.witness6 (enc := enc) (C := Try.checked) false ⟨#[], #[.string ⟨#[]⟩], []⟩ 8 (by kernel_rfl) (by kernel_rfl) (by kernel_rfl) (by kernel_rfl)) ?_
  intro W base args ds gs before hval0 hW _ hsz0 _
  have hsz : (DataW.weightsEach Try.prog (Try.f7.params.toList ++ Rows.utfTwiceSpec.plain.varTypes Try.prog) (ds ++ gs)).all (· ≤ reachBytes) = true := hsz0
  clear hsz0
  have hval : ∀ (j : Nat) t v, Try.f7.params[j]? = some t → args[j]? = some v → Value.okWide Try.prog W .any base t v := hval0
  have hW' := hW
  obtain ⟨p, q, hA0, hV, rfl, _, _⟩ := hW
  have hA : DataW.TrodAll enc Try.prog W 0 (fun _ => true) true Try.f7.params.toList args.toList ds p := hA0
  rw [Try.params7] at hA hval hsz
  obtain ⟨v0, vs0, d0, ds0, p0, q0, hargs, rfl, rfl, h0, r0⟩ := trodAll_cons hA
  obtain ⟨rfl, rfl, rfl⟩ := trodAll_nil r0
  obtain rfl : args = #[v0] := by cases args; simp_all
  obtain ⟨rfl, rfl⟩ := trodVars_none hV
  obtain ⟨s0, rfl, rfl, rfl, w0⟩ := open_string Try.underlying9 (hval 0 9 v0 rfl rfl) h0
  have hl : s0.size ≤ 140737488351232 := by
    have := sized_string hsz (j := 0) (t := 9) rfl rfl
    simp only [reachBytes] at this
    simpa using this
  clear hA0 hval0
  refine (walk s0 W hl).mono fun e W' ⟨he, bel⟩ => ?_
  subst he
  exact ⟨_, rfl, _, _, _, [], _, [], hW', trodAll_mk1 (shut_bool Try.underlying4 _), (trodAll_cons_mk (shut_string Try.underlying9 w0) trodAll_mk0), rfl, bel.frame _, fun h => by cases h⟩

theorem over : Rows.utfTwiceRow.holds Try.pinned (OpenSpec.ofChange Rows.utfTwiceSpec) :=
  OpenClaim.holds_of_wide 7 Try.f7 rfl rfl rfl rfl rfl rfl rfl ⟨rfl, rfl, rfl, rfl, rfl⟩ rfl rfl rfl rfl rfl (by kernel_rfl) Try.func7 (by kernel_rfl)
    (of_decide_eq_true (by kernel_rfl)) (by unfold Func.isWrapper; first | (rw [if_pos (by decide +kernel)]; kernel_rfl) | (rw [if_neg (by decide +kernel)]; exact ⟨rfl, rfl⟩))
    (fun os started H enc _ => lifted os started H enc)
end Go.Proofs.Ytckopbcpjecjhaa.utfTwice
namespace Go.Proofs.Ytckopbcpjecjhaa
theorem utfTwice_holds : Rows.UtfTwiceSaid := utfTwice.over
#print axioms utfTwice_holds
end Go.Proofs.Ytckopbcpjecjhaa
