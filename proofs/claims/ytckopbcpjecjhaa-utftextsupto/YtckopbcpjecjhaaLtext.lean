/- UtfTexts is proved where what comes in is of bulk at most 1048576 (its second form): for every text the program's Valid, Xml, Runes and Count answer what the document's answer, and the chapter's examples hold. -/
import Derived.Test.YtckopbcpjecjhaaPal
import Derived.Test.YtckopbcpjecjhaaUxm
import Derived.Test.YtckopbcpjecjhaaUct
import Derived.Test.YtckopbcpjecjhaaRows
import Derived.ChangeMaps5
namespace Go.Proofs.Ytckopbcpjecjhaa.utfTexts
open Go.ChangeShapes Go.WideShapes Go.ChangeAt Go.RowKit Go.ChangeMaps

set_option maxHeartbeats 4000000 in
set_option maxRecDepth 100000 in
theorem walk (s : ByteArray) (w : World) (hs : s.size ≤ 1048576) :
    Calls Try.prog 3 #[.string s] w fun e w' => e = .returned (.bool true) ∧ Below w.heap.size w w' := by
  have hRl := runesZ_le s
  have hRn : (runesL (natsOf s)).length = (runesZ s).length := by unfold runesZ; rw [List.length_map]
  have H1 : ∀ W, Hid (Calls Try.prog 8 #[.string s] W fun e w' => e = .returned (.bool (validL (natsOf s))) ∧ Below W.heap.size W w') := fun W => pvalid_any s W
  have H2 : ∀ W, Hid (Calls Try.prog 9 #[.string s] W fun e w' => e = .returned (.bool (validL (natsOf s))) ∧ Below W.heap.size W w') := fun W => valid_any first_says s (by omega) W
  have H3 : ∀ W, Hid (Calls Try.prog 10 #[.string s] W fun e w' => e = .returned (.int .i64 (errX (xmlL (natsOf s)))) ∧ Below W.heap.size W w') := fun W => pxml_any s W
  have H4 : ∀ W, Hid (Calls Try.prog 11 #[.string s] W fun e w' => e = .returned (.int .i64 (errX (xmlL (natsOf s)))) ∧ Below W.heap.size W w') := fun W => xml_any s (by omega) W
  have H5 : ∀ W, Hid _ := fun W => prunes_any s (by omega) W
  have H6 : ∀ W, Hid (Calls Try.prog 14 #[.string s] W fun e w' => ∃ g c, e = .returned (.slice g (runesZ s).length c) ∧ IntsIn (· < w'.heap.size) w' (.slice g (runesZ s).length c) (runesZ s) ∧ Below W.heap.size W w') := by
    intro W
    refine (runes_any first_says s (by omega) W).mono ?_
    rintro e w' ⟨g, c, h1, h2, h3⟩
    exact ⟨g, c, h1, ints_of_owns _ h2, h3⟩
  have H7 : ∀ W, Hid (Calls Try.prog 15 #[.string s] W fun e w' => e = .returned (.int .i64 ((runesZ s).length : Int)) ∧ Below W.heap.size W w') := by
    intro W; have := pcount_any s (by omega) W; rw [hRn] at this; exact this
  have H8 : ∀ W, Hid (Calls Try.prog 16 #[] W fun e w' => e = .returned (.bool true) ∧ Below W.heap.size W w') := fun W => alive_any W
  have H9 : ∀ (a b : Option Addr) (ca cb : Nat) (W : World), IntsIn (fun k => k < W.heap.size) W (.slice a (runesZ s).length ca) (runesZ s) → IntsIn (fun k => k < W.heap.size) W (.slice b (runesZ s).length cb) (runesZ s) → Hid _ := fun a b ca cb W h1 h2 => ints_same a b ca cb (runesZ s) (by omega) W h1 h2
  generalize validL (natsOf s) = v at H1 H2
  generalize errX (xmlL (natsOf s)) = x at H3 H4
  generalize runesZ s = R at H5 H6 H7 H9 hRl
  clear hRn
  go_enter Try.func3, Try.ntmps3
  go_wp2_with fail
  refine Calls.mono (H1 _).out ?_
  rintro e w1 ⟨rfl, b1⟩
  go_wp2_with fail
  refine Calls.mono (H2 _).out ?_
  rintro e w2 ⟨rfl, b2⟩
  have B2 : Hid (Below w.heap.size w w2) := b1.trans (b2.mono b1.size)
  clear b1 b2
  go_wp2_with fail
  refine Calls.mono (H3 _).out ?_
  rintro e w3 ⟨rfl, b3⟩
  have B3 : Hid (Below w.heap.size w w3) := B2.out.trans (b3.mono B2.out.size)
  clear b3 B2
  go_wp2_with fail
  refine Calls.mono (H4 _).out ?_
  rintro e w4 ⟨rfl, b4⟩
  have B4 : Hid (Below w.heap.size w w4) := B3.out.trans (b4.mono B3.out.size)
  clear b4 B3
  go_wp2_with fail
  refine Calls.mono (H5 _).out ?_
  rintro e w5 ⟨g1, c1, rfl, hI1, b5⟩
  have B5 : Hid (Below w.heap.size w w5) := B4.out.trans (b5.mono B4.out.size)
  have HI1 : Hid _ := hI1
  clear b5 B4 hI1
  go_wp2_with fail
  refine Calls.mono (H6 _).out ?_
  rintro e w6 ⟨g2, c2, rfl, hI2, b6⟩
  have B6 : Hid (Below w.heap.size w w6) := B5.out.trans (b6.mono B5.out.size)
  have H9' : Hid _ := (H9 g1 g2 c1 c2 w6 (IntsIn.mono (fun k hk => by have := b6.size; omega) (IntsIn.below b6 HI1.out)) hI2).out
  clear b6 B5 hI2 HI1 H9
  go_wp2_with fail
  refine Calls.mono H9'.out ?_
  rintro e w7 ⟨rfl, b7⟩
  have B7 : Hid (Below w.heap.size w w7) := B6.out.trans (b7.mono B6.out.size)
  clear b7 B6 H9'
  go_wp2_with fail
  refine Calls.mono (H7 _).out ?_
  rintro e w8 ⟨rfl, b8⟩
  have B8 : Hid (Below w.heap.size w w8) := B7.out.trans (b8.mono B7.out.size)
  clear b8 B7
  go_wp2_with fail
  refine Calls.mono (H6 _).out ?_
  rintro e w9 ⟨g3, c3, rfl, _, b9⟩
  have B9 : Hid (Below w.heap.size w w9) := B8.out.trans (b9.mono B8.out.size)
  clear b9 B8
  go_wp2_with fail
  refine Calls.mono (H8 _).out ?_
  rintro e w10 ⟨rfl, b10⟩
  have B10 : Hid (Below w.heap.size w w10) := B9.out.trans (b10.mono B9.out.size)
  clear b10 B9
  go_wp2
  go_ret
  exact ⟨rfl, B10.out⟩

theorem contract (H : Type) (enc : TypeId × Value → H) (W : World) (base : Nat) (args : Array Value) (ds gs : List (DataW H)) (before : List MemPlace)
    (hval : ∀ (j : Nat) t v, Try.f3.params[j]? = some t → args[j]? = some v → Value.okWide Try.prog W .any base t v)
    (hW : DataW.Whole enc Try.prog Try.f3.params.toList Rows.utfTextsSpec.vars false W args.toList ds gs before) (hk : Rows.uptoSmall H (ds ++ gs) = true) :
    Calls Try.prog 3 args W fun e W' => ∃ v, e = .returned v ∧ Rows.utfTextsSpec.post enc Try.prog Try.f3 false true false false W args v W' := by
  have hW' := hW
  obtain ⟨p, q, hA0, hV, rfl, _, _⟩ := hW
  have hA : DataW.TrodAll enc Try.prog W 0 (fun _ => true) true Try.f3.params.toList args.toList ds p := hA0
  rw [Try.params3] at hA hval
  obtain ⟨v0, vs0, d0, ds0, p0, q0, hargs, rfl, rfl, h0, r0⟩ := trodAll_cons hA
  obtain ⟨rfl, rfl, rfl⟩ := trodAll_nil r0
  obtain rfl : args = #[v0] := by cases args; simp_all
  obtain ⟨rfl, rfl⟩ := trodVars_none hV
  obtain ⟨s0, rfl, rfl, rfl, w0⟩ := open_string Try.underlying9 (hval 0 9 v0 rfl rfl) h0
  have hbulk : Rows.uptoBulkAll ([.lit (.string s0.data.toList)] ++ ([] : List (DataW H))) ≤ 1048576 := of_decide_eq_true hk
  simp only [List.cons_append, List.nil_append, Rows.uptoBulkAll, Rows.uptoBulk, Array.length_toList] at hbulk
  have hs : s0.size ≤ 1048576 := by
    show s0.data.size ≤ _
    omega
  clear hA0
  refine (walk s0 W hs).mono fun e W' ⟨he, bel⟩ => ?_
  subst he
  exact ⟨_, rfl, _, _, _, [], _, [], hW', trodAll_mk1 (shut_bool Try.underlying4 _), (trodAll_cons_mk (shut_string Try.underlying9 w0) trodAll_mk0), rfl, bel.frame _, fun h => by cases h⟩

set_option maxRecDepth 100000 in
theorem lifted (os : Os) (started : os.Started) (H : Type) (enc : TypeId × Value → H) (F : Stop.Interp) :
    ReturnsInHanded {} Try.checked os 3 .any ((Rows.OpenSpec.upto Rows.utfTextsSpec).pre6 enc Try.prog Try.f3 Rows.utfTextsUptoRow.domain false) (((Rows.OpenSpec.upto Rows.utfTextsSpec).at F).post enc Try.prog Try.f3 false true false false) := by
  refine returnsInHanded_of_cond (C := Try.checked) (s := Rows.OpenSpec.upto Rows.utfTextsSpec) (k := Rows.uptoSmall) rfl own started (by kernel_rfl) Try.func3
    (OpenSpec.witness (enc := enc) (C := Try.checked) (s := Rows.OpenSpec.upto Rows.utfTextsSpec) (k := Rows.uptoSmall) rfl false ⟨#[], #[.string ⟨#[]⟩], []⟩ 8 (by kernel_rfl) (by kernel_rfl) (by kernel_rfl)
      (x := ([.lit (.string [])], [], [])) (by kernel_rfl) rfl (by kernel_rfl)) ?_
  intro W base args ds gs before hval hW _ hk _
  exact contract H enc W base args ds gs before hval hW hk

theorem over : Rows.UtfTextsUptoSaid :=
  OpenClaim.holds_of_cond 3 Try.f3 rfl rfl rfl rfl rfl rfl rfl ⟨rfl, rfl, rfl, rfl, rfl⟩ rfl rfl rfl rfl rfl (by kernel_rfl) Try.func3 (by kernel_rfl)
    (of_decide_eq_true (by kernel_rfl)) (by unfold Func.isWrapper; first | (rw [if_pos (by decide +kernel)]; kernel_rfl) | (rw [if_neg (by decide +kernel)]; exact ⟨rfl, rfl⟩))
    (fun os started H enc _ F => lifted os started H enc F)
end Go.Proofs.Ytckopbcpjecjhaa.utfTexts
namespace Go.Proofs.Ytckopbcpjecjhaa
theorem utfTexts_upto_holds : Rows.UtfTextsUptoSaid := utfTexts.over
#print axioms utfTexts_upto_holds
end Go.Proofs.Ytckopbcpjecjhaa
