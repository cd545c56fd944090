/- UtfBack is proved where what comes in is of bulk at most 1048576 (its second form): for every text, every list of numbers and every place the program's characters and texts go back and forth and Cut's pieces make the text, and the chapter's examples hold. -/
import Derived.Test.YtckopbcpjecjhaaPal
import Derived.Test.YtckopbcpjecjhaaPbk
import Derived.Test.YtckopbcpjecjhaaRows
import Derived.ChangeMaps5
namespace Go.Proofs.Ytckopbcpjecjhaa.utfBack
open Go.ChangeShapes Go.WideShapes Go.ChangeAt Go.RowKit Go.ChangeMaps

set_option maxHeartbeats 4000000 in
set_option maxRecDepth 100000 in
theorem walk (s : ByteArray) (a : Option Addr) (cap : Nat) (ns : List Int) (k : Int) (w : World) (hs : s.size ≤ 1048576) (hn : ns.length ≤ 1048576) (hz : AreInts ns) (hk0 : -9223372036854775808 ≤ k) (hk1 : k ≤ 9223372036854775807)
    (hI : IntsIn (· < w.heap.size) w (.slice a ns.length cap) ns) :
    Calls Try.prog 6 #[.string s, .slice a ns.length cap, .int .i64 k] w fun e w' => e = .returned (.bool true) ∧ Below w.heap.size w w' := by
  have hTl : (strOfNums (textZ ns)).size ≤ 4 * ns.length := by rw [strOfNums_size]; exact textZ_len ns
  have hRl := runesZ_le s
  have hRn : (runesL (natsOf s)).length = (runesZ s).length := by unfold runesZ; rw [List.length_map]
  have H1 : Hid _ := ptext_any a cap ns hz (by omega) w hI
  have H2 : ∀ W, Hid (Calls Try.prog 8 #[.string (strOfNums (textZ ns))] W fun e w' => e = .returned (.bool true) ∧ Below W.heap.size W w') := by
    intro W; have := pvalid_any (strOfNums (textZ ns)) W; rw [valid_back] at this; exact this
  have H3 : ∀ W, Hid (Calls Try.prog 15 #[.string (strOfNums (textZ ns))] W fun e w' => e = .returned (.int .i64 (ns.length : Int)) ∧ Below W.heap.size W w') := by
    intro W; have := pcount_any (strOfNums (textZ ns)) (by omega) W; rw [count_back] at this; exact this
  have H5 : ∀ W, Hid (Calls Try.prog 16 #[] W fun e w' => e = .returned (.bool true) ∧ Below W.heap.size W w') := fun W => alive_any W
  have H6 : ∀ W, Hid (Calls Try.prog 15 #[.string s] W fun e w' => e = .returned (.int .i64 ((runesZ s).length : Int)) ∧ Below W.heap.size W w') := by
    intro W; have := pcount_any s (by omega) W; rw [hRn] at this; exact this
  have H7 : ∀ W, Hid _ := fun W => prunes_any s (by omega) W
  have H8 : ∀ (g : Option Addr) (c : Nat) (W : World), IntsIn (fun k => k < W.heap.size) W (.slice g (runesZ s).length c) (runesZ s) → Hid _ := fun g c W h => ptext_any g c (runesZ s) (runesZ_ints s) (by omega) W h
  by_cases hv : validL (natsOf s) = true
  · have H4 : ∀ W, Hid (Calls Try.prog 8 #[.string s] W fun e w' => e = .returned (.bool true) ∧ Below W.heap.size W w') := by
      intro W; have := pvalid_any s W; rw [hv] at this; exact this
    have H9 : ∀ (f m : Int), -9223372036854775808 ≤ f → f ≤ 9223372036854775807 → -9223372036854775808 ≤ m → m ≤ 9223372036854775807 → ∀ W, Hid (Calls Try.prog 17 #[.string s, .int .i64 f, .int .i64 m] W fun e w' => e = .returned (.string (strOfNums (textZ (cutZ (restZ s 0) f m)))) ∧ Below W.heap.size W w') := fun f m h1 h2 h3 h4 W => pcut_any s f m h1 h2 h3 h4 (by omega) W
    have hcb := cut_back s hv
    rw [hRn] at hcb
    rw [text_back s hv] at H8
    clear hI hz
    go_enter Try.func6, Try.ntmps6
    go_wp2_with fail
    refine Calls.mono H1.out ?_
    rintro e w1 ⟨rfl, b1⟩
    clear H1
    go_wp2_with fail
    refine Calls.mono (H2 _).out ?_
    rintro e w2 ⟨rfl, b2⟩
    have B2 : Hid (Below w.heap.size w w2) := b1.trans (b2.mono b1.size)
    clear b1 b2 H2
    go_wp2_with fail
    refine Calls.mono (H3 _).out ?_
    rintro e w3 ⟨rfl, b3⟩
    have B3 : Hid (Below w.heap.size w w3) := B2.out.trans (b3.mono B2.out.size)
    clear b3 B2 H3
    go_wp2_with fail
    refine Calls.mono (H4 _).out ?_
    rintro e w4 ⟨rfl, b4⟩
    have B4 : Hid (Below w.heap.size w w4) := B3.out.trans (b4.mono B3.out.size)
    clear b4 B3
    go_wp2_with fail
    refine Calls.mono (H7 _).out ?_
    rintro e w5 ⟨g, c, rfl, hI5, b5⟩
    have B5 : Hid (Below w.heap.size w w5) := B4.out.trans (b5.mono B4.out.size)
    have H8' : Hid _ := (H8 g c w5 hI5).out
    clear b5 B4 H7 hI5 H8
    go_wp2_with fail
    refine Calls.mono H8'.out ?_
    rintro e w6 ⟨rfl, b6⟩
    have B6 : Hid (Below w.heap.size w w6) := B5.out.trans (b6.mono B5.out.size)
    clear b6 B5 H8'
    go_wp2_with fail
    refine Calls.mono (H5 _).out ?_
    rintro e w7 ⟨rfl, b7⟩
    have B7 : Hid (Below w.heap.size w w7) := B6.out.trans (b7.mono B6.out.size)
    clear b7 B6 H5
    go_wp2_with fail
    refine Calls.mono (H6 _).out ?_
    rintro e w8 ⟨rfl, b8⟩
    have B8 : Hid (Below w.heap.size w w8) := B7.out.trans (b8.mono B7.out.size)
    clear b8 B7 H6
    by_cases c1 : k < 0
    · go_wp2
      go_ret
      exact ⟨rfl, B8.out⟩
    by_cases c2 : ((runesZ s).length : Int) < k
    · go_wp2
      go_ret
      exact ⟨rfl, B8.out⟩
    go_wp2_with fail
    refine Calls.mono (H4 _).out ?_
    rintro e w9 ⟨rfl, b9⟩
    have B9 : Hid (Below w.heap.size w w9) := B8.out.trans (b9.mono B8.out.size)
    clear b9 B8 H4
    obtain ⟨m, rfl⟩ : ∃ m : Nat, k = m := ⟨k.toNat, by omega⟩
    have hcm := hcb m
    have H10 : Hid _ := (H9 0 m (by omega) (by omega) (by omega) (by omega) w9).out
    have H11 : ∀ W, Hid _ := fun W => (H9 m ((runesZ s).length : Int) (by omega) (by omega) (by omega) (by omega) W).out
    have hla : (strOfNums (textZ (cutZ (restZ s 0) 0 (m : Int)))).size + (strOfNums (textZ (cutZ (restZ s 0) (m : Int) ((runesZ s).length : Int)))).size = s.size := by
      conv => rhs; rw [← hcm]
      rw [ByteArray.size_append]
    clear H9 hcb hv
    generalize strOfNums (textZ (cutZ (restZ s 0) 0 (m : Int))) = x1 at H10 hcm hla
    generalize strOfNums (textZ (cutZ (restZ s 0) (m : Int) ((runesZ s).length : Int))) = x2 at H11 hcm hla
    go_wp2_with fail
    refine Calls.mono H10.out ?_
    rintro e w10 ⟨rfl, b10⟩
    have B10 : Hid (Below w.heap.size w w10) := B9.out.trans (b10.mono B9.out.size)
    clear b10 B9 H10
    go_wp2_with fail
    refine Calls.mono (H11 _).out ?_
    rintro e w11 ⟨rfl, b11⟩
    have B11 : Hid (Below w.heap.size w w11) := B10.out.trans (b11.mono B10.out.size)
    clear b11 B10 H11
    go_wp2
    go_ret
    exact ⟨rfl, B11.out⟩
  · have hv : validL (natsOf s) = false := by simpa using hv
    have H4 : ∀ W, Hid (Calls Try.prog 8 #[.string s] W fun e w' => e = .returned (.bool false) ∧ Below W.heap.size W w') := by
      intro W; have := pvalid_any s W; rw [hv] at this; exact this
    clear hI hz H7 H8
    go_enter Try.func6, Try.ntmps6
    go_wp2_with fail
    refine Calls.mono H1.out ?_
    rintro e w1 ⟨rfl, b1⟩
    clear H1
    go_wp2_with fail
    refine Calls.mono (H2 _).out ?_
    rintro e w2 ⟨rfl, b2⟩
    have B2 : Hid (Below w.heap.size w w2) := b1.trans (b2.mono b1.size)
    clear b1 b2 H2
    go_wp2_with fail
    refine Calls.mono (H3 _).out ?_
    rintro e w3 ⟨rfl, b3⟩
    have B3 : Hid (Below w.heap.size w w3) := B2.out.trans (b3.mono B2.out.size)
    clear b3 B2 H3
    go_wp2_with fail
    refine Calls.mono (H4 _).out ?_
    rintro e w4 ⟨rfl, b4⟩
    have B4 : Hid (Below w.heap.size w w4) := B3.out.trans (b4.mono B3.out.size)
    clear b4 B3
    go_wp2_with fail
    refine Calls.mono (H5 _).out ?_
    rintro e w7 ⟨rfl, b7⟩
    have B7 : Hid (Below w.heap.size w w7) := B4.out.trans (b7.mono B4.out.size)
    clear b7 B4 H5
    go_wp2_with fail
    refine Calls.mono (H6 _).out ?_
    rintro e w8 ⟨rfl, b8⟩
    have B8 : Hid (Below w.heap.size w w8) := B7.out.trans (b8.mono B7.out.size)
    clear b8 B7 H6
    by_cases c1 : k < 0
    · go_wp2
      go_ret
      exact ⟨rfl, B8.out⟩
    by_cases c2 : ((runesZ s).length : Int) < k
    · go_wp2
      go_ret
      exact ⟨rfl, B8.out⟩
    go_wp2_with fail
    refine Calls.mono (H4 _).out ?_
    rintro e w9 ⟨rfl, b9⟩
    have B9 : Hid (Below w.heap.size w w9) := B8.out.trans (b9.mono B8.out.size)
    clear b9 B8 H4
    go_wp2
    go_ret
    exact ⟨rfl, B9.out⟩

theorem length_le {H : Type} : ∀ l : List (DataW H), l.length ≤ Rows.uptoBulkAll l
  | [] => Nat.zero_le _
  | d :: r => by
    have h := length_le r
    have h1 : 1 ≤ Rows.uptoBulk d := by
      cases d with
      | lit x => cases x <;> simp [Rows.uptoBulk]
      | _ => simp [Rows.uptoBulk]
    simp only [List.length_cons, Rows.uptoBulkAll]
    omega

theorem contract (H : Type) (enc : TypeId × Value → H) (W : World) (base : Nat) (args : Array Value) (ds gs : List (DataW H)) (before : List MemPlace)
    (hval : ∀ (j : Nat) t v, Try.f6.params[j]? = some t → args[j]? = some v → Value.okWide Try.prog W .any base t v)
    (hW : DataW.Whole enc Try.prog Try.f6.params.toList Rows.utfBackSpec.vars false W args.toList ds gs before) (hk : Rows.uptoSmall H (ds ++ gs) = true) :
    Calls Try.prog 6 args W fun e W' => ∃ v, e = .returned v ∧ Rows.utfBackSpec.post enc Try.prog Try.f6 false true false false W args v W' := by
  have hW' := hW
  obtain ⟨p, q, hA0, hV, rfl, _, _⟩ := hW
  have hA : DataW.TrodAll enc Try.prog W 0 (fun _ => true) true Try.f6.params.toList args.toList ds p := hA0
  rw [Try.params6] at hA hval
  obtain ⟨v0, vs0, d0, ds0, p0, q0, hargs, rfl, rfl, h0, r0⟩ := trodAll_cons hA
  obtain ⟨v1, vs1, d1, ds1, p1, q1, rfl, rfl, rfl, h1, r1⟩ := trodAll_cons r0
  obtain ⟨v2, vs2, d2, ds2, p2, q2, rfl, rfl, rfl, h2, r2⟩ := trodAll_cons r1
  obtain ⟨rfl, rfl, rfl⟩ := trodAll_nil r2
  obtain rfl : args = #[v0, v1, v2] := by cases args; simp_all
  obtain ⟨rfl, rfl⟩ := trodVars_none hV
  obtain ⟨s0, rfl, rfl, rfl, w0⟩ := open_string Try.underlying9 (hval 0 9 v0 rfl rfl) h0
  obtain ⟨a2, rfl, rfl, rfl, w2⟩ := open_int Try.underlying3 (hval 2 3 v2 rfl rfl) h2
  obtain ⟨a1, len1, cap1, rfl⟩ := okWide_slice Try.underlying26 (hval 1 26 v1 rfl rfl)
  have k1 := h1
  have lt1 : ∀ x ∈ p1, x.block < W.heap.size := by obtain ⟨m, hm⟩ := k1; exact DataW.trod_lt m _ _ _ hm
  obtain ⟨ns, hlen, hI, hz, hd⟩ := open_i64s h1
  have hbulk : Rows.uptoBulkAll ([.lit (.string s0.data.toList), d1, .lit (.int .i64 a2)] ++ ([] : List (DataW H))) ≤ 1048576 := of_decide_eq_true hk
  simp only [List.cons_append, List.nil_append, Rows.uptoBulkAll, Rows.uptoBulk, Array.length_toList] at hbulk
  have hs : s0.size ≤ 1048576 := by
    show s0.data.size ≤ _
    omega
  have hn : ns.length ≤ 1048576 := by
    rcases hd with ⟨_, h⟩ | ⟨e, s, rfl, h⟩
    · omega
    · have := length_le e
      simp only [Rows.uptoBulk] at hbulk
      omega
  have b2 := i64_bd w2
  clear hA0
  subst hlen
  refine (walk s0 a1 cap1 ns a2 W hs hn hz b2.1 b2.2 hI).mono fun e W' ⟨he, bel⟩ => ?_
  subst he
  exact ⟨_, rfl, _, _, _, [], _, [], hW', trodAll_mk1 (shut_bool Try.underlying4 _), (trodAll_cons_mk (shut_string Try.underlying9 w0) (trodAll_cons_mk (Below.trod laidOut (by kernel_rfl) (of_decide_eq_true (by kernel_rfl)) k1 bel lt1) (trodAll_cons_mk (shut_int Try.underlying3 w2) trodAll_mk0))), rfl, bel.frame _, fun h => by cases h⟩

set_option maxRecDepth 100000 in
theorem lifted (os : Os) (started : os.Started) (H : Type) (enc : TypeId × Value → H) (F : Stop.Interp) :
    ReturnsInHanded {} Try.checked os 6 .any ((Rows.OpenSpec.upto Rows.utfBackSpec).pre6 enc Try.prog Try.f6 Rows.utfBackUptoRow.domain false) (((Rows.OpenSpec.upto Rows.utfBackSpec).at F).post enc Try.prog Try.f6 false true false false) := by
  refine returnsInHanded_of_cond (C := Try.checked) (s := Rows.OpenSpec.upto Rows.utfBackSpec) (k := Rows.uptoSmall) rfl own started (by kernel_rfl) Try.func6
    (OpenSpec.witness (enc := enc) (C := Try.checked) (s := Rows.OpenSpec.upto Rows.utfBackSpec) (k := Rows.uptoSmall) rfl false ⟨#[], #[.string ⟨#[]⟩, .slice none 0 0, .int .i64 0], []⟩ 8 (by kernel_rfl) (by kernel_rfl) (by kernel_rfl)
      (x := ([.lit (.string []), .nil, .lit (.int .i64 0)], [], [])) (by kernel_rfl) rfl (by kernel_rfl)) ?_
  intro W base args ds gs before hval hW _ hk _
  exact contract H enc W base args ds gs before hval hW hk

theorem over : Rows.UtfBackUptoSaid :=
  OpenClaim.holds_of_cond 6 Try.f6 rfl rfl rfl rfl rfl rfl rfl ⟨rfl, rfl, rfl, rfl, rfl⟩ rfl rfl rfl rfl rfl (by kernel_rfl) Try.func6 (by kernel_rfl)
    (of_decide_eq_true (by kernel_rfl)) (by unfold Func.isWrapper; first | (rw [if_pos (by decide +kernel)]; kernel_rfl) | (rw [if_neg (by decide +kernel)]; exact ⟨rfl, rfl⟩))
    (fun os started H enc _ F => lifted os started H enc F)
end Go.Proofs.Ytckopbcpjecjhaa.utfBack
namespace Go.Proofs.Ytckopbcpjecjhaa
theorem utfBack_upto_holds : Rows.UtfBackUptoSaid := utfBack.over
#print axioms utfBack_upto_holds
end Go.Proofs.Ytckopbcpjecjhaa
