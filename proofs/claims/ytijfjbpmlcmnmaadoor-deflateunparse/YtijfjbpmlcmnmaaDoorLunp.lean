/- DeflateUnparse: whatever the items: the program and the document tell the same bytes, or that one is none. -/
import Derived.Test.YtijfjbpmlcmnmaaDoorUnr
import Derived.Test.YtijfjbpmlcmnmaaDoorUni
import Derived.Test.YtijfjbpmlcmnmaaDoorAlv
import Derived.Test.YtijfjbpmlcmnmaaDoorOrd
import Derived.Test.YtijfjbpmlcmnmaaDoorRowk
import Derived.Test.YtijfjbpmlcmnmaaDoorCards
import Derived.Test.YtijfjbpmlcmnmaaDoorTie
import Derived.ProofKit
import Derived.OpenShut
import Derived.Deep.DeepHandedRow
import Derived.Lib.LaidTab
namespace Go.Proofs.YtijfjbpmlcmnmaaDoor
open Go.RowKit

set_option maxRecDepth 100000 in
set_option maxHeartbeats 4000000 in
theorem unp_walk (a : Option Addr) (cap : Nat) (its : List It) (w : World) (hI : ItsIn (· < w.heap.size) w a its) (hlen : its.length ≤ 5864062014634) (hwf : ∀ r ∈ its, r.wf) :
    Calls Tryd.prog 5 #[.slice a its.length cap] w fun e w' => e = .returned (.bool true) ∧ Below w.heap.size w w' := by
  obtain ⟨i0, hi, hz0, hz1, hz2⟩ := info_parts Tryd.info32
  go_enter Tryd.func5, Tryd.ntmps5
  go_wp2
  go_loopw [3, 4] (fun v3 v4 wr => ∃ i : Nat, v4 = .int .i64 (i : Int) ∧ i ≤ its.length ∧ OwnIts w.heap.size wr v3 (its.take i) ∧ Below w.heap.size w wr) (fun _ v4 _ => its.length - (intOf v4).toNat)
  case atStart => exact ⟨0, rfl, by omega, by rw [List.take_zero]; exact OwnIts.nil _ _, Below.refl _ _⟩
  case round =>
    obtain ⟨i, rfl, hile, hO, hB⟩ := hrel
    by_cases hlt : i < its.length
    · rcases hI with h0 | ⟨b, off, rfl, hSb, hcs⟩
      · rw [h0] at hlt; simp at hlt
      have HTL : Hid ((its.take i).length = i) := by show _ = _; rw [List.length_take]; omega
      have hIt := (hcs i its[i] (List.getElem?_eq_getElem hlt)).kept (Kept.of_below hB (fun k hk => hk)) hSb
      have HTK : Hid (its.take (i + 1) = its.take i ++ [its[i]]) := by show _ = _; rw [List.take_add_one, List.getElem?_eq_getElem hlt]; rfl
      generalize its[i] = r at hIt HTK
      obtain ⟨rb, rl, rd⟩ := r
      generalize its.take i = ts at hO HTL HTK
      obtain ⟨⟨g, c, rfl⟩, hown⟩ := hO
      have HS : Hid (wr.drew.cell? ⟨b, off + i * 3, none⟩ = some (.int .i64 rb) ∧ wr.drew.cell? ⟨b, off + i * 3 + 1, none⟩ = some (.int .i64 rl) ∧ wr.drew.cell? ⟨b, off + i * 3 + 2, none⟩ = some (.int .i64 rd)) := ⟨hIt.cb, hIt.cl, hIt.cd⟩
      have hL : Hid (i < its.length) := hlt
      clear hcs hIt
      go_wp2_with fail
      refine wp_region_K (fun wx => wx.cell? ⟨b, off + i * 3, none⟩ = some (.int .i64 rb) ∧ wx.cell? ⟨b, off + i * 3 + 1, none⟩ = some (.int .i64 rl) ∧ wx.cell? ⟨b, off + i * 3 + 2, none⟩ = some (.int .i64 rd)) (fun j => decide (1 ≤ j) && decide (j ≤ 16)) (by kernel_rfl) ?_
      refine wpK_free (k := 0) (v := ?_) rfl (by kernel_rfl) (by kernel_rfl) (fun _ _ _ h => h) rfl (by intro wx; go_simp <;> rfl) ?_
      refine wpK_held (k := 1) (v := ?_) rfl (by kernel_rfl) (by kernel_rfl) (fun _ _ _ h => h) rfl (by rintro wx ⟨hx1, hx2, hx3⟩; go_simp <;> rfl) HS.out ?_
      refine wpK_held (k := 2) (v := ?_) rfl (by kernel_rfl) (by kernel_rfl) (fun _ _ _ h => h) rfl (by rintro wx ⟨hx1, hx2, hx3⟩; go_simp <;> rfl) HS.out ?_
      refine wpK_held (k := 3) (v := ?_) rfl (by kernel_rfl) (by kernel_rfl) (fun _ _ _ h => h) rfl (by rintro wx ⟨hx1, hx2, hx3⟩; go_simp <;> rfl) HS.out ?_
      refine wpK_held (k := 4) (v := ?_) rfl (by kernel_rfl) (by kernel_rfl) (fun _ _ _ h => h) rfl (by rintro wx ⟨hx1, hx2, hx3⟩; go_simp <;> rfl) HS.out ?_
      refine wpK_held (k := 5) (v := ?_) rfl (by kernel_rfl) (by kernel_rfl) (fun _ _ _ h => h) rfl (by rintro wx ⟨hx1, hx2, hx3⟩; go_simp <;> rfl) HS.out ?_
      refine wpK_held (k := 6) (v := ?_) rfl (by kernel_rfl) (by kernel_rfl) (fun _ _ _ h => h) rfl (by rintro wx ⟨hx1, hx2, hx3⟩; go_simp <;> rfl) HS.out ?_
      refine wpK_held (k := 7) (v := ?_) rfl (by kernel_rfl) (by kernel_rfl) (fun _ _ _ h => h) rfl (by rintro wx ⟨hx1, hx2, hx3⟩; go_simp <;> rfl) HS.out ?_
      refine wpK_held (k := 8) (v := ?_) rfl (by kernel_rfl) (by kernel_rfl) (fun _ _ _ h => h) rfl (by rintro wx ⟨hx1, hx2, hx3⟩; go_simp <;> rfl) HS.out ?_
      refine wpK_held (k := 9) (v := ?_) rfl (by kernel_rfl) (by kernel_rfl) (fun _ _ _ h => h) rfl (by rintro wx ⟨hx1, hx2, hx3⟩; go_simp <;> rfl) HS.out ?_
      refine wpK_held (k := 10) (v := ?_) rfl (by kernel_rfl) (by kernel_rfl) (fun _ _ _ h => h) rfl (by rintro wx ⟨hx1, hx2, hx3⟩; go_simp <;> rfl) HS.out ?_
      refine wpK_held (k := 11) (v := ?_) rfl (by kernel_rfl) (by kernel_rfl) (fun _ _ _ h => h) rfl (by rintro wx ⟨hx1, hx2, hx3⟩; go_simp <;> rfl) HS.out ?_
      refine wpK_held (k := 12) (v := ?_) rfl (by kernel_rfl) (by kernel_rfl) (fun _ _ _ h => h) rfl (by rintro wx ⟨hx1, hx2, hx3⟩; go_simp <;> rfl) HS.out ?_
      refine wpK_held (k := 13) (v := ?_) rfl (by kernel_rfl) (by kernel_rfl) (fun _ _ _ h => h) rfl (by rintro wx ⟨hx1, hx2, hx3⟩; go_simp <;> rfl) HS.out ?_
      refine wpK_held (k := 14) (v := ?_) rfl (by kernel_rfl) (by kernel_rfl) (fun _ _ _ h => h) rfl (by rintro wx ⟨hx1, hx2, hx3⟩; go_simp <;> rfl) HS.out ?_
      refine wpK_held (k := 15) (v := ?_) rfl (by kernel_rfl) (by kernel_rfl) (fun _ _ _ h => h) rfl (by rintro wx ⟨hx1, hx2, hx3⟩; go_simp <;> rfl) HS.out ?_
      refine wpK_held (k := 16) (v := ?_) rfl (by kernel_rfl) (by kernel_rfl) (fun _ _ _ h => h) rfl (by rintro wx ⟨hx1, hx2, hx3⟩; go_simp <;> rfl) HS.out ?_
      refine wpK_one (k := 17) rfl (by kernel_rfl) ?_
      go_wp2_with fail
      refine ⟨(fun h => by cases h), ?_⟩
      refine wpK_rest 18 (by kernel_rfl) 2 18 (by decide) (by decide) _ _ ?_
      simp only [List.drop_succ_cons, List.drop_zero]
      have hO1 : OwnIts w.heap.size (wr.drew.alloc (.cells #[.int .i64 rb, .int .i64 rl, .int .i64 rd] 32)) (.slice g ts.length c) ts := OwnIts.alloc (W := wr.drew) ⟨⟨g, c, rfl⟩, hown⟩ _
      have hB1 : Below w.heap.size w (wr.drew.alloc (.cells #[.int .i64 rb, .int .i64 rl, .int .i64 rd] 32)) := hB.drew.alloc hB.size _
      have hBs : w.heap.size ≤ (wr.drew.alloc (.cells #[.int .i64 rb, .int .i64 rl, .int .i64 rd] 32)).heap.size := hB1.size
      have HNW : Hid (∀ (j : Nat) (u : Value), ([.int .i64 rb, .int .i64 rl, .int .i64 rd] : List Value)[j]? = some u → (wr.drew.alloc (.cells #[.int .i64 rb, .int .i64 rl, .int .i64 rd] 32)).cell? ((⟨wr.drew.heap.size, 0, none⟩ : Addr).add j) = some u) := by
        intro j u hu
        have hR := Row.new wr.drew 32 #[.int .i64 rb, .int .i64 rl, .int .i64 rd]
        have h := hR.cell (i := j) (v := u) (by simpa using hu)
        rw [Go.WideShapes.add_plain]
        simpa using h
      clear HS hown hB
      go_wp2_with (at_builtin; refine wpList_append_own2 _ rfl (.tmp 15) (.tmp 32) 28 rfl w.heap.size 32 i0 (.agg #[.int .i64 0, .int .i64 0, .int .i64 0]) 3 24 Tryd.underlying28 hi hz0 hz1 hz2 rfl (by decide) _ _ _ rfl hO1.2 ⟨wr.drew.heap.size, 0, none⟩ 1 1 [.int .i64 rb, .int .i64 rl, .int .i64 rd] rfl rfl HNW.out (by simp [Value.oneCell']) (by have := HTL.out; unfold maxLen; omega) (by have := HTL.out; omega) hBs ?_)
      intro v' w6 h6 hg hb
      have HP := OwnIts.push (r := ⟨rb, rl, rd⟩) hO1 hB1 h6 hg hBs
      clear hO1 hB1 HNW h6 hg hb hBs
      obtain ⟨⟨⟨g', c', rfl⟩, ho6⟩, hB6⟩ := HP
      go_wp2
      exact ⟨⟨i + 1, by go_num, by have := hL.out; omega, by rw [HTK.out]; exact ⟨⟨g', c', rfl⟩, ho6⟩, hB6⟩, by have := hL.out; simp [intOf]; omega⟩
    · obtain rfl : i = its.length := by omega
      rw [List.take_length] at hO
      obtain ⟨⟨g, c, rfl⟩, hown⟩ := hO
      have hIo : ItsIn (· < wr.heap.size) wr g its := OwnIts.items ⟨⟨g, c, rfl⟩, hown⟩
      have hIl : ItsIn (· < w.heap.size) wr a its := hI.kept (Kept.of_below hB (fun _ h => h))
      have hBs := hB.size
      have H1 : Hid (Calls Tryd.prog 12 #[.slice g its.length c] wr (UnpPost wr.heap.size wr (unpS its []))) := unparse_any (· < wr.heap.size) g c its wr (fun _ h => h) hIo (by omega) hwf _ rfl
      clear hown hIo hI
      generalize hR : unpS its [] = R at H1
      have HR : Hid (unpS its [] = R) := hR
      clear hR
      go_wp2_with fail
      refine H1.out.mono ?_
      clear H1
      rintro e w1 ⟨hb1, hc1⟩
      have H2 : Hid (Calls Tryd.prog 11 #[.slice a its.length cap] w1 (UnpPost w1.heap.size w1 R)) := refUnparse_any (· < w.heap.size) a cap its w1 (fun k (h : k < _) => by have := hb1.size; omega) (hIl.kept (Kept.of_below hb1 (fun k (h : k < _) => by show k < _; omega))) (by omega) R HR
      clear HR hIl
      rcases hc1 with ⟨rfl, rfl⟩ | ⟨os, v, rfl, rfl, ⟨⟨g1, c1, rfl⟩, ho1⟩, -, -⟩
      · go_wp2_with fail
        refine H2.out.mono ?_
        clear H2
        rintro e w2 ⟨hb2, (⟨-, rfl⟩ | ⟨os, v, h, -⟩)⟩
        rotate_left
        · cases h
        have H3 : Hid (Calls Tryd.prog 13 #[.slice none 0 0, .slice none 0 0] w2 fun e w' => e = .returned (.bool true) ∧ w' = w2) := same_any (fun _ => True) none none 0 0 0 0 [] w2 (.inl ⟨rfl, none, 0, rfl⟩) (.inl ⟨rfl, none, 0, rfl⟩)
        have H4 : Hid (Calls Tryd.prog 8 #[] w2 _) := alive_any w2
        have hB2 : Below w.heap.size w w2 := hB.trans ((hb1.mono hBs).trans (hb2.mono (by have := hb1.size; omega)))
        clear hb1 hb2 hB
        go_wp2_with fail
        refine H3.out.mono ?_
        clear H3
        rintro e w3 ⟨rfl, rfl⟩
        go_wp2_with fail
        refine H4.out.mono ?_
        clear H4
        rintro e w4 ⟨rfl, hb4⟩
        have HF : Hid (Below w.heap.size w w4) := hB2.trans (hb4.mono hB2.size)
        clear hB2 hb4
        go_wp2
        go_ret
        exact ⟨rfl, HF.out⟩
      · go_wp2_with fail
        refine H2.out.mono ?_
        clear H2
        rintro e w2 ⟨hb2, (⟨h, -⟩ | ⟨os', v, h, rfl, ⟨⟨g2, c2, rfl⟩, ho2⟩, -, -⟩)⟩
        · cases h
        obtain rfl : os = os' := Option.some.inj h
        have ho12 := owns_kept (S := (· < w1.heap.size)) ho1 (Kept.of_below hb2 (fun _ h => h)) (fun k hk => (ho1.lt k hk).2)
        have H3 : Hid (Calls Tryd.prog 13 #[.slice g1 os.length c1, .slice g2 os.length c2] w2 fun e w' => e = .returned (.bool true) ∧ w' = w2) := same_any (fun _ => True) g1 g2 os.length os.length c1 c2 os w2 (bytesIn_of_owns _ ho12 (fun _ _ => trivial)) (bytesIn_of_owns _ ho2 (fun _ _ => trivial))
        have H4 : Hid (Calls Tryd.prog 8 #[] w2 _) := alive_any w2
        have hB2 : Below w.heap.size w w2 := hB.trans ((hb1.mono hBs).trans (hb2.mono (by have := hb1.size; omega)))
        clear hb1 hb2 hB ho1 ho12 ho2 h
        go_wp2_with fail
        refine H3.out.mono ?_
        clear H3
        rintro e w3 ⟨rfl, rfl⟩
        go_wp2_with fail
        refine H4.out.mono ?_
        clear H4
        rintro e w4 ⟨rfl, hb4⟩
        have HF : Hid (Below w.heap.size w w4) := hB2.trans (hb4.mono hB2.size)
        clear hB2 hb4
        go_wp2
        go_ret
        exact ⟨rfl, HF.out⟩

namespace deflateUnparse
open Go.ChangeShapes Go.WideShapes Go.ChangeAt Go.RowKit
theorem own : ownKnob Tryd.prog.godebug = none := by kernel_rfl
set_option maxRecDepth 100000 in
theorem contract (H : Type) (enc : TypeId × Value → H) (W : World) (base : Nat) (args : Array Value) (ds gs : List (DataW H)) (before : List MemPlace)
    (hval : ∀ (j : Nat) t v, Tryd.f5.params[j]? = some t → args[j]? = some v → Value.okWide Tryd.prog W .any base t v)
    (hW : DataW.Whole enc Tryd.prog Tryd.f5.params.toList Rows.deflateUnparseSpec.vars false W args.toList ds gs before) (_hL : laidMetH Tryd.prog Rows.deflateUnparseRow.laid W)
    (hsz0 : (DataW.weightsEach Tryd.prog (Tryd.f5.params.toList ++ Rows.deflateUnparseSpec.plain.varTypes Tryd.prog) (ds ++ gs)).all (· ≤ reachBytes) = true) :
    Calls Tryd.prog 5 args W fun e W' => ∃ v, e = .returned v ∧ Rows.deflateUnparseSpec.post enc Tryd.prog Tryd.f5 false true false false W args v W' := by
  have hW' := hW
  obtain ⟨p, q, hA0, hV, rfl, hfz, hnd⟩ := hW
  have hA : DataW.TrodAll enc Tryd.prog W 0 (fun _ => true) true Tryd.f5.params.toList args.toList ds p := hA0
  have hsz := hsz0
  rw [Tryd.params5] at hA hval hsz
  obtain ⟨v0, vs0, d0, ds0, p0, q0, hargs, rfl, rfl, h0, r0⟩ := trodAll_cons hA
  obtain ⟨rfl, rfl, rfl⟩ := trodAll_nil r0
  obtain rfl : args = #[v0] := by cases args; simp_all
  obtain ⟨rfl, rfl⟩ := trodVars_none hV
  obtain ⟨a0, len0, cap0, rfl⟩ := okWide_slice Tryd.underlying30 (hval 0 30 v0 rfl rfl)
  have k0 := h0
  have lt0 : ∀ x ∈ p0, x.block < W.heap.size := by obtain ⟨m, hm⟩ := k0; exact DataW.trod_lt m _ _ _ hm
  obtain ⟨its, hlen0, hLb, hz, hd1⟩ := open_its h0
  have hl1 : its.length ≤ 5864062014634 := by
    rcases hd1 with ⟨_, h⟩ | ⟨e, s, rfl, h⟩
    · omega
    · have := sized_slice hsz (j := 0) (t := 30) (e := 33) rfl rfl Tryd.underlying30
      rw [bytes33] at this
      simp only [reachBytes] at this
      omega
  clear hA0 hsz hsz0
  subst hlen0
  refine (unp_walk a0 cap0 its W hLb hl1 hz).mono fun e W' ⟨he, bel⟩ => ?_
  subst he
  exact ⟨_, rfl, _, _, _, [], _, [], hW', trodAll_mk1 (shut_bool Tryd.underlying4 _), (trodAll_cons_mk (Below.trod laidOut (by kernel_rfl) (of_decide_eq_true (by kernel_rfl)) k0 bel lt0) trodAll_mk0), rfl, bel.frame _, fun h => by cases h⟩

/-- A world for the witness: the settled one, the table holding what its initialiser lays. -/
noncomputable def laidWorld (os : Os) : World :=
  { World.holding Tryd.prog os ⟨#[], #[], []⟩ with heap := (World.holding Tryd.prog os ⟨#[], #[], []⟩).heap.modify 0 fun
      | .cells _ t frozen => .cells #[.int .i64 16, .int .i64 17, .int .i64 18, .int .i64 0, .int .i64 8, .int .i64 7, .int .i64 9, .int .i64 6, .int .i64 10, .int .i64 5, .int .i64 11, .int .i64 4, .int .i64 12, .int .i64 3, .int .i64 13, .int .i64 2, .int .i64 14, .int .i64 1, .int .i64 15] t frozen
      | o => o }
theorem laid_met (os : Os) : laidMet Tryd.prog Rows.deflateUnparseRow.laid ((laidWorld os).forCall (fun _ _ => 0) ⟨#[], #[.slice none 0 0], []⟩).memory :=
  laidMet_of_run' 8 (by kernel_rfl) (by kernel_rfl)
theorem reads (os : Os) {H : Type} (enc : TypeId × Value → H) : ∃ places, DataW.whole enc Tryd.prog ((laidWorld os).forCall (fun _ _ => 0) ⟨#[], #[.slice none 0 0], []⟩).memory Tryd.f5.params.toList Rows.deflateUnparseSpec.vars false #[Value.slice none 0 0].toList 8 = some ([.nil], [], places) :=
  ⟨[], by kernel_rfl⟩
set_option maxRecDepth 100000 in
theorem lifted (os : Os) (started : os.Started) (H : Type) (enc : TypeId × Value → H) (F : Stop.Interp) :
    ReturnsInHanded {} Tryd.checked os 5 .any ((OpenSpec.ofChange Rows.deflateUnparseSpec).preRow enc Tryd.prog Tryd.f5 Rows.deflateUnparseRow.domain false Rows.deflateUnparseRow.laid) (((OpenSpec.ofChange Rows.deflateUnparseSpec).at F).post enc Tryd.prog Tryd.f5 false true false false) := by
  obtain ⟨places, hx⟩ := reads os enc
  refine returnsInHanded_of_row (C := Tryd.checked) (s := OpenSpec.ofChange Rows.deflateUnparseSpec) own started (by kernel_rfl) Tryd.func5
    (witness_row_at (enc := enc) (C := Tryd.checked) false (laidWorld os) #[.slice none 0 0] rfl (by kernel_rfl) (by kernel_rfl) (by kernel_rfl)
      (OpenSpec.preRow_of_cond 8 hx (by kernel_rfl) (fun k hk => by cases hk) (by kernel_rfl) (laid_met os))) ?_
  intro W base args ds gs before hval hW _ _ hsz hL _ _
  exact contract H enc W base args ds gs before hval hW hL hsz
theorem said : Rows.DeflateUnparseSaid :=
  OpenClaim.holds_of_cond 5 Tryd.f5 rfl rfl rfl rfl rfl rfl rfl ⟨rfl, rfl, rfl, rfl, rfl⟩ rfl rfl rfl rfl rfl (by kernel_rfl) Tryd.func5 (by kernel_rfl)
    (of_decide_eq_true (by kernel_rfl)) (by unfold Func.isWrapper; first | (rw [if_pos (by decide +kernel)]; kernel_rfl) | (rw [if_neg (by decide +kernel)]; exact ⟨rfl, rfl⟩))
    (fun os started H enc _ F => by rw [OpenClaim.pre_eq_preRow]; exact lifted os started H enc F)
theorem plain (f : FuncId) (fn : Func) (hf : Tryd.pinned.checked.prog.funcNamed "quire/quirelaw04.DeflateUnparse" = some f) (hfn : Tryd.pinned.checked.prog.funcs[f]? = some fn) :
    false = Tryd.pinned.checked.prog.looks [] ∧ ∀ (j : Nat) t, fn.params[j]? = some t → Tryd.pinned.checked.prog.wantsStandIn t = false := by
  obtain rfl : f = 5 := Option.some.inj ((show Tryd.prog.funcNamed "quire/quirelaw04.DeflateUnparse" = some 5 by kernel_rfl).symm.trans hf) |>.symm
  obtain rfl : fn = Tryd.f5 := (Option.some.inj (Tryd.func5.symm.trans hfn)).symm
  refine ⟨by kernel_rfl, fun j t ht => ?_⟩
  rw [Tryd.params5] at ht
  obtain rfl : t = 30 := by simpa using Array.mem_of_getElem? ht
  exact (show Tryd.prog.wantsStandIn 30 = false by kernel_rfl)
theorem card : Rows.DeflateUnparseCardSaid :=
  Claim7.holds_tied_plain_at .later [] _ _ _ _ said (fun _ h => by cases h) (by kernel_rfl) (fun _ h => by cases h) deflateUnparse_row_tie rfl ⟨rfl, rfl⟩ (by kernel_rfl) rfl plain (by kernel_rfl)
end deflateUnparse
theorem deflateUnparse_holds : Rows.DeflateUnparseCardSaid := deflateUnparse.card
#print axioms deflateUnparse_holds
end Go.Proofs.YtijfjbpmlcmnmaaDoor
