/- InflateTables: the tables of lengths and distances, and the fixed codes' lengths, are the document's; whatever the symbol. -/
import Derived.Test.YtiheajlgaehfmaaDoorPal
import Derived.Test.YtiheajlgaehfmaaDoorCards
import Derived.Test.YtiheajlgaehfmaaDoorTie
import Derived.ProofKit
import Derived.OpenShut
import Derived.Deep.DeepHandedRow
import Derived.Lib.LaidTab
namespace Go.Proofs.YtiheajlgaehfmaaDoor
open Go.RowKit

theorem tabRes_form (o : Option (Nat × Nat)) : ∃ (b x : Int) (ok : Bool), tabRes o = .tuple #[.int .i64 b, .int .i64 x, .bool ok] := by
  cases o with
  | none => exact ⟨0, 0, false, rfl⟩
  | some p => exact ⟨p.1, p.2, true, rfl⟩

set_option maxRecDepth 100000 in
set_option maxHeartbeats 1000000 in
theorem ints_any (S : Nat → Prop) (a1 a2 : Option Addr) (n c1 c2 : Nat) (zs : List Int) (w : World) (hn : zs.length = n) (hl : n ≤ 1000) (h1 : IntsIn S w (.slice a1 zs.length c1) zs) (h2 : IntsIn S w (.slice a2 zs.length c2) zs) :
    Calls Tryd.prog 15 #[.slice a1 n c1, .slice a2 n c2] w fun e w' => e = .returned (.bool true) ∧ ∃ q, w' = w.drewN q := by
  subst hn
  have t0 : (((zs.length : Int)) != (zs.length : Int)) = false := by simp
  go_enter Tryd.func15, Tryd.ntmps15
  go_wp2_with fail
  go_loopw [5] (fun v5 wr => ∃ (k q : Nat), k ≤ zs.length ∧ v5 = .int .i64 (k : Int) ∧ wr = w.drewN q) (fun v5 _ => zs.length - (intOf v5).toNat)
  case atStart => exact ⟨0, 0, by omega, rfl, rfl⟩
  case round =>
    obtain ⟨k, q, hk, rfl, rfl⟩ := hrel
    by_cases hlt : k < zs.length
    · obtain ⟨b1, o1, rfl, _, e1⟩ := h1.at k hlt
      obtain ⟨b2, o2, rfl, _, e2⟩ := h2.at k hlt
      have t1 : ((zs[k]?.getD 0 : Int) != (zs[k]?.getD 0 : Int)) = false := by simp
      generalize zs[k]?.getD 0 = z at e1 e2 t1
      clear h1 h2
      go_wp2_with fail
      go_quiet (fail)
      go_wp2
      exact ⟨⟨k + 1, _, by omega, by go_num, rfl⟩, by simp [intOf]; omega⟩
    · obtain rfl : k = zs.length := by omega
      go_wp2
      go_ret
      exact ⟨rfl, q, rfl⟩

set_option maxRecDepth 100000 in
set_option maxHeartbeats 4000000 in
theorem tables_walk (sym : Int) (w : World) (hO : OrdAt w) : Calls Tryd.prog 4 #[.int .i64 sym] w fun e w' => e = .returned (.bool true) ∧ Below w.heap.size w w' := by
  obtain ⟨b1, x1, k1, hr1⟩ := tabRes_form (litS sym)
  obtain ⟨b2, x2, k2, hr2⟩ := tabRes_form (distS sym)
  have H1 : Hid _ := plit_r _ sym hr1 w
  have H2 : Hid _ := lit_r _ sym hr1 w
  have H3 : Hid _ := pdist_r _ sym hr2 w
  have H4 : Hid _ := dist_r _ sym hr2 w
  clear hr1 hr2
  go_enter Tryd.func4, Tryd.ntmps4
  go_wp2_with fail
  refine Calls.mono H1.out ?_
  rintro e w' ⟨rfl, hw⟩
  rw [hw]
  clear hw w' H1
  go_wp2_with fail
  refine Calls.mono H2.out ?_
  rintro e w' ⟨rfl, hw⟩
  rw [hw]
  clear hw w' H2
  go_wp2_with fail
  refine Calls.mono H3.out ?_
  rintro e w' ⟨rfl, hw⟩
  rw [hw]
  clear hw w' H3
  go_wp2_with fail
  refine Calls.mono H4.out ?_
  rintro e w' ⟨rfl, hw⟩
  rw [hw]
  clear hw w' H4
  have t1 : (b1 == b1) = true := by simp
  have t2 : (x1 == x1) = true := by simp
  have t3 : (b2 == b2) = true := by simp
  have t4 : (x2 == x2) = true := by simp
  have t5 : (k1 == k1) = true := by simp
  have t6 : (k2 == k2) = true := by simp
  go_wp2_with fail
  refine (pfixedLit_any _).mono ?_
  rintro e w1 ⟨g1, c1, rfl, o1, d1⟩
  go_wp2_with fail
  refine (fixedLit_any _).mono ?_
  rintro e w2 ⟨g2, c2, rfl, o2, d2⟩
  have hk12 : Kept (fun k => k < w1.heap.size) w1 w2 := Kept.of_below d2 (fun _ h => h)
  have HI : Hid _ := ints_any (fun k => k < w2.heap.size) g1 g2 288 c1 c2 fixLit w2 rfl (by omega)
    (intsIn_of_owns (zs := fixLit) _ (owns_kept o1 hk12 (fun k hk => (o1.lt k hk).2)) (fun k hk => by have := (o1.lt k hk).2; have := d2.size; omega)) (intsIn_of_owns (zs := fixLit) _ o2 (fun k hk => (o2.lt k hk).2))
  have d02 : Below w.heap.size w w2 := d1.trans (d2.mono d1.size)
  clear o1 o2 hk12
  go_wp2_with fail
  refine Calls.mono HI.out ?_
  clear HI
  rintro e w3 ⟨rfl, q3, rfl⟩
  have d03 : Below w.heap.size w (w2.drewN q3) := d02.trans ⟨rfl, rfl, rfl, Nat.le_refl _, fun _ _ => rfl⟩
  generalize w2.drewN q3 = w3 at d03 ⊢
  go_wp2_with fail
  refine (pfixedDist_any _).mono ?_
  rintro e w4 ⟨g4, c4, rfl, o4, d4⟩
  go_wp2_with fail
  refine (fixedDist_any _).mono ?_
  rintro e w5 ⟨g5, c5, rfl, o5, d5⟩
  have hk45 : Kept (fun k => k < w4.heap.size) w4 w5 := Kept.of_below d5 (fun _ h => h)
  have HI : Hid _ := ints_any (fun k => k < w5.heap.size) g4 g5 32 c4 c5 fixDist w5 rfl (by omega)
    (intsIn_of_owns (zs := fixDist) _ (owns_kept o4 hk45 (fun k hk => (o4.lt k hk).2)) (fun k hk => by have := (o4.lt k hk).2; have := d5.size; omega)) (intsIn_of_owns (zs := fixDist) _ o5 (fun k hk => (o5.lt k hk).2))
  have d05 : Below w.heap.size w w5 := (d03.trans (d4.mono d03.size)).trans (d5.mono (by have := d03.size; have := d4.size; omega))
  clear o4 o5 hk45
  go_wp2_with fail
  refine Calls.mono HI.out ?_
  clear HI
  rintro e w6 ⟨rfl, q6, rfl⟩
  have d06 : Below w.heap.size w (w5.drewN q6) := d05.trans ⟨rfl, rfl, rfl, Nat.le_refl _, fun _ _ => rfl⟩
  generalize w5.drewN q6 = w6 at d06 ⊢
  have HA : Hid _ := alive_any w6 (hO.below d06)
  go_wp2_with fail
  refine Calls.mono HA.out ?_
  clear HA
  rintro e w7 ⟨rfl, d7⟩
  have HF : Hid (Below w.heap.size w w7) := d06.trans (d7.mono d06.size)
  clear d1 d2 d02 d03 d4 d5 d05 d06 d7
  go_wp2
  go_ret
  exact ⟨rfl, HF.out⟩

namespace inflateTables
open Go.ChangeShapes Go.WideShapes Go.ChangeAt Go.RowKit
theorem own : ownKnob Tryd.prog.godebug = none := by kernel_rfl
theorem gTab : Tryd.prog.globalNamed "quire/inflate.lengthOrder" = some 0 := by kernel_rfl
theorem gTabType : (Tryd.prog.globals[0]?).map (·.type) = some 118 := by kernel_rfl
theorem cells118 : Tryd.prog.cellsOf 118 = 19 := by kernel_rfl
theorem cells3 : Tryd.prog.cellsOf 3 = 1 := by kernel_rfl
/-- What the row's list gives: the table's cells hold the order. -/
theorem table {W : World} (h : laidMetH Tryd.prog Rows.inflateTablesRow.laid W) : Lib.TabIs Tryd.prog W "quire/inflate.lengthOrder" .i64 [16, 17, 18, 0, 8, 7, 9, 6, 10, 5, 11, 4, 12, 3, 13, 2, 14, 1, 15] :=
  Lib.tabIs_of_head (rest := []) gTab gTabType Tryd.underlying118 Tryd.underlying3 cells3 cells118 h
theorem ord {W : World} (h : laidMetH Tryd.prog Rows.inflateTablesRow.laid W) : OrdAt W := by
  have hc : ∀ j, j < 19 → W.cell? ⟨0, j, none⟩ = some (.int .i64 ((orderL[j]?.getD 0 : Nat) : Int)) := by
    intro j hj
    have := (table h).cell gTab j (by simpa using hj)
    have key : ∀ j, j < 19 → ([16, 17, 18, 0, 8, 7, 9, 6, 10, 5, 11, 4, 12, 3, 13, 2, 14, 1, 15] : List Int).getD j 0 = ((orderL[j]?.getD 0 : Nat) : Int) := by decide
    rw [this, key j hj]
  exact ⟨World.block_lt_of_cell? _ _ (hc 0 (by omega)), hc⟩
set_option maxRecDepth 100000 in
theorem contract (H : Type) (enc : TypeId × Value → H) (W : World) (base : Nat) (args : Array Value) (ds gs : List (DataW H)) (before : List MemPlace)
    (hval : ∀ (j : Nat) t v, Tryd.f4.params[j]? = some t → args[j]? = some v → Value.okWide Tryd.prog W .any base t v)
    (hW : DataW.Whole enc Tryd.prog Tryd.f4.params.toList Rows.inflateTablesSpec.vars false W args.toList ds gs before) (hL : laidMetH Tryd.prog Rows.inflateTablesRow.laid W) :
    Calls Tryd.prog 4 args W fun e W' => ∃ v, e = .returned v ∧ Rows.inflateTablesSpec.post enc Tryd.prog Tryd.f4 false true false false W args v W' := by
  have hW' := hW
  obtain ⟨p, q, hA0, hV, rfl, hfz, hnd⟩ := hW
  have hA : DataW.TrodAll enc Tryd.prog W 0 (fun _ => true) true Tryd.f4.params.toList args.toList ds p := hA0
  rw [Tryd.params4] at hA hval
  obtain ⟨v0, vs0, d0, ds0, p0, q0, hargs, rfl, rfl, h0, r0⟩ := trodAll_cons hA
  obtain ⟨rfl, rfl, rfl⟩ := trodAll_nil r0
  obtain rfl : args = #[v0] := by cases args; simp_all
  obtain ⟨rfl, rfl⟩ := trodVars_none hV
  obtain ⟨n, rfl, rfl, rfl, hwn⟩ := open_int Tryd.underlying3 (hval 0 3 v0 rfl rfl) h0
  clear hA0
  simp only [List.append_nil] at hW'
  refine (tables_walk n W (ord hL)).mono fun e W' ⟨he, bel⟩ => ?_
  subst he
  exact ⟨_, rfl, _, _, _, [], [], [], hW', trodAll_mk1 (shut_bool Tryd.underlying4 _), trodAll_mk1 (shut_int Tryd.underlying3 hwn), rfl, bel.frame _, fun h => by cases h⟩

/-- A world for the witness: the settled one, the table holding what its initialiser lays. -/
noncomputable def laidWorld (os : Os) : World :=
  { World.holding Tryd.prog os ⟨#[], #[], []⟩ with heap := (World.holding Tryd.prog os ⟨#[], #[], []⟩).heap.modify 0 fun
      | .cells _ t frozen => .cells #[.int .i64 16, .int .i64 17, .int .i64 18, .int .i64 0, .int .i64 8, .int .i64 7, .int .i64 9, .int .i64 6, .int .i64 10, .int .i64 5, .int .i64 11, .int .i64 4, .int .i64 12, .int .i64 3, .int .i64 13, .int .i64 2, .int .i64 14, .int .i64 1, .int .i64 15] t frozen
      | o => o }
theorem laid_met (os : Os) : laidMet Tryd.prog Rows.inflateTablesRow.laid ((laidWorld os).forCall (fun _ _ => 0) ⟨#[], #[.int .i64 0], []⟩).memory :=
  laidMet_of_run' 8 (by kernel_rfl) (by kernel_rfl)
theorem reads (os : Os) {H : Type} (enc : TypeId × Value → H) : ∃ places, DataW.whole enc Tryd.prog ((laidWorld os).forCall (fun _ _ => 0) ⟨#[], #[.int .i64 0], []⟩).memory Tryd.f4.params.toList Rows.inflateTablesSpec.vars false #[Value.int .i64 0].toList 8 = some ([.lit (.int .i64 0)], [], places) :=
  ⟨[], by kernel_rfl⟩
set_option maxRecDepth 100000 in
theorem lifted (os : Os) (started : os.Started) (H : Type) (enc : TypeId × Value → H) (F : Stop.Interp) :
    ReturnsInHanded {} Tryd.checked os 4 .any ((OpenSpec.ofChange Rows.inflateTablesSpec).preRow enc Tryd.prog Tryd.f4 Rows.inflateTablesRow.domain false Rows.inflateTablesRow.laid) (((OpenSpec.ofChange Rows.inflateTablesSpec).at F).post enc Tryd.prog Tryd.f4 false true false false) := by
  obtain ⟨places, hx⟩ := reads os enc
  refine returnsInHanded_of_row (C := Tryd.checked) (s := OpenSpec.ofChange Rows.inflateTablesSpec) own started (by kernel_rfl) Tryd.func4
    (witness_row_at (enc := enc) (C := Tryd.checked) false (laidWorld os) #[.int .i64 0] rfl (by kernel_rfl) (by kernel_rfl) (by kernel_rfl)
      (OpenSpec.preRow_of_cond 8 hx (by kernel_rfl) (fun k hk => by cases hk) (by kernel_rfl) (laid_met os))) ?_
  intro W base args ds gs before hval hW _ _ _ hL _ _
  exact contract H enc W base args ds gs before hval hW hL
theorem said : Rows.InflateTablesSaid :=
  OpenClaim.holds_of_cond 4 Tryd.f4 rfl rfl rfl rfl rfl rfl rfl ⟨rfl, rfl, rfl, rfl, rfl⟩ rfl rfl rfl rfl rfl (by kernel_rfl) Tryd.func4 (by kernel_rfl)
    (of_decide_eq_true (by kernel_rfl)) (by unfold Func.isWrapper; first | (rw [if_pos (by decide +kernel)]; kernel_rfl) | (rw [if_neg (by decide +kernel)]; exact ⟨rfl, rfl⟩))
    (fun os started H enc _ F => by rw [OpenClaim.pre_eq_preRow]; exact lifted os started H enc F)
theorem plain (f : FuncId) (fn : Func) (hf : Tryd.pinned.checked.prog.funcNamed "quire/quirelaw03.InflateTables" = some f) (hfn : Tryd.pinned.checked.prog.funcs[f]? = some fn) :
    true = Tryd.pinned.checked.prog.looks [] ∧ ∀ (j : Nat) t, fn.params[j]? = some t → Tryd.pinned.checked.prog.wantsStandIn t = false := by
  obtain rfl : f = 4 := Option.some.inj ((show Tryd.prog.funcNamed "quire/quirelaw03.InflateTables" = some 4 by kernel_rfl).symm.trans hf) |>.symm
  obtain rfl : fn = Tryd.f4 := (Option.some.inj (Tryd.func4.symm.trans hfn)).symm
  refine ⟨by kernel_rfl, fun j t ht => ?_⟩
  rw [Tryd.params4] at ht
  obtain rfl : t = 3 := by simpa using Array.mem_of_getElem? ht
  exact (show Tryd.prog.wantsStandIn 3 = false by kernel_rfl)
theorem card : Rows.InflateTablesCardSaid :=
  Claim7.holds_tied_plain_at .later [] _ _ _ _ said (fun _ h => by cases h) (by kernel_rfl) (fun _ h => by cases h) inflateTables_row_tie rfl ⟨rfl, rfl⟩ (by kernel_rfl) rfl plain (by kernel_rfl)
end inflateTables
theorem inflateTables_holds : Rows.InflateTablesCardSaid := inflateTables.card
#print axioms inflateTables_holds
end Go.Proofs.YtiheajlgaehfmaaDoor
