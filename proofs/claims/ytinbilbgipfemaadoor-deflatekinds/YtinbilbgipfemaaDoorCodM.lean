import Derived.Test.YtinbilbgipfemaaDoorTabM
import Derived.Test.YtinbilbgipfemaaDoorOflM
import Derived.Deep.OwnRows
import Derived.Stop.RegionWithIn
/- Codes: each symbol's code, or the error of these lengths. -/
namespace Go.Proofs.YtinbilbgipfemaaDoor
open Go.RowKit Go.Shelf

attribute [local go_sem] Oper.semAt_some

set_option maxRecDepth 100000 in
set_option maxHeartbeats 2000000 in
theorem codes_err (S : Nat → Prop) (a : Option Addr) (cap : Nat) (zs : List Int) (w : World) (hS : ∀ k, S k → k < w.heap.size) (hI : IntsIn S w (.slice a zs.length cap) zs) (h : errOf zs ≠ 0) :
    Calls Tryd.prog 80 #[.slice a zs.length cap] w fun e w' => e = .returned (.tuple #[.slice none 0 0, .int .i64 (errOf zs)]) ∧ Below w.heap.size w w' := by
  have hz := (zero_of_info Tryd.info53).1
  have hc := check_any S a cap zs w hS hI
  rw [show tabOf zs = tab [] by rw [tabOf, if_neg h]] at hc
  have ht : (errOf zs != 0) = true := by simpa using h
  generalize errOf zs = r at hc ht
  go_enter Tryd.func80, Tryd.ntmps80
  go_wp2_with fail
  refine hc.mono ?_
  rintro e w1 ⟨rfl, hB⟩
  have R1 := Row.new w1 137 (tab [])
  have hs1 := store53 [] R1 (tab_size _)
  have hlt := hB.size
  have HB : Hid (Below w.heap.size w ((w1.alloc (.cells (tab []) 137)).setRow w1.heap.size (tab []))) := below_setRow (hB.alloc hlt _) hlt _
  clear R1 hB hc hI
  go_wp2
  exact bodyPost_ret (v := .tuple #[.slice none 0 0, .int .i64 r]) (by simp [results, Tryd.f80, go_sem]) rfl ⟨rfl, HB.out⟩

/-! ### a list of marks: loops over an iterator that stood in a plain loop -/
def marks (ds : List Nat) : List Deferred := ds.map fun D => { target := .collected D, args := #[] }
theorem leaves_marks {F : Fence} {n : Nat} {P : Program} {fn : Func} {tmps : Array Value} {R : Ending → World → Prop} : ∀ (ds : List Nat) (w : World), ds.Nodup →
    (∀ D ∈ ds, w.heap[D]? = some (.deferred (some []))) → (∀ w', Kept (fun k => k ∉ ds) w w' → LeavesInM F n P fn tmps R [] .returning w') → LeavesInM F n P fn tmps R (marks ds) .returning w
  | [], w, _, _, h => h w (Kept.refl _ _)
  | D :: ds, w, hn, hd, h => by
    have hn' := List.nodup_cons.1 hn
    refine ⟨by simp, .inl ⟨D, _, rfl, run_takeDeferred (hd D (by simp)), ?_⟩⟩
    have hk : Kept (fun k => k ≠ D) w (w.putObj D (.deferred none)) := Kept.putObj w D _ (by simp)
    refine leaves_marks ds _ hn'.2 (fun E hE => ?_) (fun w' hw' => h w' ?_)
    · rw [hk.block E (fun e => hn'.1 (e ▸ hE))]
      exact hd E (by simp [hE])
    · exact (hk.mono (fun k hk' => by simp at hk'; exact hk'.1)).trans (hw'.mono (fun k hk' => by simp at hk'; exact hk'.2))

/-! ### what the codes are -/
def cstep (s : List Nat × Nat) (i : Nat) : List Nat × Nat := (s.1.set i s.2, (s.2 + 1) % 4294967296)
def cpass (zs : List Int) (s : List Nat × Nat) (n : Nat) : List Nat × Nat := (ofF zs n zs.length).foldl (fun s x => cstep s x.1) (s.1, s.2 * 2 % 4294967296)
def cstate (zs : List Int) : Nat → List Nat × Nat
  | 0 => (List.replicate zs.length 0, 0)
  | k + 1 => cpass zs (cstate zs k) (k + 1)
def codesOf (zs : List Int) : List Nat := (cstate zs 15).1
def u32s (l : List Nat) : Array Value := (l.map fun n : Nat => Value.int .u32 (n : Int)).toArray
theorem u32s_at (l : List Nat) (i : Nat) (h : i < l.length) : (u32s l)[i]? = some (.int .u32 (l[i] : Nat)) := by simp [u32s, h]
theorem u32s_set (l : List Nat) (i v : Nat) : (u32s l).setIfInBounds i (.int .u32 (v : Int)) = u32s (l.set i v) := by simp [u32s, List.map_set]
theorem u32s_made (n : Nat) : madeCells #[.int .u32 0] n = u32s (List.replicate n 0) := by
  apply Array.toList_inj.1
  rw [toList_madeCells_one]
  simp [u32s]
theorem cstep_length (s : List Nat × Nat) (i : Nat) : (cstep s i).1.length = s.1.length := by simp [cstep]
theorem cfold_length {α : Type} (f : α → Nat) (l : List α) : ∀ s : List Nat × Nat, (l.foldl (fun s x => cstep s (f x)) s).1.length = s.1.length := by
  induction l with
  | nil => exact fun s => rfl
  | cons x l ih => exact fun s => (ih _).trans (cstep_length _ _)
theorem cstate_length (zs : List Int) (k : Nat) : (cstate zs k).1.length = zs.length := by
  induction k with
  | zero => simp [cstate]
  | succ k ih => rw [cstate, cpass, cfold_length]; exact ih
theorem row_grown {W W' : World} {B : Nat} {t : TypeId} {cs : Array Value} {row : Option Nat} (h : Row W B t cs) (hg : W.grownBy W' row) (hrow : ∀ r, row = some r → ∃ o : Obj, W.heap[r]? = some o ∧ o.isCells = false) : Row W' B t cs :=
  (grownBy_keeps_cells hg hrow h rfl).trans h

theorem Tryd.info28 : (Tryd.prog.info? 77).map (fun i => (i.zero, i.size, i.bytes)) = some (some (.int .u32 0), 1, 4) := by kernel_rfl

set_option maxRecDepth 100000 in
set_option maxHeartbeats 4000000 in
theorem codes_ok (S : Nat → Prop) (a : Option Addr) (cap : Nat) (zs : List Int) (w : World) (hS : ∀ k, S k → k < w.heap.size) (hI : IntsIn S w (.slice a zs.length cap) zs) (h : errOf zs = 0) (h320 : zs.length ≤ 320) :
    CallsIn Fence.wide 6 Tryd.prog 80 #[.slice a zs.length cap] w fun e w' => ∃ G, e = .returned (.tuple #[.slice (some ⟨G, 0, none⟩) zs.length zs.length, .int .i64 0]) ∧ w.heap.size ≤ G ∧ Row w' G 77 (u32s (codesOf zs)) ∧ Below w.heap.size w w' := by
  have hz := (zero_of_info Tryd.info53).1
  have hc := check_any S a cap zs w hS hI
  rw [show tabOf zs = tab zs by rw [tabOf, if_pos h], h] at hc
  have hmk := run_make_row' (P := Tryd.prog) 127 77 (.int .u32 0) 4 Tryd.underlying127 Tryd.info28 rfl .i64 .i64 zs.length (by omega) (by omega)
  refine callsIn_of_wp_marks Tryd.func80 rfl trivial ?_ rfl
  simp only [Tryd.ntmps80, List.size_toArray, List.length_cons, List.length_nil, Nat.reduceAdd, Nat.reduceSub, Array.replicate_succ, Array.replicate_zero, List.push_toArray, List.append_toArray, List.nil_append, List.cons_append]
  gi_wp2_with (refine ⟨trivial, ?_⟩; gi_at_call 87; refine (callsIn_wide.2 hc).mono ?_; rintro e w1 ⟨rfl, hB⟩; have R1 := Row.new w1 137 (tab []); have hs1 := store53 zs R1 (tab_size _); have hlt := hB.size; have HB : Hid (Below w.heap.size w ((w1.alloc (.cells (tab []) 137)).setRow w1.heap.size (tab zs))) := below_setRow (hB.alloc hlt _) hlt _; clear R1 hB hc; obtain ⟨w2, HW⟩ : ∃ w2, Hid (w2 = (w1.alloc (.cells (tab []) 137)).setRow w1.heap.size (tab zs)) := ⟨_, rfl⟩; rw [← HW.out] at hs1 HB; clear HW)
  obtain ⟨G, HG⟩ : ∃ G, G = w2.heap.size := ⟨_, rfl⟩
  have hwG : w.heap.size ≤ G := by rw [HG]; exact HB.out.size
  have hR0 := Row.new w2 77 (madeCells #[.int .u32 0] zs.length)
  rw [u32s_made] at hR0 ⊢
  have hR1 := Row.new (w2.alloc (.cells (u32s (List.replicate zs.length 0)) 77)) 127 #[.slice (some ⟨w2.heap.size, 0, none⟩) zs.length zs.length]
  have hR2 := Row.new ((w2.alloc (.cells (u32s (List.replicate zs.length 0)) 77)).alloc (.cells #[.slice (some ⟨w2.heap.size, 0, none⟩) zs.length zs.length] 127)) 77 #[.int .u32 0]
  have hR0 := (hR0.alloc (.cells #[.slice (some ⟨w2.heap.size, 0, none⟩) zs.length zs.length] 127)).alloc (.cells #[.int .u32 0] 77)
  have hR1 := hR1.alloc (.cells #[.int .u32 0] 77)
  have hBl := ((HB.out.alloc HB.out.size (.cells (u32s (List.replicate zs.length 0)) 77)).alloc (by simp; omega) (.cells #[.slice (some ⟨w2.heap.size, 0, none⟩) zs.length zs.length] 127)).alloc (by simp; omega) (.cells #[.int .u32 0] 77)
  simp only [World.size_alloc, ← HG] at hR0 hR1 hR2 hBl ⊢
  generalize ((w2.alloc (.cells (u32s (List.replicate zs.length 0)) 77)).alloc (.cells #[.slice (some ⟨G, 0, none⟩) zs.length zs.length] 127)).alloc (.cells #[.int .u32 0] 77) = w3 at hR0 hR1 hR2 hBl ⊢
  clear HB hs1 hmk HG
  refine wpIn_loop (fun a' w' => ∃ (k : Nat) (ds : List Nat) (u8 u9 u22 u23 u24 u25 u26 u27 u28 u29 u30 u31 u32 u33 u34 u35 u36 u37 : Value), k ≤ 15 ∧ Row w' G 77 (u32s (cstate zs k).1) ∧ Row w' (G + 1) 127 #[.slice (some ⟨G, 0, none⟩) zs.length zs.length] ∧ Row w' (G + 1 + 1) 77 #[.int .u32 (cstate zs k).2] ∧
      Below w.heap.size w w' ∧ ds.Nodup ∧ (∀ D ∈ ds, w.heap.size ≤ D ∧ w'.heap[D]? = some (.deferred (some []))) ∧ a' = { tmps := #[Value.slice a zs.length cap, undef, Value.slice none 0 0, Value.int IntKind.i64 0, Value.pointer (some ⟨w1.heap.size, 0, none⟩), Value.int IntKind.i64 0, Value.pointer (some ⟨G + 1, 0, none⟩), Value.pointer (some ⟨G + 1 + 1, 0, none⟩), u8, u9, Value.tuple #[Value.agg (tab zs), Value.int IntKind.i64 0], Value.slice a zs.length cap, Value.tuple #[Value.agg (tab zs), Value.int IntKind.i64 0], Value.agg (tab zs), Value.int IntKind.i64 0, Value.int IntKind.i64 0, Value.bool false, undef, Value.slice a zs.length cap, Value.int IntKind.i64 zs.length, Value.slice (some ⟨G, 0, none⟩) zs.length zs.length, .int .i64 k, u22, u23, u24, u25, u26, u27, u28, u29, u30, u31, u32, u33, u34, u35, u36, u37, undef], defers := marks ds })
    (fun a' _ => 15 - (intOf (a'.tmps.getD 21 undef)).toNat) ?start ?round
  case start => exact ⟨0, [], _, _, _, _, _, _, _, _, _, _, _, _, _, _, _, _, _, _, by omega, hR0, hR1, hR2, hBl, List.nodup_nil, fun D hD => by simp at hD, rfl⟩
  case round =>
    clear hR0 hR1 hR2 hBl
    rintro _ wr ⟨k, ds, u8, u9, u22, u23, u24, u25, u26, u27, u28, u29, u30, u31, u32, u33, u34, u35, u36, u37, hk, R0, R1, R2, hB, hnd, hds, rfl⟩
    dsimp only
    by_cases hlt : k < 15
    · have c7 := R2.cell (i := 0) (v := .int .u32 (cstate zs k).2) rfl
      have f7 := R2.frozen 0
      gi_wp2_with (refine ⟨trivial, ?_⟩; gi_at_call 88; refine (ofLength_in Fence.wide _ trivial rfl _ _ _ _ _).mono ?_; rintro e w' ⟨rfl, rfl⟩)
      have hwr : G + 1 + 1 < wr.heap.size := R2.lt
      have hS1 : (wr.setCell ⟨G + 1 + 1, 0, none⟩ (.int .u32 ((cstate zs k).2 * 2 % 4294967296))).heap.size = wr.heap.size := by simp
      have hk1 : Kept (fun x => x ≠ G + 1 + 1) wr (wr.setCell ⟨G + 1 + 1, 0, none⟩ (.int .u32 ((cstate zs k).2 * 2 % 4294967296))) := (Kept.refl _ wr).setCell (p := ⟨G + 1 + 1, 0, none⟩) (by simp) _
      have Q0 := R0.kept hk1 (by omega)
      have Q1 := R1.kept hk1 (by omega)
      have Q2 := R2.set 0 (.int .u32 ((cstate zs k).2 * 2 % 4294967296))
      have hB1 : Below w.heap.size w (wr.setCell ⟨G + 1 + 1, 0, none⟩ (.int .u32 ((cstate zs k).2 * 2 % 4294967296))) := hB.setCell (p := ⟨G + 1 + 1, 0, none⟩) (by simp; omega) _
      have hd1 : ∀ D ∈ ds, w.heap.size ≤ D ∧ (wr.setCell ⟨G + 1 + 1, 0, none⟩ (.int .u32 ((cstate zs k).2 * 2 % 4294967296))).heap[D]? = some (.deferred (some [])) := fun D hD => ⟨(hds D hD).1, by
        rw [hk1.block D (fun e => by have h2 := (hds D hD).2; rw [e, show wr.heap[G + 1 + 1]? = _ from R2] at h2; cases h2)]
        exact (hds D hD).2⟩
      clear R0 R1 R2 hB hds hk1 c7 f7
      rw [← hS1] at hwr ⊢
      generalize wr.setCell ⟨G + 1 + 1, 0, none⟩ (.int .u32 ((cstate zs k).2 * 2 % 4294967296)) = wc at hwr hS1 Q0 Q1 Q2 hB1 hd1 ⊢
      simp only [List.setIfInBounds_toArray, List.set_cons_zero] at Q2
      clear hS1
      have b0 := Boxed.new wc 40 (.slice a zs.length cap)
      have b1 := Boxed.new (wc.alloc (.cells #[.slice a zs.length cap] 40)) 3 (.int .i64 (k + 1))
      simp only [World.size_alloc] at b1
      have b0 := b0.alloc (.cells #[.int .i64 (k + 1)] 3)
      have P0 := (Q0.alloc (.cells #[.slice a zs.length cap] 40)).alloc (.cells #[.int .i64 (k + 1)] 3)
      have P1 := (Q1.alloc (.cells #[.slice a zs.length cap] 40)).alloc (.cells #[.int .i64 (k + 1)] 3)
      have P2 := (Q2.alloc (.cells #[.slice a zs.length cap] 40)).alloc (.cells #[.int .i64 (k + 1)] 3)
      have hBc : Below wc.heap.size wc ((wc.alloc (.cells #[.slice a zs.length cap] 40)).alloc (.cells #[.int .i64 (k + 1)] 3)) := ((Below.refl _ wc).alloc (Nat.le_refl _) _).alloc (by simp) _
      have hB2 : Below w.heap.size w ((wc.alloc (.cells #[.slice a zs.length cap] 40)).alloc (.cells #[.int .i64 (k + 1)] 3)) := hB1.trans (hBc.mono hB1.size)
      have hd2 : ∀ D ∈ ds, D < wc.heap.size ∧ w.heap.size ≤ D ∧ ((wc.alloc (.cells #[.slice a zs.length cap] 40)).alloc (.cells #[.int .i64 (k + 1)] 3)).heap[D]? = some (.deferred (some [])) := fun D hD => by
        have hlt' : D < wc.heap.size := (Array.getElem?_eq_some_iff.1 (hd1 D hD).2).1
        exact ⟨hlt', (hd1 D hD).1, (hBc.block D hlt').trans (hd1 D hD).2⟩
      have hsz : ((wc.alloc (.cells #[.slice a zs.length cap] 40)).alloc (.cells #[.int .i64 (k + 1)] 3)).heap.size = wc.heap.size + 2 := by simp
      have hIc : IntsIn (fun x => x < wc.heap.size + 2 ∧ x ≠ G ∧ x ≠ G + 1 + 1) ((wc.alloc (.cells #[.slice a zs.length cap] 40)).alloc (.cells #[.int .i64 (k + 1)] 3)) (.slice a zs.length cap) zs :=
        (hI.kept (Kept.of_below hB2 hS)).mono (fun x hx => ⟨by have := hS x hx; have := hB1.size; omega, by have := hS x hx; omega, by have := hS x hx; omega⟩)
      clear Q0 Q1 Q2 hB1 hd1 hBc
      generalize (wc.alloc (.cells #[.slice a zs.length cap] 40)).alloc (.cells #[.int .i64 (k + 1)] 3) = wd at b0 b1 P0 P1 P2 hB2 hd2 hsz hIc ⊢
      have hlenS := cstate_length zs k
      refine wpIn_rangeFunc_ownG rfl (by omega) (gf := 95) (lb := #[.pointer (some ⟨wc.heap.size, 0, none⟩), .pointer (some ⟨wc.heap.size + 1, 0, none⟩)]) rfl trivial (enters_of Tryd.func95 (by kernel_rfl) rfl)
        (ofl_stops Fence.wide 5 trivial rfl (by omega) wc.heap.size (fun x => x < wc.heap.size + 2 ∧ x ≠ G ∧ x ≠ G + 1 + 1) (k + 1) _ zs (by omega) ⟨by omega, by omega, by omega⟩ wd (fun x hx => by omega) (by omega) b0.cell b1.cell hIc)
        Kept.trans (keptK_b (fun x hx => by omega)) (Below.refl _ _) (fun _ => rfl)
        (fun pre W => Row W G 77 (u32s (pre.foldl (fun s x => cstep s x.1) ((cstate zs k).1, (cstate zs k).2 * 2 % 4294967296)).1) ∧ Row W (G + 1) 127 #[.slice (some ⟨G, 0, none⟩) zs.length zs.length] ∧
          Row W (G + 1 + 1) 77 #[.int .u32 (pre.foldl (fun s x => cstep s x.1) ((cstate zs k).1, (cstate zs k).2 * 2 % 4294967296)).2] ∧ (∀ D ∈ ds, W.heap[D]? = some (.deferred (some []))) ∧ Below w.heap.size w W)
        (fun _ _ _ => False)
        (fun s A B row hs hg hr => ⟨row_grown hs.1 hg (fun r e => (hr r e).2), row_grown hs.2.1 hg (fun r e => (hr r e).2), row_grown hs.2.2.1 hg (fun r e => (hr r e).2),
          fun D hD => (hg.block D (Array.getElem?_eq_some_iff.1 (hs.2.2.2.1 D hD)).1 (fun e => by have := (hr D e.symm).1; have := (hd2 D hD).1; omega)).trans (hs.2.2.2.1 D hD),
          hs.2.2.2.2.grown hg hs.2.2.2.2.size (fun r e => by have := (hr r e).1; have := hB2.size; omega)⟩)
        (fun _ _ _ _ _ hs _ _ => hs)
        ⟨P0, P1, by simpa using P2, fun D hD => (hd2 D hD).2.2, hB2⟩
        (fun x => { tmps := #[Value.slice a zs.length cap, undef, Value.slice none 0 0, Value.int IntKind.i64 0, Value.pointer (some ⟨w1.heap.size, 0, none⟩), Value.int IntKind.i64 0, Value.pointer (some ⟨G + 1, 0, none⟩), Value.pointer (some ⟨G + 1 + 1, 0, none⟩), .int .i64 k, .int .i64 x.1, Value.tuple #[Value.agg (tab zs), Value.int IntKind.i64 0], Value.slice a zs.length cap, Value.tuple #[Value.agg (tab zs), Value.int IntKind.i64 0], Value.agg (tab zs), Value.int IntKind.i64 0, Value.int IntKind.i64 0, Value.bool false, undef, Value.slice a zs.length cap, Value.int IntKind.i64 zs.length, Value.slice (some ⟨G, 0, none⟩) zs.length zs.length, .int .i64 k, .bool true, .int .i64 k, .int .u32 (cstate zs k).2, .int .u32 ((cstate zs k).2 * 2 % 4294967296), .slice a zs.length cap, .int .i64 k, .int .i64 (k + 1), .func (.func 95) #[] #[.pointer (some ⟨wc.heap.size, 0, none⟩), .pointer (some ⟨wc.heap.size + 1, 0, none⟩)], .int .i64 x.1, u31, u32, u33, u34, u35, u36, u37, undef], defers := [] }) ?assign ?body ?done ?stop
      case assign =>
        intro l x W K hK
        gi_wp2
        exact hK
      case body =>
        rintro l pre x W ⟨I0, I1, I2, Id, IB⟩ _
        have hx : x.1 < zs.length := x.2
        have HL : Hid ((pre.foldl (fun s x => cstep s x.1) ((cstate zs k).1, (cstate zs k).2 * 2 % 4294967296)).1.length = zs.length) := (cfold_length (fun x : Fin zs.length => x.1) pre _).trans hlenS
        have HF : Hid ((pre ++ [x]).foldl (fun s x => cstep s x.1) ((cstate zs k).1, (cstate zs k).2 * 2 % 4294967296) = cstep (pre.foldl (fun s x => cstep s x.1) ((cstate zs k).1, (cstate zs k).2 * 2 % 4294967296)) x.1) := by
          show _ = _
          rw [List.foldl_append]
          rfl
        generalize pre.foldl (fun s x => cstep s x.1) ((cstate zs k).1, (cstate zs k).2 * 2 % 4294967296) = s at I0 I2 HL HF
        obtain ⟨so, sn⟩ := s
        have hso : so.length = zs.length := HL.out
        have c6 := I1.cell (i := 0) (v := .slice (some ⟨G, 0, none⟩) zs.length zs.length) rfl
        have c7 := I2.cell (i := 0) (v := .int .u32 sn) rfl
        have f7 := I2.frozen 0
        have cG := I0.cell (u32s_at so x.1 (by omega))
        have fG := I0.frozen x.1
        have HA : Hid (∀ v2 : Int, v2 = ((sn : Int) + 1) % 4294967296 → Row ((W.setCell ⟨G, x.1, none⟩ (.int .u32 sn)).setCell ⟨G + 1 + 1, 0, none⟩ (.int .u32 v2)) G 77 (u32s (cstep (so, sn) x.1).1) ∧
            Row ((W.setCell ⟨G, x.1, none⟩ (.int .u32 sn)).setCell ⟨G + 1 + 1, 0, none⟩ (.int .u32 v2)) (G + 1) 127 #[.slice (some ⟨G, 0, none⟩) zs.length zs.length] ∧
            Row ((W.setCell ⟨G, x.1, none⟩ (.int .u32 sn)).setCell ⟨G + 1 + 1, 0, none⟩ (.int .u32 v2)) (G + 1 + 1) 77 #[.int .u32 (cstep (so, sn) x.1).2] ∧
            (∀ D ∈ ds, ((W.setCell ⟨G, x.1, none⟩ (.int .u32 sn)).setCell ⟨G + 1 + 1, 0, none⟩ (.int .u32 v2)).heap[D]? = some (.deferred (some []))) ∧
            Below w.heap.size w ((W.setCell ⟨G, x.1, none⟩ (.int .u32 sn)).setCell ⟨G + 1 + 1, 0, none⟩ (.int .u32 v2))) := by
          intro v2 hv2
          have k1 : Kept (fun y => y ≠ G) W (W.setCell ⟨G, x.1, none⟩ (.int .u32 sn)) := (Kept.refl _ W).setCell (p := ⟨G, x.1, none⟩) (by simp) _
          have k2 : Kept (fun y => y ≠ G + 1 + 1) (W.setCell ⟨G, x.1, none⟩ (.int .u32 sn)) ((W.setCell ⟨G, x.1, none⟩ (.int .u32 sn)).setCell ⟨G + 1 + 1, 0, none⟩ (.int .u32 v2)) := (Kept.refl _ _).setCell (p := ⟨G + 1 + 1, 0, none⟩) (by simp) _
          have j0 := (I0.set x.1 (.int .u32 sn)).kept k2 (by omega)
          rw [u32s_set] at j0
          have j2 := (I2.kept k1 (by omega)).set 0 (.int .u32 v2)
          refine ⟨j0, (I1.kept k1 (by omega)).kept k2 (by omega), ?_, fun D hD => ?_, (IB.setCell (p := ⟨G, x.1, none⟩) (by simp; omega) _).setCell (p := ⟨G + 1 + 1, 0, none⟩) (by simp; omega) _⟩
          · have e : ((cstep (so, sn) x.1).2 : Int) = v2 := by rw [hv2]; simp [cstep]
            rw [e]
            simpa using j2
          · have hd := Id D hD
            have n1 : D ≠ G := fun e => by rw [e, show W.heap[G]? = _ from I0] at hd; cases hd
            have n2 : D ≠ G + 1 + 1 := fun e => by rw [e, show W.heap[G + 1 + 1]? = _ from I2] at hd; cases hd
            rw [k2.block D n2, k1.block D n1]
            exact hd
        clear I0 I1 I2 Id IB HL
        gi_wp2
        have HB' := HA.out _ rfl
        rw [← HF.out] at HB'
        exact ⟨((KeepsOthers.setCell _ _ _).trans (KeepsOthers.setCell _ _ _)).from _, ((Kept.refl _ W).setCell (p := ⟨G, x.1, none⟩) (by simp) _).setCell (p := ⟨G + 1 + 1, 0, none⟩) (by simp) _, HB'⟩
      case done =>
        rintro D ys W hD rfl ⟨I0, I1, I2, Id, IB⟩ hK
        have HE : Hid (cstate zs (k + 1) = (ofF zs ((k : Int) + 1) zs.length).foldl (fun s x => cstep s x.1) ((cstate zs k).1, (cstate zs k).2 * 2 % 4294967296)) := rfl
        have HN : Hid ((D :: ds).Nodup) := List.nodup_cons.2 ⟨fun hm => by have := (hd2 D hm).1; omega, hnd⟩
        have HD : Hid (∀ E ∈ D :: ds, w.heap.size ≤ E ∧ W.heap[E]? = some (.deferred (some []))) := fun E hE => by
          rcases List.mem_cons.1 hE with rfl | hE
          · exact ⟨by have := hB2.size; omega, hK⟩
          · exact ⟨(hd2 E hE).2.1, Id E hE⟩
        gi_wp2
        exact ⟨⟨k + 1, D :: ds, _, _, _, _, _, _, _, _, _, _, _, _, _, _, _, _, _, _, by omega, by rw [HE.out]; exact I0, I1, by rw [HE.out]; exact I2, IB, HN.out, HD.out, rfl⟩, by simp [intOf]; omega⟩
      case stop =>
        rintro D c pre W _ _ h _
        exact h.elim
    · obtain rfl : k = 15 := by omega
      have c6 := R1.cell (i := 0) (v := .slice (some ⟨G, 0, none⟩) zs.length zs.length) rfl
      gi_wp2
      refine leaves_marks ds wr hnd (fun D hD => (hds D hD).2) (fun w' hw' => ?_)
      refine ⟨.tuple #[.slice (some ⟨G, 0, none⟩) zs.length zs.length, .int .i64 0], by simp [results, Tryd.f80, go_sem], ⟨G, rfl, hwG, R0.kept hw' (fun hm => ?_), hB.trans (hw'.below (fun x hx hm => ?_))⟩⟩
      · have h2 := (hds G hm).2
        rw [show wr.heap[G]? = _ from R0] at h2
        cases h2
      · have := (hds x hm).1
        omega
theorem errOf_zero {zs : List Int} (h : errOf zs = 0) : okLen zs ∧ rightB zs = true := by
  unfold errOf at h
  split at h
  · rename_i h1
    split at h
    · exact ⟨h1, by assumption⟩
    · cases h
  · cases h
/-- Codes: nil and the error of these lengths; or a new row with the codes. -/
theorem codes_any (S : Nat → Prop) (a : Option Addr) (cap : Nat) (zs : List Int) (w : World) (hS : ∀ k, S k → k < w.heap.size) (hI : IntsIn S w (.slice a zs.length cap) zs) :
    Calls Tryd.prog 80 #[.slice a zs.length cap] w fun e w' => Below w.heap.size w w' ∧
      ((errOf zs ≠ 0 ∧ e = .returned (.tuple #[.slice none 0 0, .int .i64 (errOf zs)])) ∨
       (errOf zs = 0 ∧ ∃ G, e = .returned (.tuple #[.slice (some ⟨G, 0, none⟩) zs.length zs.length, .int .i64 0]) ∧ w.heap.size ≤ G ∧ Row w' G 77 (u32s (codesOf zs)))) := by
  by_cases h : errOf zs = 0
  · refine (callsIn_wide.1 (codes_ok S a cap zs w hS hI h (errOf_zero h).1.1)).mono ?_
    rintro e w' ⟨G, he, hG, hR, hB⟩
    exact ⟨hB, .inr ⟨h, G, he, hG, hR⟩⟩
  · refine (codes_err S a cap zs w hS hI h).mono ?_
    rintro e w' ⟨he, hB⟩
    exact ⟨hB, .inl ⟨h, he⟩⟩
end Go.Proofs.YtinbilbgipfemaaDoor
/- What number each symbol's code is, and that no code is the beginning of another one. -/
namespace Go.Proofs.YtinbilbgipfemaaDoor

theorem sameTab_cnt (zs ys : List Int) (h : sameTab zs ys = true) (i : Nat) (hi : i < 15) : cnt zs (i + 1) = cnt ys (i + 1) := by
  have h1 := List.all_eq_true.1 h i (List.mem_range.2 hi)
  simp only [cntL, List.getD_eq_getElem?_getD, List.getElem?_map, List.getElem?_range hi, Option.map_some, Option.getD_some, beq_iff_eq] at h1
  exact_mod_cast h1
theorem room_same (zs ys : List Int) (h : ∀ i, i < 15 → cnt zs (i + 1) = cnt ys (i + 1)) (k : Nat) (hk : k ≤ 15) : room zs k = room ys k := by
  induction k with
  | zero => rfl
  | succ k ih => rw [room, room, ih (by omega), h k (by omega)]
end Go.Proofs.YtinbilbgipfemaaDoor
/- The document's words for right lengths, and the program's: one and the same. -/
namespace Go.Proofs.YtinbilbgipfemaaDoor
open Go.RowKit

/-- The room that the first k symbols take up, and how many of them have a code. -/
def spS (zs : List Int) : Nat → Nat × Nat
  | 0 => (0, 0)
  | k + 1 => if 0 < zs[k]?.getD 0 then ((spS zs k).1 + 2 ^ (15 - (zs[k]?.getD 0).toNat), (spS zs k).2 + 1) else spS zs k
/-- How many symbols have a code of at most k bits. -/
def nsum (zs : List Int) : Nat → Nat
  | 0 => 0
  | k + 1 => nsum zs k + cnt zs (k + 1)
theorem room_snoc (zs : List Int) (m : Nat) (k : Nat) (hk : k ≤ 15) : room (zs ++ [(m : Int)]) k = room zs k + if 1 ≤ m ∧ m ≤ k then 2 ^ (15 - m) else 0 := by
  induction k with
  | zero => simp only [room]; rw [if_neg (by omega)]
  | succ k ih =>
    rw [room, room, ih (by omega), cnt_snoc, Nat.add_mul]
    by_cases h1 : m = k + 1
    · subst h1
      rw [if_neg (by omega), if_pos rfl, if_pos (by omega), show 15 - (k + 1) = 14 - k by omega]
      omega
    · rw [if_neg (c := (m : Int) = ((k + 1 : Nat) : Int)) (by omega)]
      by_cases h2 : 1 ≤ m ∧ m ≤ k
      · rw [if_pos h2, if_pos (by omega)]; omega
      · rw [if_neg h2, if_neg (by omega)]; omega
theorem nsum_snoc (zs : List Int) (m : Nat) (k : Nat) : nsum (zs ++ [(m : Int)]) k = nsum zs k + if 1 ≤ m ∧ m ≤ k then 1 else 0 := by
  induction k with
  | zero => simp only [nsum]; rw [if_neg (by omega)]
  | succ k ih =>
    rw [nsum, nsum, ih, cnt_snoc]
    by_cases h1 : m = k + 1
    · subst h1
      rw [if_neg (by omega), if_pos rfl, if_pos (by omega)]
      omega
    · rw [if_neg (c := (m : Int) = ((k + 1 : Nat) : Int)) (by omega)]
      by_cases h2 : 1 ≤ m ∧ m ≤ k
      · rw [if_pos h2, if_pos (by omega)]; omega
      · rw [if_neg h2, if_neg (by omega)]; omega
theorem cnt_nil (m : Nat) : cnt [] m = 0 := rfl
theorem spS_spec (zs : List Int) (h : inRange zs) (k : Nat) (hk : k ≤ zs.length) : spS zs k = (room (zs.take k) 15, nsum (zs.take k) 15) := by
  induction k with
  | zero =>
    have h1 : ∀ j, room [] j = 0 := fun j => by
      induction j with
      | zero => rfl
      | succ j ih => rw [room, ih, cnt_nil]; simp
    have h2 : ∀ j, nsum [] j = 0 := fun j => by
      induction j with
      | zero => rfl
      | succ j ih => rw [nsum, ih, cnt_nil]
    rw [List.take_zero, h1, h2]; rfl
  | succ k ih =>
    have hlt : k < zs.length := by omega
    have e : zs[k]?.getD 0 = zs[k] := by simp [hlt]
    have hb := h _ (List.getElem_mem hlt)
    obtain ⟨m, hm⟩ := Int.eq_ofNat_of_zero_le hb.1
    rw [spS, ih (by omega), List.take_succ_eq_append_getElem hlt, e, hm, room_snoc _ m 15 (Nat.le_refl _), nsum_snoc]
    by_cases h0 : 1 ≤ m
    · rw [if_pos (by omega), if_pos (by omega), if_pos (by omega), Int.toNat_natCast]
    · rw [if_neg (by omega), if_neg (by omega), if_neg (by omega)]
      rfl
theorem nsum_le (zs : List Int) (i k : Nat) (h : i < k) : cnt zs (i + 1) ≤ nsum zs k := by
  induction k with
  | zero => omega
  | succ k ih =>
    rw [nsum]
    by_cases e : i = k
    · subst e; omega
    · have := ih (by omega); omega
theorem sameTab_of (zs ys : List Int) (h : ∀ i, i < 15 → cnt zs (i + 1) = cnt ys (i + 1)) : sameTab zs ys = true := by
  rw [sameTab, List.all_eq_true]
  intro i hi
  have hi' := List.mem_range.1 hi
  simp only [cntL, List.getD_eq_getElem?_getD, List.getElem?_map, List.getElem?_range hi', Option.map_some, Option.getD_some, beq_iff_eq]
  rw [h i hi']
theorem nsum_same (zs ys : List Int) (h : ∀ i, i < 15 → cnt zs (i + 1) = cnt ys (i + 1)) (k : Nat) (hk : k ≤ 15) : nsum zs k = nsum ys k := by
  induction k with
  | zero => rfl
  | succ k ih => rw [nsum, nsum, ih (by omega), h k (by omega)]
theorem room_small (zs : List Int) (k : Nat) (hk : k ≤ 15) (h1 : cnt zs 1 = 0) (hn : nsum zs k ≤ 1) : room zs k ≤ 8192 * nsum zs k := by
  induction k with
  | zero => simp [room]
  | succ k ih =>
    rw [nsum] at hn ⊢
    have := ih (by omega) (by omega)
    rw [room]
    cases k with
    | zero =>
      rw [show 0 + 1 = 1 from rfl, h1] at *
      simp [room, nsum]
    | succ k =>
      have h2 : (2 : Nat) ^ (14 - (k + 1)) ≤ 2 ^ 13 := Nat.pow_le_pow_right (by omega) (by omega)
      have h3 : cnt zs (k + 1 + 1) * 2 ^ (14 - (k + 1)) ≤ cnt zs (k + 1 + 1) * 2 ^ 13 := Nat.mul_le_mul_left _ h2
      omega
theorem right_same (zs : List Int) : rightB zs = (decide (room zs 15 = 32768) || decide (nsum zs 15 = 0) || (decide (nsum zs 15 = 1) && decide (room zs 15 = 16384))) := by
  have e1 : sameTab zs [] = decide (nsum zs 15 = 0) := by
    rw [Bool.eq_iff_iff, decide_eq_true_iff]
    constructor
    · intro h
      rw [nsum_same zs [] (sameTab_cnt zs [] h) 15 (Nat.le_refl _)]
      decide
    · intro h
      exact sameTab_of zs [] (fun i hi => by have := nsum_le zs i 15 hi; rw [cnt_nil]; omega)
  have e2 : sameTab zs [1] = (decide (nsum zs 15 = 1) && decide (room zs 15 = 16384)) := by
    rw [Bool.eq_iff_iff, Bool.and_eq_true, decide_eq_true_iff, decide_eq_true_iff]
    constructor
    · intro h
      rw [nsum_same zs [1] (sameTab_cnt zs [1] h) 15 (Nat.le_refl _), room_same zs [1] (sameTab_cnt zs [1] h) 15 (Nat.le_refl _)]
      decide
    · rintro ⟨h1, h2⟩
      have hc1 : cnt zs 1 ≠ 0 := fun h0 => by
        have := room_small zs 15 (Nat.le_refl _) h0 (by omega)
        omega
      have hs : ∀ k, 1 ≤ k → k ≤ 15 → nsum zs k = cnt zs 1 + (nsum zs k - cnt zs 1) ∧ cnt zs 1 ≤ nsum zs k := fun k h3 _ => by
        have := nsum_le zs 0 k (by omega)
        rw [Nat.zero_add] at this
        omega
      have hle := nsum_le zs 0 15 (by omega)
      rw [Nat.zero_add] at hle
      have two : ∀ (k i : Nat), 0 < i → i < k → cnt zs 1 + cnt zs (i + 1) ≤ nsum zs k := by
        intro k
        induction k with
        | zero => intro i _ h; omega
        | succ k ih =>
          intro i h3 h4
          rw [nsum]
          by_cases e : i = k
          · subst e
            have := nsum_le zs 0 i h3
            rw [Nat.zero_add] at this
            omega
          · have := ih i h3 (by omega); omega
      refine sameTab_of zs [1] (fun i hi => ?_)
      by_cases h0 : i = 0
      · subst h0
        have : cnt [1] (0 + 1) = 1 := by decide
        rw [this, Nat.zero_add]
        omega
      · have := two 15 i (by omega) hi
        have e : cnt [1] (i + 1) = 0 := by
          simp only [cnt, List.countP_cons, List.countP_nil, beq_iff_eq]
          rw [if_neg (by omega)]
        rw [e]
        omega
  rw [rightB, e1, e2]
end Go.Proofs.YtinbilbgipfemaaDoor
