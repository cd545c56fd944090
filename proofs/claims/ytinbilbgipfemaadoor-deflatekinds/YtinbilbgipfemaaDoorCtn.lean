import Derived.Test.YtinbilbgipfemaaDoorChw
import Derived.Test.YtinbilbgipfemaaDoorZrm
import Derived.Test.YtinbilbgipfemaaDoorCdfM
/- A block takes its items in, with how often each symbol comes. -/
namespace Go.Proofs.YtinbilbgipfemaaDoor
open Go.RowKit Go.Shelf

attribute [local go_sem] Oper.semAt_some

theorem lit0_upto : Upto lit0 1 := fun j => by
  unfold lit0
  by_cases h : 256 = j
  · subst h
    rw [List.getElem?_set_self (by rw [List.length_replicate]; omega)]
    simp
  · rw [List.getElem?_set_ne h, List.getElem?_replicate]
    split <;> simp
theorem dst0_upto : Upto dst0 1 := fun j => by
  unfold dst0
  rw [List.getElem?_replicate]
  split <;> simp
theorem extN_le (pre : List It) : extN pre ≤ 18 * pre.length := by
  induction pre with
  | nil => simp [extN]
  | cons r rs ih =>
    have h1 : litX (lenI r.l.toNat) ≤ 5 := (litT_bd _ (by unfold lenI; have := rank_le litT 29 r.l.toNat; omega)).2
    have h2 : distX (distI r.d.toNat) ≤ 13 := (distT_bd _ (by unfold distI; have := rank_le distT 30 r.d.toNat; omega)).2
    rw [extN, List.length_cons]
    have e1 : (lenF r.l.toNat).2 = litX (lenI r.l.toNat) := rfl
    have e2 : (dstF r.d.toNat).2 = distX (distI r.d.toNat) := rfl
    rw [e1, e2]
    split <;> omega
/-- What has been counted. -/
def CtI (T : List Int) (p q : Nat) (w : World) (K LB DB : Nat) (tx : Value) (last : Bool) (Z : Nat → Prop) (pre : List It) (own : Nat → Prop) (V : World) : Prop :=
  ∃ iv, Row V K 51 #[tx, .bool last, iv, .slice (some ⟨LB, 0, none⟩) 286 286, .slice (some ⟨DB, 0, none⟩) 30 30, .int .i64 (extN pre : Int)] ∧ Row V w.heap.size 76 #[.pointer (some ⟨K, 0, none⟩)] ∧ Row V LB 3 ((litF pre lit0).map (Value.int .i64)).toArray ∧ Row V DB 3 ((dstFr pre dst0).map (Value.int .i64)).toArray ∧ OwnIts w.heap.size V iv pre ∧
    Kept (fun k => k < w.heap.size ∧ k ≠ K ∧ ¬ Z k) w V ∧ (∀ (i : Nat) (r : It), pre[i]? = some r → ItemAt T p q (pre.take i) r) ∧ (LB ≠ DB ∧ w.heap.size < LB ∧ w.heap.size < DB) ∧ own = fun k => k = K ∨ k = LB ∨ k = DB ∨ iv.ownBlock = some k

theorem CtI.mild {T : List Int} {p q : Nat} {w : World} {K LB DB : Nat} {tx : Value} {last : Bool} {Z : Nat → Prop} {pre : List It} {own : Nat → Prop} {V V' : World} {B : Nat} (h : CtI T p q w K LB DB tx last Z pre own V) (hm : Mild B Z V V') (hKZ : ¬ Z K) (hZ : ∀ k, Z k → k < w.heap.size) (hB : w.heap.size ≤ B) : CtI T p q w K LB DB tx last Z pre own V' := by
  obtain ⟨iv, h1, h2, h3, h4, h5, h6, h7, h8, h9⟩ := h
  exact ⟨iv, hm.row h1 hKZ, hm.row h2 (fun hz => by have := hZ _ hz; omega), hm.row h3 (fun hz => by have := hZ _ hz; omega), hm.row h4 (fun hz => by have := hZ _ hz; omega), ⟨h5.1, owns_mild h5.2 hm (fun k e hz => by have := hZ k hz; have := (h5.2.lt k e).1; omega)⟩, h6.trans (hm.kept (fun k hk => ⟨by omega, hk.2.2, Nat.lt_of_lt_of_le hk.1 h6.size⟩)), h7, h8, h9⟩

set_option maxRecDepth 100000 in
set_option maxHeartbeats 4000000 in
theorem bcount_any (Z U : Nat → Prop) (T : List Int) (p q : Nat) (hq : q ≤ p + 70000) (E : List It → World → Prop) (K : Nat) (tx : Value) (last : Bool) (lb : Array Value) (w : World)
    (hZ : ∀ k, Z k → k < w.heap.size) (hU : ∀ k, U k → k < w.heap.size) (hKZ : ¬ Z K) (hKU : ¬ U K) (hK : Row w K 51 #[tx, .bool last, .slice none 0 0, .slice none 0 0, .slice none 0 0, .int .i64 0])
    (hok : ∀ pre r, ItemAt T p q pre r → ItOk r) (hE : ∀ xs V V', E xs V → Kept (fun k => k < w.heap.size ∧ k ≠ K) V V' → E xs V') (hseq : ∀ W : World, Kept (fun k => k < w.heap.size ∧ k ≠ K) w W → SeqOwnE Fence.wide 7 Tryd.prog 32 lb (fun r : It => #[r.val]) Z U (ItemAt T p q) E W) :
    CallsIn Fence.wide 8 Tryd.prog 18 #[.pointer (some ⟨K, 0, none⟩), .func (.func 32) #[] lb] w fun e w' => e = .returned (.tuple #[]) ∧ ∃ its LB DB own, E its w' ∧ CtI T p q w K LB DB tx last Z its own w' := by
  obtain ⟨i32, hi32, hy0, hy1, hy2⟩ := info_parts Tryd.info32
  refine callsIn_of_wp_marks Tryd.func18 rfl trivial ?_ rfl
  simp only [Tryd.ntmps18, List.size_toArray, List.length_cons, List.length_nil, Nat.reduceAdd, Nat.reduceSub, Array.replicate_succ, Array.replicate_zero, List.push_toArray, List.append_toArray, List.nil_append, List.cons_append]
  have hKl := hK.lt
  obtain ⟨w1, hw1⟩ : ∃ x, w.alloc (.cells #[.pointer (some ⟨K, 0, none⟩)] 76) = x := ⟨_, rfl⟩
  have rKB : Row w1 w.heap.size 76 #[.pointer (some ⟨K, 0, none⟩)] := by rw [← hw1]; exact Row.new w 76 _
  have cKB := rKB.cell (i := 0) rfl
  have hKBl := rKB.lt
  have hKBK : w.heap.size ≠ K := by omega
  have hb1 : Below w.heap.size w w1 := by rw [← hw1]; exact (Below.refl _ w).alloc (Nat.le_refl _) _
  have K1 := hK.below hb1 hKl
  have hmkA : ∀ W : World, (Instr.makeSlice 40 (.int .i64 286) (.int .i64 286)).run Tryd.prog W = .ok (.slice (some ⟨W.heap.size, 0, none⟩) 286 286) (W.alloc (.cells (madeCells #[.int .i64 0] 286) 3)) := fun W => run_make_row' (P := Tryd.prog) 40 3 (.int .i64 0) 8 Tryd.underlying40 Tryd.info3' rfl .i64 .i64 286 (by omega) (by omega) W
  have hmkB : ∀ W : World, (Instr.makeSlice 40 (.int .i64 30) (.int .i64 30)).run Tryd.prog W = .ok (.slice (some ⟨W.heap.size, 0, none⟩) 30 30) (W.alloc (.cells (madeCells #[.int .i64 0] 30) 3)) := fun W => run_make_row' (P := Tryd.prog) 40 3 (.int .i64 0) 8 Tryd.underlying40 Tryd.info3' rfl .i64 .i64 30 (by omega) (by omega) W
  gi_wp2_with fail
  clear hw1
  refine wpIn_mono (Q := regEx (fun a' w' => ∃ LB DB, a' = { tmps := #[.pointer (some ⟨K, 0, none⟩), .func (.func 32) #[] lb, .pointer (some ⟨w.heap.size, 0, none⟩), undef, undef, undef, undef, .pointer (some ⟨K, 0, none⟩), .pointer (some ⟨K, 0, none⟩), .slice (some ⟨LB, 0, none⟩) 286 286, .slice (some ⟨DB, 0, none⟩) 30 30, .pointer (some ⟨K, 0, none⟩), .pointer (some ⟨K, 3, none⟩), .pointer (some ⟨K, 0, none⟩), .pointer (some ⟨K, 4, none⟩), undef, undef, undef, undef, undef, undef, undef, undef, undef, undef, undef, undef, undef, undef, undef, undef, undef, undef, undef, undef, undef, undef, undef, undef, undef, undef, undef, undef, undef, undef, undef, undef, undef, undef, undef, undef, undef, undef, undef, undef, undef, undef, undef, undef, undef, undef, undef, undef, undef, undef, undef, undef, undef, undef, undef, undef, undef, undef, undef, undef, undef, undef, undef, undef, undef, undef, undef, undef, undef, undef], defers := [] } ∧ LB ≠ DB ∧ w1.heap.size ≤ LB ∧ w1.heap.size ≤ DB ∧ Row w' LB 3 ((List.replicate 286 (0 : Int)).map (Value.int .i64)).toArray ∧ Row w' DB 3 ((List.replicate 30 (0 : Int)).map (Value.int .i64)).toArray ∧ Row w' K 51 #[tx, .bool last, .slice none 0 0, .slice (some ⟨LB, 0, none⟩) 286 286, .slice (some ⟨DB, 0, none⟩) 30 30, .int .i64 0] ∧ Kept (fun k => k < w1.heap.size ∧ k ≠ K) w1 w')) ?reg ?rest
  case reg =>
    refine wpIn_wide.2 (wp_region_M (fun wx : World => wx.cell? ⟨w.heap.size, 0, none⟩ = some (.pointer (some ⟨K, 0, none⟩))) (fun j => decide (j < 9)) 10 rfl (by kernel_rfl) ?_)
    refine wpM_with (fun ops Q S E => ∀ (LB DB : Nat) (W : World), Row W LB 3 ((List.replicate 286 (0 : Int)).map (Value.int .i64)).toArray → Row W DB 3 ((List.replicate 30 (0 : Int)).map (Value.int .i64)).toArray → Row W K 51 #[tx, .bool last, .slice none 0 0, .slice (some ⟨LB, 0, none⟩) 286 286, .slice none 0 0, .int .i64 0] → Kept (fun k => k < w1.heap.size ∧ k ≠ K) w1 W → LB ≠ DB → w1.heap.size ≤ LB → w1.heap.size ≤ DB → wpM Tryd.prog ops Q S E 3 #[true, true, true, true, true, true, true, false, false, false] { tmps := #[.pointer (some ⟨K, 0, none⟩), .func (.func 32) #[] lb, .pointer (some ⟨w.heap.size, 0, none⟩), undef, undef, undef, undef, .pointer (some ⟨K, 0, none⟩), .pointer (some ⟨K, 0, none⟩), .slice (some ⟨LB, 0, none⟩) 286 286, .slice (some ⟨DB, 0, none⟩) 30 30, .pointer (some ⟨K, 0, none⟩), .pointer (some ⟨K, 3, none⟩), undef, undef, undef, undef, undef, undef, undef, undef, undef, undef, undef, undef, undef, undef, undef, undef, undef, undef, undef, undef, undef, undef, undef, undef, undef, undef, undef, undef, undef, undef, undef, undef, undef, undef, undef, undef, undef, undef, undef, undef, undef, undef, undef, undef, undef, undef, undef, undef, undef, undef, undef, undef, undef, undef, undef, undef, undef, undef, undef, undef, undef, undef, undef, undef, undef, undef, undef, undef, undef, undef, undef, undef], defers := [] } W) ?fin ?main
    case fin =>
      intro LB DB W rL rD rK hk hne h1 h2
      have qW : W.cell? ⟨w.heap.size, 0, none⟩ = some (.pointer (some ⟨K, 0, none⟩)) := (hk.cell (p := ⟨w.heap.size, 0, none⟩) ⟨hKBl, hKBK⟩).trans cKB
      have d4 := rK.cell (i := 4) rfl
      have f4 := rK.frozen 4
      have HF : Hid (Row (W.setCell ⟨K, 4, none⟩ (.slice (some ⟨DB, 0, none⟩) 30 30)) LB 3 ((List.replicate 286 (0 : Int)).map (Value.int .i64)).toArray ∧ Row (W.setCell ⟨K, 4, none⟩ (.slice (some ⟨DB, 0, none⟩) 30 30)) DB 3 ((List.replicate 30 (0 : Int)).map (Value.int .i64)).toArray ∧ Row (W.setCell ⟨K, 4, none⟩ (.slice (some ⟨DB, 0, none⟩) 30 30)) K 51 #[tx, .bool last, .slice none 0 0, .slice (some ⟨LB, 0, none⟩) 286 286, .slice (some ⟨DB, 0, none⟩) 30 30, .int .i64 0] ∧ Kept (fun k => k < w1.heap.size ∧ k ≠ K) w1 (W.setCell ⟨K, 4, none⟩ (.slice (some ⟨DB, 0, none⟩) 30 30))) := by
        have hq : Kept (fun q => q ≠ K) W (W.setCell ⟨K, 4, none⟩ (.slice (some ⟨DB, 0, none⟩) 30 30)) := (Kept.refl _ W).setCell (p := ⟨K, 4, none⟩) (by simp) _
        exact ⟨rL.kept hq (by show LB ≠ K; omega), rD.kept hq (by show DB ≠ K; omega), rK.set 4 _, hk.setCell (p := ⟨K, 4, none⟩) (fun h => h.2 rfl) _⟩
      clear rL rD rK hk
      refine wpM_one 7 rfl (by kernel_rfl) rfl ?_
      go_wp2_with fail
      refine ⟨fun _ => qW, ?_⟩
      refine wpM_one 8 rfl (by kernel_rfl) rfl ?_
      go_wp2_with fail
      refine ⟨fun _ => qW, ?_⟩
      refine wpM_one 9 rfl (by kernel_rfl) rfl ?_
      go_wp2_with fail
      refine ⟨(fun h => by simp at h), ?_⟩
      exact wpM_done (by kernel_rfl) ⟨LB, DB, rfl, hne, h1, h2, HF.out⟩
    case main =>
      intro FIN
      have q0 : w1.drew.cell? ⟨w.heap.size, 0, none⟩ = some (.pointer (some ⟨K, 0, none⟩)) := cKB
      refine wpM_held 0 (v := .pointer (some ⟨K, 0, none⟩)) rfl (by kernel_rfl) (by kernel_rfl) rfl (fun _ _ _ h => h) rfl (by rintro wx hx; have hc : wx.cell? _ = _ := hx; go_simp <;> rfl) q0 ?_
      refine wpM_held 1 (v := .pointer (some ⟨K, 0, none⟩)) rfl (by kernel_rfl) (by kernel_rfl) rfl (fun _ _ _ h => h) rfl (by rintro wx hx; have hc : wx.cell? _ = _ := hx; go_simp <;> rfl) q0 ?_
      obtain ⟨w1d, hw1d⟩ : ∃ x, w1.drew = x := ⟨_, rfl⟩
      have qw1d : w1d.cell? ⟨w.heap.size, 0, none⟩ = some (.pointer (some ⟨K, 0, none⟩)) := by rw [← hw1d]; exact cKB
      have kw1d : Kept (fun k => k < w1.heap.size ∧ k ≠ K) w1 w1d := by rw [← hw1d]; exact (Kept.refl _ w1).drew
      have Kw1d : Row w1d K 51 #[tx, .bool last, .slice none 0 0, .slice none 0 0, .slice none 0 0, .int .i64 0] := by rw [← hw1d]; exact K1
      rw [hw1d]
      clear hw1d
      refine wpM_two 2 3 rfl rfl (by kernel_rfl) rfl rfl ?_ ?_
      ·
        obtain ⟨w101, hw101⟩ : ∃ x, w1d.alloc (.cells (madeCells #[.int .i64 0] 286) 3) = x := ⟨_, rfl⟩
        have nw101 : Row w101 w1d.heap.size 3 ((List.replicate 286 (0 : Int)).map (Value.int .i64)).toArray := by rw [← hw101, made_repC 286 0]; exact Row.new w1d 3 _
        have zw101 : w1d.heap.size < w101.heap.size := nw101.lt
        have kw101 : Kept (fun k => k < w1.heap.size ∧ k ≠ K) w1 w101 := by rw [← hw101]; exact kw1d.alloc (fun k h => by have := kw1d.size; omega) _
        have Kw101 : Row w101 K 51 #[tx, .bool last, .slice none 0 0, .slice none 0 0, .slice none 0 0, .int .i64 0] := by rw [← hw101]; exact Kw1d.alloc _
        have qw101 : w101.cell? ⟨w.heap.size, 0, none⟩ = some (.pointer (some ⟨K, 0, none⟩)) := (kw101.cell (p := ⟨w.heap.size, 0, none⟩) ⟨hKBl, hKBK⟩).trans cKB
        go_wp2_with fail
        refine ⟨fun _ => qw101, ?_⟩
        refine wpM_two 3 4 rfl rfl (by kernel_rfl) rfl rfl ?_ ?_
        ·
          obtain ⟨w102, hw102⟩ : ∃ x, w101.alloc (.cells (madeCells #[.int .i64 0] 30) 3) = x := ⟨_, rfl⟩
          have nw102 : Row w102 w101.heap.size 3 ((List.replicate 30 (0 : Int)).map (Value.int .i64)).toArray := by rw [← hw102, made_repC 30 0]; exact Row.new w101 3 _
          have zw102 : w101.heap.size < w102.heap.size := nw102.lt
          have kw102 : Kept (fun k => k < w1.heap.size ∧ k ≠ K) w1 w102 := by rw [← hw102]; exact kw101.alloc (fun k h => by have := kw101.size; omega) _
          have Kw102 : Row w102 K 51 #[tx, .bool last, .slice none 0 0, .slice none 0 0, .slice none 0 0, .int .i64 0] := by rw [← hw102]; exact Kw101.alloc _
          have qw102 : w102.cell? ⟨w.heap.size, 0, none⟩ = some (.pointer (some ⟨K, 0, none⟩)) := (kw102.cell (p := ⟨w.heap.size, 0, none⟩) ⟨hKBl, hKBK⟩).trans cKB
          have Lw102 := (show Row w102 w1d.heap.size 3 _ from by rw [← hw102]; exact nw101.alloc _)
          go_wp2_with fail
          refine ⟨fun _ => qw102, ?_⟩
          refine wpM_one 4 rfl (by kernel_rfl) rfl ?_
          go_wp2_with fail
          refine ⟨fun _ => qw102, ?_⟩
          refine wpM_one 5 rfl (by kernel_rfl) rfl ?_
          go_wp2_with fail
          refine ⟨fun _ => qw102, ?_⟩
          refine wpM_one 6 rfl (by kernel_rfl) rfl ?_
          have dw103 := Kw102.cell (i := 3) rfl
          have fw103 := Kw102.frozen 3
          obtain ⟨w103, hw103⟩ : ∃ x, w102.setCell ⟨K, 3, none⟩ (.slice (some ⟨w1d.heap.size, 0, none⟩) 286 286) = x := ⟨_, rfl⟩
          have Kw103 : Row w103 K 51 #[tx, .bool last, .slice none 0 0, .slice (some ⟨w1d.heap.size, 0, none⟩) 286 286, .slice none 0 0, .int .i64 0] := by rw [← hw103]; exact Kw102.set 3 _
          have kw103 : Kept (fun k => k < w1.heap.size ∧ k ≠ K) w1 w103 := by rw [← hw103]; exact kw102.setCell (p := ⟨K, 3, none⟩) (fun h => h.2 rfl) _
          have sw103 : w102.heap.size ≤ w103.heap.size := by rw [← hw103]; simp [World.setCell]
          have qw103 : w103.cell? ⟨w.heap.size, 0, none⟩ = some (.pointer (some ⟨K, 0, none⟩)) := (kw103.cell (p := ⟨w.heap.size, 0, none⟩) ⟨hKBl, hKBK⟩).trans cKB
          have Lw103 := (show Row w103 w1d.heap.size 3 _ from by rw [← hw103]; exact Lw102.kept (S := fun q => q ≠ K) ((Kept.refl _ _).setCell (p := ⟨K, 3, none⟩) (by simp) _) (by show w1d.heap.size ≠ K; have := kw1d.size; omega))
          have Dw103 := (show Row w103 w101.heap.size 3 _ from by rw [← hw103]; exact nw102.kept (S := fun q => q ≠ K) ((Kept.refl _ _).setCell (p := ⟨K, 3, none⟩) (by simp) _) (by show w101.heap.size ≠ K; have := kw101.size; omega))
          go_wp2_with fail
          clear dw103 fw103
          refine ⟨fun _ => qw103, ?_⟩
          exact FIN w1d.heap.size w101.heap.size w103 Lw103 Dw103 Kw103 kw103 (by omega) (by have := kw1d.size; omega) (by have := kw101.size; omega)
        ·
          go_wp2_with fail
          refine ⟨fun _ => qw101, ?_⟩
          refine wpM_two 3 5 rfl rfl (by kernel_rfl) rfl rfl ?_ ?_
          ·
            obtain ⟨w104, hw104⟩ : ∃ x, w101.alloc (.cells (madeCells #[.int .i64 0] 30) 3) = x := ⟨_, rfl⟩
            have nw104 : Row w104 w101.heap.size 3 ((List.replicate 30 (0 : Int)).map (Value.int .i64)).toArray := by rw [← hw104, made_repC 30 0]; exact Row.new w101 3 _
            have zw104 : w101.heap.size < w104.heap.size := nw104.lt
            have kw104 : Kept (fun k => k < w1.heap.size ∧ k ≠ K) w1 w104 := by rw [← hw104]; exact kw101.alloc (fun k h => by have := kw101.size; omega) _
            have Kw104 : Row w104 K 51 #[tx, .bool last, .slice none 0 0, .slice none 0 0, .slice none 0 0, .int .i64 0] := by rw [← hw104]; exact Kw101.alloc _
            have qw104 : w104.cell? ⟨w.heap.size, 0, none⟩ = some (.pointer (some ⟨K, 0, none⟩)) := (kw104.cell (p := ⟨w.heap.size, 0, none⟩) ⟨hKBl, hKBK⟩).trans cKB
            have Lw104 := (show Row w104 w1d.heap.size 3 _ from by rw [← hw104]; exact nw101.alloc _)
            go_wp2_with fail
            refine ⟨fun _ => qw104, ?_⟩
            refine wpM_one 5 rfl (by kernel_rfl) rfl ?_
            go_wp2_with fail
            refine ⟨fun _ => qw104, ?_⟩
            refine wpM_one 6 rfl (by kernel_rfl) rfl ?_
            have dw105 := Kw104.cell (i := 3) rfl
            have fw105 := Kw104.frozen 3
            obtain ⟨w105, hw105⟩ : ∃ x, w104.setCell ⟨K, 3, none⟩ (.slice (some ⟨w1d.heap.size, 0, none⟩) 286 286) = x := ⟨_, rfl⟩
            have Kw105 : Row w105 K 51 #[tx, .bool last, .slice none 0 0, .slice (some ⟨w1d.heap.size, 0, none⟩) 286 286, .slice none 0 0, .int .i64 0] := by rw [← hw105]; exact Kw104.set 3 _
            have kw105 : Kept (fun k => k < w1.heap.size ∧ k ≠ K) w1 w105 := by rw [← hw105]; exact kw104.setCell (p := ⟨K, 3, none⟩) (fun h => h.2 rfl) _
            have sw105 : w104.heap.size ≤ w105.heap.size := by rw [← hw105]; simp [World.setCell]
            have qw105 : w105.cell? ⟨w.heap.size, 0, none⟩ = some (.pointer (some ⟨K, 0, none⟩)) := (kw105.cell (p := ⟨w.heap.size, 0, none⟩) ⟨hKBl, hKBK⟩).trans cKB
            have Lw105 := (show Row w105 w1d.heap.size 3 _ from by rw [← hw105]; exact Lw104.kept (S := fun q => q ≠ K) ((Kept.refl _ _).setCell (p := ⟨K, 3, none⟩) (by simp) _) (by show w1d.heap.size ≠ K; have := kw1d.size; omega))
            have Dw105 := (show Row w105 w101.heap.size 3 _ from by rw [← hw105]; exact nw104.kept (S := fun q => q ≠ K) ((Kept.refl _ _).setCell (p := ⟨K, 3, none⟩) (by simp) _) (by show w101.heap.size ≠ K; have := kw101.size; omega))
            go_wp2_with fail
            clear dw105 fw105
            refine ⟨fun _ => qw105, ?_⟩
            exact FIN w1d.heap.size w101.heap.size w105 Lw105 Dw105 Kw105 kw105 (by omega) (by have := kw1d.size; omega) (by have := kw101.size; omega)
          ·
            go_wp2_with fail
            refine ⟨fun _ => qw101, ?_⟩
            refine wpM_two 3 6 rfl rfl (by kernel_rfl) rfl rfl ?_ ?_
            ·
              obtain ⟨w106, hw106⟩ : ∃ x, w101.alloc (.cells (madeCells #[.int .i64 0] 30) 3) = x := ⟨_, rfl⟩
              have nw106 : Row w106 w101.heap.size 3 ((List.replicate 30 (0 : Int)).map (Value.int .i64)).toArray := by rw [← hw106, made_repC 30 0]; exact Row.new w101 3 _
              have zw106 : w101.heap.size < w106.heap.size := nw106.lt
              have kw106 : Kept (fun k => k < w1.heap.size ∧ k ≠ K) w1 w106 := by rw [← hw106]; exact kw101.alloc (fun k h => by have := kw101.size; omega) _
              have Kw106 : Row w106 K 51 #[tx, .bool last, .slice none 0 0, .slice none 0 0, .slice none 0 0, .int .i64 0] := by rw [← hw106]; exact Kw101.alloc _
              have qw106 : w106.cell? ⟨w.heap.size, 0, none⟩ = some (.pointer (some ⟨K, 0, none⟩)) := (kw106.cell (p := ⟨w.heap.size, 0, none⟩) ⟨hKBl, hKBK⟩).trans cKB
              have Lw106 := (show Row w106 w1d.heap.size 3 _ from by rw [← hw106]; exact nw101.alloc _)
              go_wp2_with fail
              refine ⟨fun _ => qw106, ?_⟩
              refine wpM_one 6 rfl (by kernel_rfl) rfl ?_
              have dw107 := Kw106.cell (i := 3) rfl
              have fw107 := Kw106.frozen 3
              obtain ⟨w107, hw107⟩ : ∃ x, w106.setCell ⟨K, 3, none⟩ (.slice (some ⟨w1d.heap.size, 0, none⟩) 286 286) = x := ⟨_, rfl⟩
              have Kw107 : Row w107 K 51 #[tx, .bool last, .slice none 0 0, .slice (some ⟨w1d.heap.size, 0, none⟩) 286 286, .slice none 0 0, .int .i64 0] := by rw [← hw107]; exact Kw106.set 3 _
              have kw107 : Kept (fun k => k < w1.heap.size ∧ k ≠ K) w1 w107 := by rw [← hw107]; exact kw106.setCell (p := ⟨K, 3, none⟩) (fun h => h.2 rfl) _
              have sw107 : w106.heap.size ≤ w107.heap.size := by rw [← hw107]; simp [World.setCell]
              have qw107 : w107.cell? ⟨w.heap.size, 0, none⟩ = some (.pointer (some ⟨K, 0, none⟩)) := (kw107.cell (p := ⟨w.heap.size, 0, none⟩) ⟨hKBl, hKBK⟩).trans cKB
              have Lw107 := (show Row w107 w1d.heap.size 3 _ from by rw [← hw107]; exact Lw106.kept (S := fun q => q ≠ K) ((Kept.refl _ _).setCell (p := ⟨K, 3, none⟩) (by simp) _) (by show w1d.heap.size ≠ K; have := kw1d.size; omega))
              have Dw107 := (show Row w107 w101.heap.size 3 _ from by rw [← hw107]; exact nw106.kept (S := fun q => q ≠ K) ((Kept.refl _ _).setCell (p := ⟨K, 3, none⟩) (by simp) _) (by show w101.heap.size ≠ K; have := kw101.size; omega))
              go_wp2_with fail
              clear dw107 fw107
              refine ⟨fun _ => qw107, ?_⟩
              exact FIN w1d.heap.size w101.heap.size w107 Lw107 Dw107 Kw107 kw107 (by omega) (by have := kw1d.size; omega) (by have := kw101.size; omega)
            ·
              have dw108 := Kw101.cell (i := 3) rfl
              have fw108 := Kw101.frozen 3
              obtain ⟨w108, hw108⟩ : ∃ x, w101.setCell ⟨K, 3, none⟩ (.slice (some ⟨w1d.heap.size, 0, none⟩) 286 286) = x := ⟨_, rfl⟩
              have Kw108 : Row w108 K 51 #[tx, .bool last, .slice none 0 0, .slice (some ⟨w1d.heap.size, 0, none⟩) 286 286, .slice none 0 0, .int .i64 0] := by rw [← hw108]; exact Kw101.set 3 _
              have kw108 : Kept (fun k => k < w1.heap.size ∧ k ≠ K) w1 w108 := by rw [← hw108]; exact kw101.setCell (p := ⟨K, 3, none⟩) (fun h => h.2 rfl) _
              have sw108 : w101.heap.size ≤ w108.heap.size := by rw [← hw108]; simp [World.setCell]
              have qw108 : w108.cell? ⟨w.heap.size, 0, none⟩ = some (.pointer (some ⟨K, 0, none⟩)) := (kw108.cell (p := ⟨w.heap.size, 0, none⟩) ⟨hKBl, hKBK⟩).trans cKB
              have Lw108 := (show Row w108 w1d.heap.size 3 _ from by rw [← hw108]; exact nw101.kept (S := fun q => q ≠ K) ((Kept.refl _ _).setCell (p := ⟨K, 3, none⟩) (by simp) _) (by show w1d.heap.size ≠ K; have := kw1d.size; omega))
              go_wp2_with fail
              clear dw108 fw108
              refine ⟨fun _ => qw108, ?_⟩
              refine wpM_one 3 rfl (by kernel_rfl) rfl ?_
              obtain ⟨w109, hw109⟩ : ∃ x, w108.alloc (.cells (madeCells #[.int .i64 0] 30) 3) = x := ⟨_, rfl⟩
              have nw109 : Row w109 w108.heap.size 3 ((List.replicate 30 (0 : Int)).map (Value.int .i64)).toArray := by rw [← hw109, made_repC 30 0]; exact Row.new w108 3 _
              have zw109 : w108.heap.size < w109.heap.size := nw109.lt
              have kw109 : Kept (fun k => k < w1.heap.size ∧ k ≠ K) w1 w109 := by rw [← hw109]; exact kw108.alloc (fun k h => by have := kw108.size; omega) _
              have Kw109 : Row w109 K 51 #[tx, .bool last, .slice none 0 0, .slice (some ⟨w1d.heap.size, 0, none⟩) 286 286, .slice none 0 0, .int .i64 0] := by rw [← hw109]; exact Kw108.alloc _
              have qw109 : w109.cell? ⟨w.heap.size, 0, none⟩ = some (.pointer (some ⟨K, 0, none⟩)) := (kw109.cell (p := ⟨w.heap.size, 0, none⟩) ⟨hKBl, hKBK⟩).trans cKB
              have Lw109 := (show Row w109 w1d.heap.size 3 _ from by rw [← hw109]; exact Lw108.alloc _)
              go_wp2_with fail
              refine ⟨fun _ => qw109, ?_⟩
              exact FIN w1d.heap.size w108.heap.size w109 Lw109 nw109 Kw109 kw109 (by omega) (by have := kw1d.size; omega) (by have := kw108.size; omega)
      ·
        obtain ⟨w110, hw110⟩ : ∃ x, w1d.alloc (.cells (madeCells #[.int .i64 0] 30) 3) = x := ⟨_, rfl⟩
        have nw110 : Row w110 w1d.heap.size 3 ((List.replicate 30 (0 : Int)).map (Value.int .i64)).toArray := by rw [← hw110, made_repC 30 0]; exact Row.new w1d 3 _
        have zw110 : w1d.heap.size < w110.heap.size := nw110.lt
        have kw110 : Kept (fun k => k < w1.heap.size ∧ k ≠ K) w1 w110 := by rw [← hw110]; exact kw1d.alloc (fun k h => by have := kw1d.size; omega) _
        have Kw110 : Row w110 K 51 #[tx, .bool last, .slice none 0 0, .slice none 0 0, .slice none 0 0, .int .i64 0] := by rw [← hw110]; exact Kw1d.alloc _
        have qw110 : w110.cell? ⟨w.heap.size, 0, none⟩ = some (.pointer (some ⟨K, 0, none⟩)) := (kw110.cell (p := ⟨w.heap.size, 0, none⟩) ⟨hKBl, hKBK⟩).trans cKB
        go_wp2_with fail
        refine ⟨fun _ => qw110, ?_⟩
        refine wpM_one 2 rfl (by kernel_rfl) rfl ?_
        obtain ⟨w111, hw111⟩ : ∃ x, w110.alloc (.cells (madeCells #[.int .i64 0] 286) 3) = x := ⟨_, rfl⟩
        have nw111 : Row w111 w110.heap.size 3 ((List.replicate 286 (0 : Int)).map (Value.int .i64)).toArray := by rw [← hw111, made_repC 286 0]; exact Row.new w110 3 _
        have zw111 : w110.heap.size < w111.heap.size := nw111.lt
        have kw111 : Kept (fun k => k < w1.heap.size ∧ k ≠ K) w1 w111 := by rw [← hw111]; exact kw110.alloc (fun k h => by have := kw110.size; omega) _
        have Kw111 : Row w111 K 51 #[tx, .bool last, .slice none 0 0, .slice none 0 0, .slice none 0 0, .int .i64 0] := by rw [← hw111]; exact Kw110.alloc _
        have qw111 : w111.cell? ⟨w.heap.size, 0, none⟩ = some (.pointer (some ⟨K, 0, none⟩)) := (kw111.cell (p := ⟨w.heap.size, 0, none⟩) ⟨hKBl, hKBK⟩).trans cKB
        have Dw111 := (show Row w111 w1d.heap.size 3 _ from by rw [← hw111]; exact nw110.alloc _)
        go_wp2_with fail
        refine ⟨fun _ => qw111, ?_⟩
        refine wpM_one 4 rfl (by kernel_rfl) rfl ?_
        go_wp2_with fail
        refine ⟨fun _ => qw111, ?_⟩
        refine wpM_one 5 rfl (by kernel_rfl) rfl ?_
        go_wp2_with fail
        refine ⟨fun _ => qw111, ?_⟩
        refine wpM_one 6 rfl (by kernel_rfl) rfl ?_
        have dw112 := Kw111.cell (i := 3) rfl
        have fw112 := Kw111.frozen 3
        obtain ⟨w112, hw112⟩ : ∃ x, w111.setCell ⟨K, 3, none⟩ (.slice (some ⟨w110.heap.size, 0, none⟩) 286 286) = x := ⟨_, rfl⟩
        have Kw112 : Row w112 K 51 #[tx, .bool last, .slice none 0 0, .slice (some ⟨w110.heap.size, 0, none⟩) 286 286, .slice none 0 0, .int .i64 0] := by rw [← hw112]; exact Kw111.set 3 _
        have kw112 : Kept (fun k => k < w1.heap.size ∧ k ≠ K) w1 w112 := by rw [← hw112]; exact kw111.setCell (p := ⟨K, 3, none⟩) (fun h => h.2 rfl) _
        have sw112 : w111.heap.size ≤ w112.heap.size := by rw [← hw112]; simp [World.setCell]
        have qw112 : w112.cell? ⟨w.heap.size, 0, none⟩ = some (.pointer (some ⟨K, 0, none⟩)) := (kw112.cell (p := ⟨w.heap.size, 0, none⟩) ⟨hKBl, hKBK⟩).trans cKB
        have Lw112 := (show Row w112 w110.heap.size 3 _ from by rw [← hw112]; exact nw111.kept (S := fun q => q ≠ K) ((Kept.refl _ _).setCell (p := ⟨K, 3, none⟩) (by simp) _) (by show w110.heap.size ≠ K; have := kw110.size; omega))
        have Dw112 := (show Row w112 w1d.heap.size 3 _ from by rw [← hw112]; exact Dw111.kept (S := fun q => q ≠ K) ((Kept.refl _ _).setCell (p := ⟨K, 3, none⟩) (by simp) _) (by show w1d.heap.size ≠ K; have := kw1d.size; omega))
        go_wp2_with fail
        clear dw112 fw112
        refine ⟨fun _ => qw112, ?_⟩
        exact FIN w110.heap.size w1d.heap.size w112 Lw112 Dw112 Kw112 kw112 (by omega) (by have := kw110.size; omega) (by have := kw1d.size; omega)
  case rest =>
    intro e a' w2 hq
    cases e <;> simp only [regEx] at hq
    obtain ⟨LB, DB, rfl, hne, hL1, hD1, rL, rD, rK, hk2⟩ := hq
    have cK3 := rK.cell (i := 3) rfl
    have cL := row_int_cell rL 256 (by simp)
    have fL := rL.frozen 256
    have c2 : w2.cell? ⟨w.heap.size, 0, none⟩ = some (.pointer (some ⟨K, 0, none⟩)) := (hk2.cell (p := ⟨w.heap.size, 0, none⟩) ⟨hKBl, hKBK⟩).trans cKB
    have rKB2 : Row w2 w.heap.size 76 #[.pointer (some ⟨K, 0, none⟩)] := rKB.kept hk2 ⟨hKBl, hKBK⟩
    obtain ⟨w3, hw3⟩ : ∃ x, w2.setCell ⟨LB, 256, none⟩ (.int .i64 1) = x := ⟨_, rfl⟩
    have hq3 : Kept (fun k => k ≠ LB) w2 w3 := by rw [← hw3]; exact (Kept.refl _ w2).setCell (p := ⟨LB, 256, none⟩) (by simp) _
    have rL3 : Row w3 LB 3 (lit0.map (Value.int .i64)).toArray := by rw [← hw3]; exact row_set_int rL 256 1
    have s1 := hb1.size
    have rD3 := rD.kept hq3 (fun e => hne e.symm)
    have rK3 := rK.kept hq3 (show K ≠ LB by omega)
    have rKB3 := rKB2.kept hq3 (show w.heap.size ≠ LB by omega)
    have hk3 : Kept (fun k => k < w.heap.size ∧ k ≠ K) w w3 := ((Kept.of_below (S := fun k => k < w.heap.size ∧ k ≠ K) hb1 (fun k h => h.1)).trans (hk2.mono (fun k h => ⟨by omega, h.2⟩))).trans (hq3.mono (fun k h => by show k ≠ LB; omega))
    have s3 : w1.heap.size ≤ w3.heap.size := Nat.le_trans hk2.size hq3.size
    have hLl := rL3.lt
    have hDl := rD3.lt
    have hKl3 := rK3.lt
    clear K1 rKB cKB hb1 hk2 hq3
    gi_wp2_with fail
    clear hw3 hmkA hmkB cK3 cL fL c2 rL rD rK rKB2
    refine wpIn_range_ownE rfl (by omega) (gf := 32) (lb := lb) rfl trivial (enters_of Tryd.func32 (by kernel_rfl) rfl) (hseq w3 hk3) (fun xs V V' h hk => hE xs V V' h (hk.mono (fun k h => by have := h.1; omega))) (fun k h => by have := hZ k h; omega) (fun _ => rfl)
      (CtI T p q w K LB DB tx last Z)
      (fun pre own V V' h hm => by
        obtain ⟨iv, h1, h2, h3, h4, h5, h6, h7, h8, h9⟩ := h
        refine ⟨iv, hm.row h1 hKZ, hm.row h2 (fun hz => by have := hZ _ hz; omega), hm.row h3 (fun hz => by have := hZ _ hz; omega), hm.row h4 (fun hz => by have := hZ _ hz; omega), ⟨h5.1, owns_mild h5.2 hm (fun k e hz => by have := hZ k hz; have := (h5.2.lt k e).1; omega)⟩, h6.trans (hm.kept (fun k hk => ⟨by omega, hk.2.2, Nat.lt_of_lt_of_le hk.1 h6.size⟩)), h7, h8, h9⟩)
      (fun pre own V k h hk => by
        obtain ⟨iv, h1, h2, h3, h4, h5, h6, h7, h8, rfl⟩ := h
        rcases hk with rfl | rfl | rfl | hk
        · exact ⟨h1.lt, hKU⟩
        · exact ⟨h3.lt, fun hu => by have := hU _ hu; omega⟩
        · exact ⟨h4.lt, fun hu => by have := hU _ hu; omega⟩
        · exact ⟨(h5.2.lt k hk).2, fun hu => by have := hU _ hu; have := (h5.2.lt k hk).1; omega⟩)
      ⟨_, .slice none 0 0, rK3, rKB3, rL3, rD3, OwnIts.nil _ _, hk3.mono (fun k h => ⟨h.1, h.2.1⟩), (fun i r h => by simp at h), ⟨hne, by omega, by omega⟩, rfl⟩
      (fun x W => { tmps := #[.pointer (some ⟨K, 0, none⟩), .func (.func 32) #[] lb, .pointer (some ⟨w.heap.size, 0, none⟩), undef, .pointer (some ⟨W.heap.size, 0, none⟩), undef, undef, .pointer (some ⟨K, 0, none⟩), .pointer (some ⟨K, 0, none⟩), .slice (some ⟨LB, 0, none⟩) 286 286, .slice (some ⟨DB, 0, none⟩) 30 30, .pointer (some ⟨K, 0, none⟩), .pointer (some ⟨K, 3, none⟩), .pointer (some ⟨K, 0, none⟩), .pointer (some ⟨K, 4, none⟩), .pointer (some ⟨K, 0, none⟩), .pointer (some ⟨K, 0, none⟩), .pointer (some ⟨K, 3, none⟩), .slice (some ⟨LB, 0, none⟩) 286 286, .pointer (some ⟨LB, 256, none⟩), .func (.func 32) #[] lb, x.val, undef, undef, undef, undef, undef, undef, undef, undef, undef, undef, undef, undef, undef, undef, undef, undef, undef, undef, undef, undef, undef, undef, undef, undef, undef, undef, undef, undef, undef, undef, undef, undef, undef, undef, undef, undef, undef, undef, undef, undef, undef, undef, undef, undef, undef, undef, undef, undef, undef, undef, undef, undef, undef, undef, undef, undef, undef, undef, undef, undef, undef, undef, undef], defers := [] })
      (fun x W => W.alloc (.cells #[.int .i64 x.b, .int .i64 x.l, .int .i64 x.d] 32)) (fun x W => (Kept.refl _ W).alloc (fun k h => h) _) ?assign ?body ?done
    case assign =>
      intro l x W Kx hKx
      simp only [It.val] at hKx ⊢
      gi_wp2
      exact hKx
    case done =>
      rintro D ys own V hD hEV hI hKD
      have hI' := hI.mild (Mild.putObj (B := w3.heap.size) (Z := Z) V D _ (.deferred none) hKD hD rfl) hKZ hZ (by omega)
      have hE' := hE _ _ _ hEV (Kept.putObj (S := fun k => k < w.heap.size ∧ k ≠ K) V D (.deferred none) (fun h => by have := h.1; omega))
      clear hI hEV
      gi_wp2
      refine ⟨by simp, .inl ⟨_, _, rfl, run_takeDeferred hKD, ?_⟩⟩
      exact ⟨.tuple #[], by simp [results, Tryd.f18, go_sem], rfl, ys, LB, DB, own, hE', hI'⟩
    case body =>
      rintro l pre ⟨rb, rl, rd⟩ own W V hWs hIW hIV hMV hRx
      simp only [It.val]
      have HOK : Hid (ItOk ⟨rb, rl, rd⟩) := hok _ _ hRx
      have HOW : Hid (∀ k, own k → k < W.heap.size) := by
        obtain ⟨iv, h1, h2, h3, h4, h5, h6, h7, h8, rfl⟩ := hIW
        rintro k (rfl | rfl | rfl | hk)
        · exact h1.lt
        · exact h3.lt
        · exact h4.lt
        · exact (h5.2.lt k hk).2
      clear hIW
      obtain ⟨iv, h1, h2, h3, h4, h5, h6, h7, h8, rfl⟩ := hIV
      have hR5 := hMV.row (Row.new W 32 #[.int .i64 rb, .int .i64 rl, .int .i64 rd]) (fun h => h)
      have i0 := hR5.cell (i := 0) rfl
      have i1 := hR5.cell (i := 1) rfl
      have i2 := hR5.cell (i := 2) rfl
      have cKBV := h2.cell (i := 0) rfl
      obtain ⟨⟨gu, cu, rfl⟩, hown⟩ := h5
      have cK2 := h1.cell (i := 2) rfl
      have hIl := hR5.lt
      have hVs := h6.size
      have hnK := row_ne hown h1 (by decide)
      have hnKB := row_ne hown h2 (by decide)
      have hnL := row_ne hown h3 (by decide)
      have hnD := row_ne hown h4 (by decide)
      have hnI : ∀ k, (Value.slice gu pre.length cu).ownBlock = some k → k ≠ W.heap.size := fun k hk e => by have := HOW.out k (.inr (.inr (.inr hk))); omega
      have HLN : Hid (pre.length + 1 ≤ 70001) := by have := told_ge pre; have := hRx.1; show _ ≤ _; omega
      have HGD : Hid (∀ (i : Nat) (r : It), (pre ++ [(⟨rb, rl, rd⟩ : It)])[i]? = some r → ItemAt T p q ((pre ++ [(⟨rb, rl, rd⟩ : It)]).take i) r) := by
        intro i r hr
        by_cases hi : i < pre.length
        · rw [List.getElem?_append_left hi] at hr
          rw [List.take_append_of_le_length (by omega)]
          exact h7 i r hr
        · have he : i = pre.length := by
            have := (List.getElem?_eq_some_iff.1 hr).1
            simp at this
            omega
          subst he
          simp at hr
          subst hr
          rw [List.take_left']
          · exact hRx
          · rfl
      have HS : Hid (Kept (fun k => k = K ∨ k = w.heap.size ∨ k = W.heap.size) V V.drew) := (Kept.refl _ V).drew
      have hKV := h1.lt
      have hKBV := h2.lt
      obtain ⟨V1, hV1⟩ : ∃ x, V.drew.alloc (.cells #[.int .i64 rb, .int .i64 rl, .int .i64 rd] 32) = x := ⟨_, rfl⟩
      have kV1 : Kept (fun k => k < V.heap.size) V V1 := by rw [← hV1]; exact (Kept.refl _ V).drew.alloc (fun k h => h) _
      have oV1 : V1.ownsRow w.heap.size 32 3 (.slice gu pre.length cu) pre.length (itCells pre) := by rw [← hV1]; exact hown.alloc _
      have zV1 : V.heap.size < V1.heap.size := by rw [← hV1]; simp
      have HNW : Hid (∀ (j : Nat) (u : Value), ([.int .i64 rb, .int .i64 rl, .int .i64 rd] : List Value)[j]? = some u → V1.cell? ((⟨V.heap.size, 0, none⟩ : Addr).add j) = some u) := by
        intro j u hu
        rw [← hV1]
        have hR := Row.new V.drew 32 #[.int .i64 rb, .int .i64 rl, .int .i64 rd]
        have h := hR.cell (i := j) (v := u) (by simpa using hu)
        rw [Go.WideShapes.add_plain]
        simpa using h
      gi_wp2_with fail
      refine wpIn_region_Mr (fun wx : World => Kept (fun k => k = K ∨ k = w.heap.size ∨ k = W.heap.size) V wx) (fun j => decide (j < 10)) 11 rfl (by kernel_rfl) (by kernel_rfl) (fun _ _ h => h) ?_
      refine wpM_held 0 (v := .pointer (some ⟨K, 0, none⟩)) rfl (by kernel_rfl) (by kernel_rfl) rfl (fun _ _ _ h => h) rfl (by rintro wx hx; have hc := (hx.cell (p := ⟨w.heap.size, 0, none⟩) (.inr (.inl rfl))).trans cKBV; go_simp <;> rfl) HS.out ?_
      refine wpM_held 1 (v := .pointer (some ⟨K, 0, none⟩)) rfl (by kernel_rfl) (by kernel_rfl) rfl (fun _ _ _ h => h) rfl (by rintro wx hx; have hc := (hx.cell (p := ⟨w.heap.size, 0, none⟩) (.inr (.inl rfl))).trans cKBV; go_simp <;> rfl) HS.out ?_
      refine wpM_held 2 (v := .pointer (some ⟨K, 0, none⟩)) rfl (by kernel_rfl) (by kernel_rfl) rfl (fun _ _ _ h => h) rfl (by rintro wx hx; go_simp <;> rfl) HS.out ?_
      refine wpM_held 3 (v := .pointer (some ⟨K, 2, none⟩)) rfl (by kernel_rfl) (by kernel_rfl) rfl (fun _ _ _ h => h) rfl (by rintro wx hx; go_simp <;> rfl) HS.out ?_
      refine wpM_held 4 (v := .slice gu pre.length cu) rfl (by kernel_rfl) (by kernel_rfl) rfl (fun _ _ _ h => h) rfl (by rintro wx hx; have hc := (hx.cell (p := ⟨K, 2, none⟩) (.inl rfl)).trans cK2; go_simp <;> rfl) HS.out ?_
      refine wpM_held 5 (v := .agg #[.int .i64 rb, .int .i64 rl, .int .i64 rd]) rfl (by kernel_rfl) (by kernel_rfl) rfl (fun _ _ _ h => h) rfl (by rintro wx hx; have hc := (hx.cell (p := ⟨W.heap.size, 0, none⟩) (.inr (.inr rfl))).trans i0; have hd := (hx.cell (p := ⟨W.heap.size, 1, none⟩) (.inr (.inr rfl))).trans i1; have he := (hx.cell (p := ⟨W.heap.size, 2, none⟩) (.inr (.inr rfl))).trans i2; go_simp <;> rfl) HS.out ?_
      refine wpM_one 6 rfl (by kernel_rfl) rfl ?_
      go_wp2_with fail
      clear hV1
      refine ⟨fun _ => kV1.mono (by rintro k (rfl | rfl | rfl) <;> omega), ?_⟩
      refine wpM_one 7 rfl (by kernel_rfl) rfl ?_
      refine wpList_append_own2 _ rfl (.tmp 26) (.tmp 28) 28 rfl w.heap.size 32 i32 (.agg #[.int .i64 0, .int .i64 0, .int .i64 0]) 3 24 Tryd.underlying28 hi32 hy0 hy1 hy2 rfl (by decide) _ _ _ rfl oV1 ⟨V.heap.size, 0, none⟩ 1 1 [.int .i64 rb, .int .i64 rl, .int .i64 rd] rfl rfl HNW.out (by simp [Value.oneCell']) (by have := HLN.out; unfold maxLen; omega) (by have := HLN.out; omega) (by omega) ?_
      intro v' V2 hown' hgrow hblk
      obtain ⟨g', c', rfl⟩ := owns_form hown'
      have g2 : Kept (fun k => k < V1.heap.size ∧ (Value.slice gu pre.length cu).ownBlock ≠ some k) V1 V2 := ⟨hgrow.os, hgrow.tape, hgrow.output, hgrow.size, fun k hk => hgrow.block k hk.1 (fun e => hk.2 e.symm)⟩
      have kV2 : Kept (fun k => k < V.heap.size ∧ (Value.slice gu pre.length cu).ownBlock ≠ some k) V V2 := (kV1.mono (fun k h => h.1)).trans (g2.mono (fun k h => ⟨by omega, h.2⟩))
      have hko2 : KeepsOthers V V2 := ⟨kV2.size, fun k o hk ho => (kV2.block k ⟨(Array.getElem?_eq_some_iff.1 hk).1, fun e => by
        have := owns_cells hown k o e hk
        rw [this] at ho
        cases ho⟩).trans hk⟩
      have a1 := h1.kept kV2 ⟨hKV, hnK⟩
      have a2 := h2.kept kV2 ⟨hKBV, hnKB⟩
      have aL := h3.kept kV2 ⟨h3.lt, hnL⟩
      have aD := h4.kept kV2 ⟨h4.lt, hnD⟩
      have aI := hR5.kept kV2 ⟨hIl, fun e => hnI _ e rfl⟩
      have S2 : Kept (fun k => k = K ∨ k = w.heap.size ∨ k = W.heap.size) V V2 := kV2.mono (by
        rintro k (rfl | rfl | rfl)
        · exact ⟨hKV, hnK⟩
        · exact ⟨hKBV, hnKB⟩
        · exact ⟨hIl, fun e => hnI _ e rfl⟩)
      have e2 := a1.cell (i := 2) rfl
      have e2f := a1.frozen 2
      have hnK2 : (Value.slice g' (pre.length + 1) c').ownBlock ≠ some K := row_ne hown' a1 (by decide)
      clear HNW oV1 kV1 g2 hgrow hblk i0 i1 i2 cKBV cK2
      go_wp2_with fail
      refine ⟨fun _ => S2, ?_⟩
      refine wpM_one 8 rfl (by kernel_rfl) rfl ?_
      go_wp2_with fail
      refine ⟨fun _ => S2, ?_⟩
      refine wpM_one 9 rfl (by kernel_rfl) rfl ?_
      go_wp2_with fail
      refine ⟨fun _ => S2, ?_⟩
      refine wpM_one 10 rfl (by kernel_rfl) rfl ?_
      go_wp2_with fail
      refine ⟨(fun h => by simp at h), ?_⟩
      refine wpM_done (by kernel_rfl) ?_
      obtain ⟨X, hX⟩ : ∃ x, V2.setCell ⟨K, 2, none⟩ (.slice g' (pre.length + 1) c') = x := ⟨_, rfl⟩
      have kK : Kept (fun k => k ≠ K) V2 X := by rw [← hX]; exact (Kept.refl _ V2).setCell (p := ⟨K, 2, none⟩) (by simp) _
      have rKX : Row X K 51 #[tx, .bool last, .slice g' (pre.length + 1) c', .slice (some ⟨LB, 0, none⟩) 286 286, .slice (some ⟨DB, 0, none⟩) 30 30, .int .i64 (extN pre : Int)] := by rw [← hX]; exact a1.set 2 _
      have hkoX : KeepsOthers V X := by rw [← hX]; exact hko2.trans (KeepsOthers.setCell _ _ _)
      have rKBX := a2.kept kK (show w.heap.size ≠ K by omega)
      have rLBX := aL.kept kK (show LB ≠ K by omega)
      have rDBX := aD.kept kK (show DB ≠ K by omega)
      have rIX := aI.kept kK (show W.heap.size ≠ K by omega)
      have oX : X.ownsRow w.heap.size 32 3 (.slice g' (pre.length + 1) c') (pre.length + 1) (itCells (pre ++ [⟨rb, rl, rd⟩])) := by
        rw [itCells_append]
        exact owns_kept hown' kK (fun k hk e => hnK2 (e ▸ hk))
      have kX : Kept (fun k => k < V.heap.size ∧ ¬ (k = K ∨ k = LB ∨ k = DB ∨ (Value.slice gu pre.length cu).ownBlock = some k)) V X := (kV2.mono (fun k h => ⟨h.1, fun e => h.2 (.inr (.inr (.inr e)))⟩)).trans (kK.mono (fun k h => fun e => h.2 (.inl e)))
      rw [hX]
      clear hX kK a1 a2 aL aD aI S2 e2 e2f hko2 kV2 hown'
      have fllen : (litF pre lit0).length = 286 := by rw [litF_length]; rfl
      have fdlen : (dstFr pre dst0).length = 30 := by rw [dstFr_length]; rfl
      have flup := litF_upto pre lit0 1 lit0_upto
      have fdup := dstFr_upto pre dst0 1 dst0_upto
      have HEL : Hid (litF (pre ++ [⟨rb, rl, rd⟩]) lit0 = addAt (litF pre lit0) (litSym ⟨rb, rl, rd⟩) 1) := litF_snoc _ _ _
      have HED : Hid (dstFr (pre ++ [⟨rb, rl, rd⟩]) dst0 = if rl = 0 then dstFr pre dst0 else addAt (dstFr pre dst0) (dstSym ⟨rb, rl, rd⟩) 1) := dstFr_snoc _ _ _
      have HEX : Hid (extN (pre ++ [⟨rb, rl, rd⟩]) = extN pre + if rl = 0 then 0 else (lenF rl.toNat).2 + (dstF rd.toNat).2) := extN_snoc _ _
      generalize litF pre lit0 = fl at rLBX fllen flup HEL
      generalize dstFr pre dst0 = fd at rDBX fdlen fdup HED
      have hexb := extN_le pre
      generalize extN pre = ex at rKX HEX hexb
      have HLN2 := HLN
      have j0 := rIX.cell (i := 0) rfl
      have j1 := rIX.cell (i := 1) rfl
      have j2 := rIX.cell (i := 2) rfl
      have flup' : ∀ i : Nat, 0 ≤ fl[i]?.getD 0 ∧ fl[i]?.getD 0 ≤ 80000 := fun i => by have := flup i; have := HLN.out; omega
      have fdup' : ∀ i : Nat, 0 ≤ fd[i]?.getD 0 ∧ fd[i]?.getD 0 ≤ 80000 := fun i => by have := fdup i; have := HLN.out; omega
      clear flup fdup
      rcases HOK.out with ⟨hz, x, hx, hx255⟩ | ⟨ll, dd, hl, hd, l3, l258, d1, d32⟩
      · simp only at hz hx
        subst hz hx
        have cAX := rKBX.cell (i := 0) rfl
        have cBX := rKX.cell (i := 3) rfl
        have cRX := row_int_cell rLBX x (by have := fllen; omega)
        have fRX := rLBX.frozen x
        have upX := flup' x
        have HNX : Hid (Row ((X.setCell ⟨LB, x, none⟩ (.int .i64 (fl[x]?.getD 0 + 1))).drew) LB 3 ((addAt fl x 1).map (Value.int .i64)).toArray ∧ Kept (fun k => k ≠ LB) X ((X.setCell ⟨LB, x, none⟩ (.int .i64 (fl[x]?.getD 0 + 1))).drew) ∧ KeepsOthers X ((X.setCell ⟨LB, x, none⟩ (.int .i64 (fl[x]?.getD 0 + 1))).drew)) := ⟨row_set_int (W := X) rLBX x _, ((Kept.refl _ X).setCell (p := ⟨LB, x, none⟩) (by simp) _).drew, (KeepsOthers.setCell X _ _).trans (KeepsOthers.drew _)⟩
        generalize fl[x]?.getD 0 = fvX at cRX upX HNX
        have hwX : IntKind.i64.wrap (fvX + 1) = fvX + 1 := by simp [IntKind.wrap, IntKind.bits, IntKind.signed]; omega
        have tX : ((x : Nat) : Int) < 286 := by have := fllen; omega
        gi_wp2_with fail
        refine wpIn_region_Mr (fun wx : World => wx = X.drew) (fun j => decide (j < 10)) 11 rfl (by kernel_rfl) (by kernel_rfl) (fun _ _ h => h) ?_
        have HDX : X.drew = X.drew := rfl
        refine wpM_held 0 (v := .pointer (some ⟨K, 0, none⟩)) rfl (by kernel_rfl) (by kernel_rfl) rfl (fun _ _ _ h => h) rfl (by rintro wx rfl; go_simp <;> rfl) HDX ?_
        refine wpM_held 1 (v := .pointer (some ⟨K, 0, none⟩)) rfl (by kernel_rfl) (by kernel_rfl) rfl (fun _ _ _ h => h) rfl (by rintro wx rfl; go_simp <;> rfl) HDX ?_
        refine wpM_held 2 (v := .pointer (some ⟨K, 3, none⟩)) rfl (by kernel_rfl) (by kernel_rfl) rfl (fun _ _ _ h => h) rfl (by rintro wx rfl; go_simp <;> rfl) HDX ?_
        refine wpM_held 3 (v := .slice (some ⟨LB, 0, none⟩) 286 286) rfl (by kernel_rfl) (by kernel_rfl) rfl (fun _ _ _ h => h) rfl (by rintro wx rfl; go_simp <;> rfl) HDX ?_
        refine wpM_held 4 (v := .pointer (some ⟨W.heap.size, 0, none⟩)) rfl (by kernel_rfl) (by kernel_rfl) rfl (fun _ _ _ h => h) rfl (by rintro wx rfl; go_simp <;> rfl) HDX ?_
        refine wpM_held 5 (v := .int .i64 (x : Int)) rfl (by kernel_rfl) (by kernel_rfl) rfl (fun _ _ _ h => h) rfl (by rintro wx rfl; go_simp <;> rfl) HDX ?_
        refine wpM_held 6 (v := .pointer (some ⟨LB, x, none⟩)) rfl (by kernel_rfl) (by kernel_rfl) rfl (fun _ _ _ h => h) rfl (by rintro wx rfl; go_simp <;> rfl) HDX ?_
        refine wpM_held 7 (v := .int .i64 fvX) rfl (by kernel_rfl) (by kernel_rfl) rfl (fun _ _ _ h => h) rfl (by rintro wx rfl; go_simp <;> rfl) HDX ?_
        refine wpM_one 8 rfl (by kernel_rfl) rfl ?_
        go_wp2_with fail
        refine ⟨fun _ => rfl, ?_⟩
        refine wpM_one 9 rfl (by kernel_rfl) rfl ?_
        go_wp2_with fail
        refine ⟨fun _ => rfl, ?_⟩
        refine wpM_one 10 rfl (by kernel_rfl) rfl ?_
        go_wp2_with fail
        refine ⟨(fun h => by simp at h), ?_⟩
        refine wpM_done (by kernel_rfl) ?_
        obtain ⟨Y, hY⟩ : ∃ wx, (X.setCell ⟨LB, x, none⟩ (.int .i64 (fvX + 1))).drew = wx := ⟨_, rfl⟩
        rw [hY] at HNX ⊢
        clear hY cAX cBX cRX fRX upX hwX HDX
        obtain ⟨rLBY, kqY, koY⟩ := HNX.out
        clear HNX

        have HE1 : Hid (litF (pre ++ [⟨(x : Int), 0, rd⟩]) lit0 = addAt fl x 1) := by show _ = _; rw [HEL.out]; simp [litSym]
        have kXY : Kept (fun k => k < V.heap.size ∧ ¬ (k = K ∨ k = LB ∨ k = DB ∨ (Value.slice gu pre.length cu).ownBlock = some k)) V Y := kX.trans (kqY.mono (fun k h e => h.2 (.inr (.inl e))))
        have HFIN : Hid (KeepsFrom w3.heap.size V Y ∧ CtI T p q w K LB DB tx last Z (pre ++ [⟨(x : Int), 0, rd⟩]) (fun k => k = K ∨ k = LB ∨ k = DB ∨ (Value.slice g' (pre.length + 1) c').ownBlock = some k) Y) := by
          refine ⟨(hkoX.trans koY).from _, .slice g' (pre.length + 1) c', ?_, rKBX.kept kqY (show w.heap.size ≠ LB by omega), ?_, ?_, ⟨⟨g', c', by simp⟩, ?_⟩, h6.trans (kXY.mono (fun k h => ⟨by omega, ?_⟩)), HGD.out, h8, rfl⟩
          · rw [HEX.out]
            simp only [if_true, Nat.add_zero]
            exact rKX.kept kqY (show K ≠ LB by omega)
          · rw [HE1.out]; exact rLBY
          · rw [HED.out]
            simp only [if_true]
            exact rDBX.kept kqY (fun e => hne e.symm)
          · rw [List.length_append]
            exact owns_kept oX kqY (fun k hk e => row_ne oX rLBX (by decide) (e ▸ hk))
          · rintro (e | e | e | e)
            · exact h.2.1 e
            · omega
            · omega
            · have := (hown.lt k e).1; omega
        clear rKX rKBX rLBX rDBX rIX oX kX
        gi_wp2
        exact ⟨HFIN.out.1, kXY, _, HFIN.out.2⟩
      · simp only at hl hd
        subst hl hd
        have t0 : ((ll : Int) == 0) = false := by simp; omega
        obtain ⟨ls, HEls⟩ : ∃ x, Hid (257 + lenI ll = x) := ⟨_, rfl⟩
        obtain ⟨ds, HEds⟩ : ∃ x, Hid (distI dd = x) := ⟨_, rfl⟩
        obtain ⟨⟨lv, lx⟩, HElf⟩ : ∃ x, Hid (lenF ll = x) := ⟨_, rfl⟩
        obtain ⟨⟨dv, dx⟩, HEdf⟩ : ∃ x, Hid (dstF dd = x) := ⟨_, rfl⟩
        have HLn : Hid (∀ W : World, Calls Tryd.prog 30 #[.int .i64 (ll : Int)] W fun e w' => e = .returned (.agg #[.int .i64 (ls : Int), .int .u32 (lv : Int), .int .i64 (lx : Int)]) ∧ Below W.heap.size W w') := fun W => by
          have := lengthSign_any ll l3 l258 W
          rw [HEls.out, HElf.out] at this
          exact this
        have HDs : Hid (∀ W : World, Calls Tryd.prog 31 #[.int .i64 (dd : Int)] W fun e w' => e = .returned (.agg #[.int .i64 (ds : Int), .int .u32 (dv : Int), .int .i64 (dx : Int)]) ∧ Below W.heap.size W w') := fun W => by
          have := distSign_any dd d1 d32 W
          rw [HEds.out, HEdf.out] at this
          exact this
        have hIX := rIX.lt
        obtain ⟨wS, hwS⟩ : ∃ x, X = x := ⟨_, rfl⟩
        subst hwS
        obtain ⟨wS, hwS⟩ : ∃ x, x = X := ⟨_, rfl⟩
        gi_wp2_with fail
        subst hwS
        refine wpIn_mono (Q := regEx (fun a' w' => ∃ B1 B2, a' = { tmps := #[.pointer (some ⟨K, 0, none⟩), .func (.func 32) #[] lb, .pointer (some ⟨w.heap.size, 0, none⟩), undef, .pointer (some ⟨W.heap.size, 0, none⟩), .pointer (some ⟨B1, 0, none⟩), .pointer (some ⟨B2, 0, none⟩), .pointer (some ⟨K, 0, none⟩), .pointer (some ⟨K, 0, none⟩), .slice (some ⟨LB, 0, none⟩) 286 286, .slice (some ⟨DB, 0, none⟩) 30 30, .pointer (some ⟨K, 0, none⟩), .pointer (some ⟨K, 3, none⟩), .pointer (some ⟨K, 0, none⟩), .pointer (some ⟨K, 4, none⟩), .pointer (some ⟨K, 0, none⟩), .pointer (some ⟨K, 0, none⟩), .pointer (some ⟨K, 3, none⟩), .slice (some ⟨LB, 0, none⟩) 286 286, .pointer (some ⟨LB, 256, none⟩), .func (.func 32) #[] lb, .agg #[.int .i64 rb, .int .i64 (ll : Int), .int .i64 (dd : Int)], .pointer (some ⟨K, 0, none⟩), .pointer (some ⟨K, 0, none⟩), .pointer (some ⟨K, 0, none⟩), .pointer (some ⟨K, 2, none⟩), .slice gu pre.length cu, .agg #[.int .i64 rb, .int .i64 (ll : Int), .int .i64 (dd : Int)], .slice (some ⟨V.heap.size, 0, none⟩) 1 1, .slice g' (pre.length + 1) c', .pointer (some ⟨K, 0, none⟩), .pointer (some ⟨K, 2, none⟩), .pointer (some ⟨W.heap.size, 1, none⟩), .int .i64 (ll : Int), .bool false, undef, undef, undef, undef, undef, undef, undef, undef, undef, undef, .pointer (some ⟨W.heap.size, 1, none⟩), .int .i64 (ll : Int), .agg #[.int .i64 (ls : Int), .int .u32 (lv : Int), .int .i64 (lx : Int)], .pointer (some ⟨W.heap.size, 2, none⟩), .int .i64 (dd : Int), .agg #[.int .i64 (ds : Int), .int .u32 (dv : Int), .int .i64 (dx : Int)], undef, undef, undef, undef, undef, undef, undef, undef, undef, undef, undef, undef, undef, undef, undef, undef, undef, undef, undef, undef, undef, undef, undef, undef, undef, undef, undef, undef, undef, undef, undef, undef, undef, undef], defers := [] } ∧ Row w' B1 81 #[.int .i64 (ls : Int), .int .u32 (lv : Int), .int .i64 (lx : Int)] ∧ Row w' B2 81 #[.int .i64 (ds : Int), .int .u32 (dv : Int), .int .i64 (dx : Int)] ∧ wS.heap.size ≤ B1 ∧ wS.heap.size ≤ B2 ∧ Below wS.heap.size wS w')) ?reg8 ?rest8
        case reg8 =>
          refine wpIn_region_Mr (fun wx : World => Below wS.heap.size wS wx) (fun j => decide (j < 8)) 10 rfl (by kernel_rfl) (by kernel_rfl) (fun _ _ h => h) ?_
          refine wpM_with (fun ops Q S E => ∀ (B1 B2 : Nat) (W' : World), Row W' B1 81 #[.int .i64 0, .int .u32 0, .int .i64 0] → Row W' B2 81 #[.int .i64 0, .int .u32 0, .int .i64 0] → B1 ≠ B2 → Below wS.heap.size wS W' → wS.heap.size ≤ B1 → wS.heap.size ≤ B2 → wpM Tryd.prog ops Q S E 2 #[true, true, true, true, true, true, true, true, false, false] { tmps := #[.pointer (some ⟨K, 0, none⟩), .func (.func 32) #[] lb, .pointer (some ⟨w.heap.size, 0, none⟩), undef, .pointer (some ⟨W.heap.size, 0, none⟩), .pointer (some ⟨B1, 0, none⟩), .pointer (some ⟨B2, 0, none⟩), .pointer (some ⟨K, 0, none⟩), .pointer (some ⟨K, 0, none⟩), .slice (some ⟨LB, 0, none⟩) 286 286, .slice (some ⟨DB, 0, none⟩) 30 30, .pointer (some ⟨K, 0, none⟩), .pointer (some ⟨K, 3, none⟩), .pointer (some ⟨K, 0, none⟩), .pointer (some ⟨K, 4, none⟩), .pointer (some ⟨K, 0, none⟩), .pointer (some ⟨K, 0, none⟩), .pointer (some ⟨K, 3, none⟩), .slice (some ⟨LB, 0, none⟩) 286 286, .pointer (some ⟨LB, 256, none⟩), .func (.func 32) #[] lb, .agg #[.int .i64 rb, .int .i64 (ll : Int), .int .i64 (dd : Int)], .pointer (some ⟨K, 0, none⟩), .pointer (some ⟨K, 0, none⟩), .pointer (some ⟨K, 0, none⟩), .pointer (some ⟨K, 2, none⟩), .slice gu pre.length cu, .agg #[.int .i64 rb, .int .i64 (ll : Int), .int .i64 (dd : Int)], .slice (some ⟨V.heap.size, 0, none⟩) 1 1, .slice g' (pre.length + 1) c', .pointer (some ⟨K, 0, none⟩), .pointer (some ⟨K, 2, none⟩), .pointer (some ⟨W.heap.size, 1, none⟩), .int .i64 (ll : Int), .bool false, undef, undef, undef, undef, undef, undef, undef, undef, undef, undef, .pointer (some ⟨W.heap.size, 1, none⟩), .int .i64 (ll : Int), .agg #[.int .i64 (ls : Int), .int .u32 (lv : Int), .int .i64 (lx : Int)], .pointer (some ⟨W.heap.size, 2, none⟩), .int .i64 (dd : Int), .agg #[.int .i64 (ds : Int), .int .u32 (dv : Int), .int .i64 (dx : Int)], undef, undef, undef, undef, undef, undef, undef, undef, undef, undef, undef, undef, undef, undef, undef, undef, undef, undef, undef, undef, undef, undef, undef, undef, undef, undef, undef, undef, undef, undef, undef, undef, undef, undef], defers := [] } W') ?fin ?main
          case fin =>
            intro B1 B2 W' q1 q2 hn12 hW' hB1 hB2
            have d0 := q1.cell (i := 0) rfl
            have d1 := q1.cell (i := 1) rfl
            have d2 := q1.cell (i := 2) rfl
            have f0 := q1.frozen 0
            have f1 := q1.frozen 1
            have f2 := q1.frozen 2
            have HF : Hid (Row (((W'.setCell ⟨B1, 0, none⟩ (.int .i64 (ls : Int))).setCell ⟨B1, 1, none⟩ (.int .u32 (lv : Int))).setCell ⟨B1, 2, none⟩ (.int .i64 (lx : Int))) B1 81 #[.int .i64 (ls : Int), .int .u32 (lv : Int), .int .i64 (lx : Int)] ∧ Row (((W'.setCell ⟨B1, 0, none⟩ (.int .i64 (ls : Int))).setCell ⟨B1, 1, none⟩ (.int .u32 (lv : Int))).setCell ⟨B1, 2, none⟩ (.int .i64 (lx : Int))) B2 81 #[.int .i64 0, .int .u32 0, .int .i64 0] ∧ Kept (fun q => q < wS.heap.size) wS (((W'.setCell ⟨B1, 0, none⟩ (.int .i64 (ls : Int))).setCell ⟨B1, 1, none⟩ (.int .u32 (lv : Int))).setCell ⟨B1, 2, none⟩ (.int .i64 (lx : Int)))) :=
              ⟨((q1.set 0 (.int .i64 (ls : Int))).set 1 (.int .u32 (lv : Int))).set 2 (.int .i64 (lx : Int)), q2.kept (S := fun q => q ≠ B1) ((((Kept.refl _ W').setCell (p := ⟨B1, 0, none⟩) (by simp) _).setCell (p := ⟨B1, 1, none⟩) (by simp) _).setCell (p := ⟨B1, 2, none⟩) (by simp) _) (fun e => hn12 e.symm), (((Kept.of_below hW' (fun _ h => h)).setCell (p := ⟨B1, 0, none⟩) (by show ¬ B1 < _; omega) _).setCell (p := ⟨B1, 1, none⟩) (by show ¬ B1 < _; omega) _).setCell (p := ⟨B1, 2, none⟩) (by show ¬ B1 < _; omega) _⟩
            clear q1 q2 hW'
            refine wpM_one 8 rfl (by kernel_rfl) rfl ?_
            go_wp2_with fail
            refine ⟨(fun h => by simp at h), ?_⟩
            clear d0 d1 d2 f0 f1 f2
            obtain ⟨W2, hW2⟩ : ∃ x, x = (((W'.setCell ⟨B1, 0, none⟩ (.int .i64 (ls : Int))).setCell ⟨B1, 1, none⟩ (.int .u32 (lv : Int))).setCell ⟨B1, 2, none⟩ (.int .i64 (lx : Int))) := ⟨_, rfl⟩
            rw [← hW2] at HF ⊢
            clear hW2
            obtain ⟨q1, q2, hW'⟩ := HF.out
            clear HF
            have d0 := q2.cell (i := 0) rfl
            have d1 := q2.cell (i := 1) rfl
            have d2 := q2.cell (i := 2) rfl
            have f0 := q2.frozen 0
            have f1 := q2.frozen 1
            have f2 := q2.frozen 2
            have HF : Hid (Row (((W2.setCell ⟨B2, 0, none⟩ (.int .i64 (ds : Int))).setCell ⟨B2, 1, none⟩ (.int .u32 (dv : Int))).setCell ⟨B2, 2, none⟩ (.int .i64 (dx : Int))) B1 81 #[.int .i64 (ls : Int), .int .u32 (lv : Int), .int .i64 (lx : Int)] ∧ Row (((W2.setCell ⟨B2, 0, none⟩ (.int .i64 (ds : Int))).setCell ⟨B2, 1, none⟩ (.int .u32 (dv : Int))).setCell ⟨B2, 2, none⟩ (.int .i64 (dx : Int))) B2 81 #[.int .i64 (ds : Int), .int .u32 (dv : Int), .int .i64 (dx : Int)] ∧ Below wS.heap.size wS (((W2.setCell ⟨B2, 0, none⟩ (.int .i64 (ds : Int))).setCell ⟨B2, 1, none⟩ (.int .u32 (dv : Int))).setCell ⟨B2, 2, none⟩ (.int .i64 (dx : Int)))) :=
              ⟨q1.kept (S := fun q => q ≠ B2) ((((Kept.refl _ W2).setCell (p := ⟨B2, 0, none⟩) (by simp) _).setCell (p := ⟨B2, 1, none⟩) (by simp) _).setCell (p := ⟨B2, 2, none⟩) (by simp) _) hn12, ((q2.set 0 (.int .i64 (ds : Int))).set 1 (.int .u32 (dv : Int))).set 2 (.int .i64 (dx : Int)), (((hW'.setCell (p := ⟨B2, 0, none⟩) (by show ¬ B2 < _; omega) _).setCell (p := ⟨B2, 1, none⟩) (by show ¬ B2 < _; omega) _).setCell (p := ⟨B2, 2, none⟩) (by show ¬ B2 < _; omega) _).below (fun _ h => h)⟩
            clear q1 q2 hW'
            refine wpM_one 9 rfl (by kernel_rfl) rfl ?_
            go_wp2_with fail
            refine ⟨(fun h => by simp at h), ?_⟩
            exact wpM_done (by kernel_rfl) ⟨B1, B2, rfl, HF.out.1, HF.out.2.1, hB1, hB2, HF.out.2.2⟩
          case main =>
            intro FIN
            have SwS : Below wS.heap.size wS wS.drew := (Below.refl _ wS).drew
            refine wpM_held 0 (v := ?_) rfl (by kernel_rfl) (by kernel_rfl) rfl (fun _ _ _ h => h) rfl (by intro wx hx; go_simp <;> rfl) SwS ?_
            refine wpM_held 1 (v := .int .i64 (ll : Int)) rfl (by kernel_rfl) (by kernel_rfl) rfl (fun _ _ _ h => h) rfl (by intro wx hx; have hc := (hx.cell (p := ⟨W.heap.size, 1, none⟩) hIX).trans j1; go_simp <;> rfl) SwS ?_
            refine wpM_held 3 (v := ?_) rfl (by kernel_rfl) (by kernel_rfl) rfl (fun _ _ _ h => h) rfl (by intro wx hx; go_simp <;> rfl) SwS ?_
            refine wpM_held 4 (v := .int .i64 (dd : Int)) rfl (by kernel_rfl) (by kernel_rfl) rfl (fun _ _ _ h => h) rfl (by intro wx hx; have hc := (hx.cell (p := ⟨W.heap.size, 2, none⟩) hIX).trans j2; go_simp <;> rfl) SwS ?_
            generalize wS.drew = wSd at SwS ⊢
            have zwSd : wS.heap.size ≤ wSd.heap.size := SwS.size
            have SwSd := SwS
            clear SwS
            refine wpM_three 2 6 7 rfl rfl rfl (by kernel_rfl) rfl rfl rfl ?_ ?_ ?_
            · go_wp2_with fail
              refine (HLn.out _).mono ?_
              rintro e w101 ⟨rfl, hbw101⟩
              have Sw101 : Below wS.heap.size wS w101 := SwSd.trans (hbw101.mono SwSd.size)
              have zw101 : wSd.heap.size ≤ w101.heap.size := hbw101.size
              go_wp2_with fail
              refine ⟨fun _ => Sw101, ?_⟩
              refine wpM_three 5 6 7 rfl rfl rfl (by kernel_rfl) rfl rfl rfl ?_ ?_ ?_
              · go_wp2_with fail
                refine (HDs.out _).mono ?_
                rintro e w102 ⟨rfl, hbw102⟩
                have Sw102 : Below wS.heap.size wS w102 := Sw101.trans (hbw102.mono Sw101.size)
                have zw102 : w101.heap.size ≤ w102.heap.size := hbw102.size
                go_wp2_with fail
                refine ⟨fun _ => Sw102, ?_⟩
                refine wpM_two 6 7 rfl rfl (by kernel_rfl) rfl rfl ?_ ?_
                · obtain ⟨w103, hw103⟩ : ∃ x, x = w102.alloc (.cells #[.int .i64 0, .int .u32 0, .int .i64 0] 81) := ⟨_, rfl⟩
                  have Sw103 : Below wS.heap.size wS w103 := by rw [hw103]; exact Sw102.alloc Sw102.size _
                  have zw103 : w102.heap.size < w103.heap.size := by rw [hw103]; simp
                  have r10w103 : Row w103 w102.heap.size 81 #[.int .i64 0, .int .u32 0, .int .i64 0] := by rw [hw103]; exact Row.new w102 81 _
                  go_wp2_with fail
                  rw [← hw103]
                  clear hw103
                  refine ⟨fun _ => Sw103, ?_⟩
                  refine wpM_one 7 rfl (by kernel_rfl) rfl ?_
                  obtain ⟨w104, hw104⟩ : ∃ x, x = w103.alloc (.cells #[.int .i64 0, .int .u32 0, .int .i64 0] 81) := ⟨_, rfl⟩
                  have Sw104 : Below wS.heap.size wS w104 := by rw [hw104]; exact Sw103.alloc Sw103.size _
                  have zw104 : w103.heap.size < w104.heap.size := by rw [hw104]; simp
                  have r11w104 : Row w104 w103.heap.size 81 #[.int .i64 0, .int .u32 0, .int .i64 0] := by rw [hw104]; exact Row.new w103 81 _
                  have r10w104 : Row w104 w102.heap.size 81 #[.int .i64 0, .int .u32 0, .int .i64 0] := by rw [hw104]; exact r10w103.alloc _
                  go_wp2_with fail
                  rw [← hw104]
                  clear hw104
                  refine ⟨fun _ => Sw104, ?_⟩
                  exact FIN w102.heap.size w103.heap.size w104 r10w104 r11w104 (by omega) Sw104 (by have := Sw102.size; omega) (by have := Sw103.size; omega)
                · obtain ⟨w105, hw105⟩ : ∃ x, x = w102.alloc (.cells #[.int .i64 0, .int .u32 0, .int .i64 0] 81) := ⟨_, rfl⟩
                  have Sw105 : Below wS.heap.size wS w105 := by rw [hw105]; exact Sw102.alloc Sw102.size _
                  have zw105 : w102.heap.size < w105.heap.size := by rw [hw105]; simp
                  have r11w105 : Row w105 w102.heap.size 81 #[.int .i64 0, .int .u32 0, .int .i64 0] := by rw [hw105]; exact Row.new w102 81 _
                  go_wp2_with fail
                  rw [← hw105]
                  clear hw105
                  refine ⟨fun _ => Sw105, ?_⟩
                  refine wpM_one 6 rfl (by kernel_rfl) rfl ?_
                  obtain ⟨w106, hw106⟩ : ∃ x, x = w105.alloc (.cells #[.int .i64 0, .int .u32 0, .int .i64 0] 81) := ⟨_, rfl⟩
                  have Sw106 : Below wS.heap.size wS w106 := by rw [hw106]; exact Sw105.alloc Sw105.size _
                  have zw106 : w105.heap.size < w106.heap.size := by rw [hw106]; simp
                  have r10w106 : Row w106 w105.heap.size 81 #[.int .i64 0, .int .u32 0, .int .i64 0] := by rw [hw106]; exact Row.new w105 81 _
                  have r11w106 : Row w106 w102.heap.size 81 #[.int .i64 0, .int .u32 0, .int .i64 0] := by rw [hw106]; exact r11w105.alloc _
                  go_wp2_with fail
                  rw [← hw106]
                  clear hw106
                  refine ⟨fun _ => Sw106, ?_⟩
                  exact FIN w105.heap.size w102.heap.size w106 r10w106 r11w106 (by omega) Sw106 (by have := Sw105.size; omega) (by have := Sw102.size; omega)
              · obtain ⟨w107, hw107⟩ : ∃ x, x = w101.alloc (.cells #[.int .i64 0, .int .u32 0, .int .i64 0] 81) := ⟨_, rfl⟩
                have Sw107 : Below wS.heap.size wS w107 := by rw [hw107]; exact Sw101.alloc Sw101.size _
                have zw107 : w101.heap.size < w107.heap.size := by rw [hw107]; simp
                have r10w107 : Row w107 w101.heap.size 81 #[.int .i64 0, .int .u32 0, .int .i64 0] := by rw [hw107]; exact Row.new w101 81 _
                go_wp2_with fail
                rw [← hw107]
                clear hw107
                refine ⟨fun _ => Sw107, ?_⟩
                refine wpM_two 5 7 rfl rfl (by kernel_rfl) rfl rfl ?_ ?_
                · go_wp2_with fail
                  refine (HDs.out _).mono ?_
                  rintro e w108 ⟨rfl, hbw108⟩
                  have Sw108 : Below wS.heap.size wS w108 := Sw107.trans (hbw108.mono Sw107.size)
                  have zw108 : w107.heap.size ≤ w108.heap.size := hbw108.size
                  have r10w108 := r10w107.below hbw108 r10w107.lt
                  go_wp2_with fail
                  refine ⟨fun _ => Sw108, ?_⟩
                  refine wpM_one 7 rfl (by kernel_rfl) rfl ?_
                  obtain ⟨w109, hw109⟩ : ∃ x, x = w108.alloc (.cells #[.int .i64 0, .int .u32 0, .int .i64 0] 81) := ⟨_, rfl⟩
                  have Sw109 : Below wS.heap.size wS w109 := by rw [hw109]; exact Sw108.alloc Sw108.size _
                  have zw109 : w108.heap.size < w109.heap.size := by rw [hw109]; simp
                  have r11w109 : Row w109 w108.heap.size 81 #[.int .i64 0, .int .u32 0, .int .i64 0] := by rw [hw109]; exact Row.new w108 81 _
                  have r10w109 : Row w109 w101.heap.size 81 #[.int .i64 0, .int .u32 0, .int .i64 0] := by rw [hw109]; exact r10w108.alloc _
                  go_wp2_with fail
                  rw [← hw109]
                  clear hw109
                  refine ⟨fun _ => Sw109, ?_⟩
                  exact FIN w101.heap.size w108.heap.size w109 r10w109 r11w109 (by omega) Sw109 (by have := Sw101.size; omega) (by have := Sw108.size; omega)
                · obtain ⟨w110, hw110⟩ : ∃ x, x = w107.alloc (.cells #[.int .i64 0, .int .u32 0, .int .i64 0] 81) := ⟨_, rfl⟩
                  have Sw110 : Below wS.heap.size wS w110 := by rw [hw110]; exact Sw107.alloc Sw107.size _
                  have zw110 : w107.heap.size < w110.heap.size := by rw [hw110]; simp
                  have r11w110 : Row w110 w107.heap.size 81 #[.int .i64 0, .int .u32 0, .int .i64 0] := by rw [hw110]; exact Row.new w107 81 _
                  have r10w110 : Row w110 w101.heap.size 81 #[.int .i64 0, .int .u32 0, .int .i64 0] := by rw [hw110]; exact r10w107.alloc _
                  go_wp2_with fail
                  rw [← hw110]
                  clear hw110
                  refine ⟨fun _ => Sw110, ?_⟩
                  refine wpM_one 5 rfl (by kernel_rfl) rfl ?_
                  go_wp2_with fail
                  refine (HDs.out _).mono ?_
                  rintro e w111 ⟨rfl, hbw111⟩
                  have Sw111 : Below wS.heap.size wS w111 := Sw110.trans (hbw111.mono Sw110.size)
                  have zw111 : w110.heap.size ≤ w111.heap.size := hbw111.size
                  have r10w111 := r10w110.below hbw111 r10w110.lt
                  have r11w111 := r11w110.below hbw111 r11w110.lt
                  go_wp2_with fail
                  refine ⟨fun _ => Sw111, ?_⟩
                  exact FIN w101.heap.size w107.heap.size w111 r10w111 r11w111 (by omega) Sw111 (by have := Sw101.size; omega) (by have := Sw107.size; omega)
              · obtain ⟨w112, hw112⟩ : ∃ x, x = w101.alloc (.cells #[.int .i64 0, .int .u32 0, .int .i64 0] 81) := ⟨_, rfl⟩
                have Sw112 : Below wS.heap.size wS w112 := by rw [hw112]; exact Sw101.alloc Sw101.size _
                have zw112 : w101.heap.size < w112.heap.size := by rw [hw112]; simp
                have r11w112 : Row w112 w101.heap.size 81 #[.int .i64 0, .int .u32 0, .int .i64 0] := by rw [hw112]; exact Row.new w101 81 _
                go_wp2_with fail
                rw [← hw112]
                clear hw112
                refine ⟨fun _ => Sw112, ?_⟩
                refine wpM_two 5 6 rfl rfl (by kernel_rfl) rfl rfl ?_ ?_
                · go_wp2_with fail
                  refine (HDs.out _).mono ?_
                  rintro e w113 ⟨rfl, hbw113⟩
                  have Sw113 : Below wS.heap.size wS w113 := Sw112.trans (hbw113.mono Sw112.size)
                  have zw113 : w112.heap.size ≤ w113.heap.size := hbw113.size
                  have r11w113 := r11w112.below hbw113 r11w112.lt
                  go_wp2_with fail
                  refine ⟨fun _ => Sw113, ?_⟩
                  refine wpM_one 6 rfl (by kernel_rfl) rfl ?_
                  obtain ⟨w114, hw114⟩ : ∃ x, x = w113.alloc (.cells #[.int .i64 0, .int .u32 0, .int .i64 0] 81) := ⟨_, rfl⟩
                  have Sw114 : Below wS.heap.size wS w114 := by rw [hw114]; exact Sw113.alloc Sw113.size _
                  have zw114 : w113.heap.size < w114.heap.size := by rw [hw114]; simp
                  have r10w114 : Row w114 w113.heap.size 81 #[.int .i64 0, .int .u32 0, .int .i64 0] := by rw [hw114]; exact Row.new w113 81 _
                  have r11w114 : Row w114 w101.heap.size 81 #[.int .i64 0, .int .u32 0, .int .i64 0] := by rw [hw114]; exact r11w113.alloc _
                  go_wp2_with fail
                  rw [← hw114]
                  clear hw114
                  refine ⟨fun _ => Sw114, ?_⟩
                  exact FIN w113.heap.size w101.heap.size w114 r10w114 r11w114 (by omega) Sw114 (by have := Sw113.size; omega) (by have := Sw101.size; omega)
                · obtain ⟨w115, hw115⟩ : ∃ x, x = w112.alloc (.cells #[.int .i64 0, .int .u32 0, .int .i64 0] 81) := ⟨_, rfl⟩
                  have Sw115 : Below wS.heap.size wS w115 := by rw [hw115]; exact Sw112.alloc Sw112.size _
                  have zw115 : w112.heap.size < w115.heap.size := by rw [hw115]; simp
                  have r10w115 : Row w115 w112.heap.size 81 #[.int .i64 0, .int .u32 0, .int .i64 0] := by rw [hw115]; exact Row.new w112 81 _
                  have r11w115 : Row w115 w101.heap.size 81 #[.int .i64 0, .int .u32 0, .int .i64 0] := by rw [hw115]; exact r11w112.alloc _
                  go_wp2_with fail
                  rw [← hw115]
                  clear hw115
                  refine ⟨fun _ => Sw115, ?_⟩
                  refine wpM_one 5 rfl (by kernel_rfl) rfl ?_
                  go_wp2_with fail
                  refine (HDs.out _).mono ?_
                  rintro e w116 ⟨rfl, hbw116⟩
                  have Sw116 : Below wS.heap.size wS w116 := Sw115.trans (hbw116.mono Sw115.size)
                  have zw116 : w115.heap.size ≤ w116.heap.size := hbw116.size
                  have r10w116 := r10w115.below hbw116 r10w115.lt
                  have r11w116 := r11w115.below hbw116 r11w115.lt
                  go_wp2_with fail
                  refine ⟨fun _ => Sw116, ?_⟩
                  exact FIN w112.heap.size w101.heap.size w116 r10w116 r11w116 (by omega) Sw116 (by have := Sw112.size; omega) (by have := Sw101.size; omega)
            · obtain ⟨w117, hw117⟩ : ∃ x, x = wSd.alloc (.cells #[.int .i64 0, .int .u32 0, .int .i64 0] 81) := ⟨_, rfl⟩
              have Sw117 : Below wS.heap.size wS w117 := by rw [hw117]; exact SwSd.alloc SwSd.size _
              have zw117 : wSd.heap.size < w117.heap.size := by rw [hw117]; simp
              have r10w117 : Row w117 wSd.heap.size 81 #[.int .i64 0, .int .u32 0, .int .i64 0] := by rw [hw117]; exact Row.new wSd 81 _
              go_wp2_with fail
              rw [← hw117]
              clear hw117
              refine ⟨fun _ => Sw117, ?_⟩
              refine wpM_two 2 7 rfl rfl (by kernel_rfl) rfl rfl ?_ ?_
              · go_wp2_with fail
                refine (HLn.out _).mono ?_
                rintro e w118 ⟨rfl, hbw118⟩
                have Sw118 : Below wS.heap.size wS w118 := Sw117.trans (hbw118.mono Sw117.size)
                have zw118 : w117.heap.size ≤ w118.heap.size := hbw118.size
                have r10w118 := r10w117.below hbw118 r10w117.lt
                go_wp2_with fail
                refine ⟨fun _ => Sw118, ?_⟩
                refine wpM_two 5 7 rfl rfl (by kernel_rfl) rfl rfl ?_ ?_
                · go_wp2_with fail
                  refine (HDs.out _).mono ?_
                  rintro e w119 ⟨rfl, hbw119⟩
                  have Sw119 : Below wS.heap.size wS w119 := Sw118.trans (hbw119.mono Sw118.size)
                  have zw119 : w118.heap.size ≤ w119.heap.size := hbw119.size
                  have r10w119 := r10w118.below hbw119 r10w118.lt
                  go_wp2_with fail
                  refine ⟨fun _ => Sw119, ?_⟩
                  refine wpM_one 7 rfl (by kernel_rfl) rfl ?_
                  obtain ⟨w120, hw120⟩ : ∃ x, x = w119.alloc (.cells #[.int .i64 0, .int .u32 0, .int .i64 0] 81) := ⟨_, rfl⟩
                  have Sw120 : Below wS.heap.size wS w120 := by rw [hw120]; exact Sw119.alloc Sw119.size _
                  have zw120 : w119.heap.size < w120.heap.size := by rw [hw120]; simp
                  have r11w120 : Row w120 w119.heap.size 81 #[.int .i64 0, .int .u32 0, .int .i64 0] := by rw [hw120]; exact Row.new w119 81 _
                  have r10w120 : Row w120 wSd.heap.size 81 #[.int .i64 0, .int .u32 0, .int .i64 0] := by rw [hw120]; exact r10w119.alloc _
                  go_wp2_with fail
                  rw [← hw120]
                  clear hw120
                  refine ⟨fun _ => Sw120, ?_⟩
                  exact FIN wSd.heap.size w119.heap.size w120 r10w120 r11w120 (by omega) Sw120 (by have := SwSd.size; omega) (by have := Sw119.size; omega)
                · obtain ⟨w121, hw121⟩ : ∃ x, x = w118.alloc (.cells #[.int .i64 0, .int .u32 0, .int .i64 0] 81) := ⟨_, rfl⟩
                  have Sw121 : Below wS.heap.size wS w121 := by rw [hw121]; exact Sw118.alloc Sw118.size _
                  have zw121 : w118.heap.size < w121.heap.size := by rw [hw121]; simp
                  have r11w121 : Row w121 w118.heap.size 81 #[.int .i64 0, .int .u32 0, .int .i64 0] := by rw [hw121]; exact Row.new w118 81 _
                  have r10w121 : Row w121 wSd.heap.size 81 #[.int .i64 0, .int .u32 0, .int .i64 0] := by rw [hw121]; exact r10w118.alloc _
                  go_wp2_with fail
                  rw [← hw121]
                  clear hw121
                  refine ⟨fun _ => Sw121, ?_⟩
                  refine wpM_one 5 rfl (by kernel_rfl) rfl ?_
                  go_wp2_with fail
                  refine (HDs.out _).mono ?_
                  rintro e w122 ⟨rfl, hbw122⟩
                  have Sw122 : Below wS.heap.size wS w122 := Sw121.trans (hbw122.mono Sw121.size)
                  have zw122 : w121.heap.size ≤ w122.heap.size := hbw122.size
                  have r10w122 := r10w121.below hbw122 r10w121.lt
                  have r11w122 := r11w121.below hbw122 r11w121.lt
                  go_wp2_with fail
                  refine ⟨fun _ => Sw122, ?_⟩
                  exact FIN wSd.heap.size w118.heap.size w122 r10w122 r11w122 (by omega) Sw122 (by have := SwSd.size; omega) (by have := Sw118.size; omega)
              · obtain ⟨w123, hw123⟩ : ∃ x, x = w117.alloc (.cells #[.int .i64 0, .int .u32 0, .int .i64 0] 81) := ⟨_, rfl⟩
                have Sw123 : Below wS.heap.size wS w123 := by rw [hw123]; exact Sw117.alloc Sw117.size _
                have zw123 : w117.heap.size < w123.heap.size := by rw [hw123]; simp
                have r11w123 : Row w123 w117.heap.size 81 #[.int .i64 0, .int .u32 0, .int .i64 0] := by rw [hw123]; exact Row.new w117 81 _
                have r10w123 : Row w123 wSd.heap.size 81 #[.int .i64 0, .int .u32 0, .int .i64 0] := by rw [hw123]; exact r10w117.alloc _
                go_wp2_with fail
                rw [← hw123]
                clear hw123
                refine ⟨fun _ => Sw123, ?_⟩
                refine wpM_one 2 rfl (by kernel_rfl) rfl ?_
                go_wp2_with fail
                refine (HLn.out _).mono ?_
                rintro e w124 ⟨rfl, hbw124⟩
                have Sw124 : Below wS.heap.size wS w124 := Sw123.trans (hbw124.mono Sw123.size)
                have zw124 : w123.heap.size ≤ w124.heap.size := hbw124.size
                have r10w124 := r10w123.below hbw124 r10w123.lt
                have r11w124 := r11w123.below hbw124 r11w123.lt
                go_wp2_with fail
                refine ⟨fun _ => Sw124, ?_⟩
                refine wpM_one 5 rfl (by kernel_rfl) rfl ?_
                go_wp2_with fail
                refine (HDs.out _).mono ?_
                rintro e w125 ⟨rfl, hbw125⟩
                have Sw125 : Below wS.heap.size wS w125 := Sw124.trans (hbw125.mono Sw124.size)
                have zw125 : w124.heap.size ≤ w125.heap.size := hbw125.size
                have r10w125 := r10w124.below hbw125 r10w124.lt
                have r11w125 := r11w124.below hbw125 r11w124.lt
                go_wp2_with fail
                refine ⟨fun _ => Sw125, ?_⟩
                exact FIN wSd.heap.size w117.heap.size w125 r10w125 r11w125 (by omega) Sw125 (by have := SwSd.size; omega) (by have := Sw117.size; omega)
            · obtain ⟨w126, hw126⟩ : ∃ x, x = wSd.alloc (.cells #[.int .i64 0, .int .u32 0, .int .i64 0] 81) := ⟨_, rfl⟩
              have Sw126 : Below wS.heap.size wS w126 := by rw [hw126]; exact SwSd.alloc SwSd.size _
              have zw126 : wSd.heap.size < w126.heap.size := by rw [hw126]; simp
              have r11w126 : Row w126 wSd.heap.size 81 #[.int .i64 0, .int .u32 0, .int .i64 0] := by rw [hw126]; exact Row.new wSd 81 _
              go_wp2_with fail
              rw [← hw126]
              clear hw126
              refine ⟨fun _ => Sw126, ?_⟩
              refine wpM_two 2 6 rfl rfl (by kernel_rfl) rfl rfl ?_ ?_
              · go_wp2_with fail
                refine (HLn.out _).mono ?_
                rintro e w127 ⟨rfl, hbw127⟩
                have Sw127 : Below wS.heap.size wS w127 := Sw126.trans (hbw127.mono Sw126.size)
                have zw127 : w126.heap.size ≤ w127.heap.size := hbw127.size
                have r11w127 := r11w126.below hbw127 r11w126.lt
                go_wp2_with fail
                refine ⟨fun _ => Sw127, ?_⟩
                refine wpM_two 5 6 rfl rfl (by kernel_rfl) rfl rfl ?_ ?_
                · go_wp2_with fail
                  refine (HDs.out _).mono ?_
                  rintro e w128 ⟨rfl, hbw128⟩
                  have Sw128 : Below wS.heap.size wS w128 := Sw127.trans (hbw128.mono Sw127.size)
                  have zw128 : w127.heap.size ≤ w128.heap.size := hbw128.size
                  have r11w128 := r11w127.below hbw128 r11w127.lt
                  go_wp2_with fail
                  refine ⟨fun _ => Sw128, ?_⟩
                  refine wpM_one 6 rfl (by kernel_rfl) rfl ?_
                  obtain ⟨w129, hw129⟩ : ∃ x, x = w128.alloc (.cells #[.int .i64 0, .int .u32 0, .int .i64 0] 81) := ⟨_, rfl⟩
                  have Sw129 : Below wS.heap.size wS w129 := by rw [hw129]; exact Sw128.alloc Sw128.size _
                  have zw129 : w128.heap.size < w129.heap.size := by rw [hw129]; simp
                  have r10w129 : Row w129 w128.heap.size 81 #[.int .i64 0, .int .u32 0, .int .i64 0] := by rw [hw129]; exact Row.new w128 81 _
                  have r11w129 : Row w129 wSd.heap.size 81 #[.int .i64 0, .int .u32 0, .int .i64 0] := by rw [hw129]; exact r11w128.alloc _
                  go_wp2_with fail
                  rw [← hw129]
                  clear hw129
                  refine ⟨fun _ => Sw129, ?_⟩
                  exact FIN w128.heap.size wSd.heap.size w129 r10w129 r11w129 (by omega) Sw129 (by have := Sw128.size; omega) (by have := SwSd.size; omega)
                · obtain ⟨w130, hw130⟩ : ∃ x, x = w127.alloc (.cells #[.int .i64 0, .int .u32 0, .int .i64 0] 81) := ⟨_, rfl⟩
                  have Sw130 : Below wS.heap.size wS w130 := by rw [hw130]; exact Sw127.alloc Sw127.size _
                  have zw130 : w127.heap.size < w130.heap.size := by rw [hw130]; simp
                  have r10w130 : Row w130 w127.heap.size 81 #[.int .i64 0, .int .u32 0, .int .i64 0] := by rw [hw130]; exact Row.new w127 81 _
                  have r11w130 : Row w130 wSd.heap.size 81 #[.int .i64 0, .int .u32 0, .int .i64 0] := by rw [hw130]; exact r11w127.alloc _
                  go_wp2_with fail
                  rw [← hw130]
                  clear hw130
                  refine ⟨fun _ => Sw130, ?_⟩
                  refine wpM_one 5 rfl (by kernel_rfl) rfl ?_
                  go_wp2_with fail
                  refine (HDs.out _).mono ?_
                  rintro e w131 ⟨rfl, hbw131⟩
                  have Sw131 : Below wS.heap.size wS w131 := Sw130.trans (hbw131.mono Sw130.size)
                  have zw131 : w130.heap.size ≤ w131.heap.size := hbw131.size
                  have r10w131 := r10w130.below hbw131 r10w130.lt
                  have r11w131 := r11w130.below hbw131 r11w130.lt
                  go_wp2_with fail
                  refine ⟨fun _ => Sw131, ?_⟩
                  exact FIN w127.heap.size wSd.heap.size w131 r10w131 r11w131 (by omega) Sw131 (by have := Sw127.size; omega) (by have := SwSd.size; omega)
              · obtain ⟨w132, hw132⟩ : ∃ x, x = w126.alloc (.cells #[.int .i64 0, .int .u32 0, .int .i64 0] 81) := ⟨_, rfl⟩
                have Sw132 : Below wS.heap.size wS w132 := by rw [hw132]; exact Sw126.alloc Sw126.size _
                have zw132 : w126.heap.size < w132.heap.size := by rw [hw132]; simp
                have r10w132 : Row w132 w126.heap.size 81 #[.int .i64 0, .int .u32 0, .int .i64 0] := by rw [hw132]; exact Row.new w126 81 _
                have r11w132 : Row w132 wSd.heap.size 81 #[.int .i64 0, .int .u32 0, .int .i64 0] := by rw [hw132]; exact r11w126.alloc _
                go_wp2_with fail
                rw [← hw132]
                clear hw132
                refine ⟨fun _ => Sw132, ?_⟩
                refine wpM_one 2 rfl (by kernel_rfl) rfl ?_
                go_wp2_with fail
                refine (HLn.out _).mono ?_
                rintro e w133 ⟨rfl, hbw133⟩
                have Sw133 : Below wS.heap.size wS w133 := Sw132.trans (hbw133.mono Sw132.size)
                have zw133 : w132.heap.size ≤ w133.heap.size := hbw133.size
                have r10w133 := r10w132.below hbw133 r10w132.lt
                have r11w133 := r11w132.below hbw133 r11w132.lt
                go_wp2_with fail
                refine ⟨fun _ => Sw133, ?_⟩
                refine wpM_one 5 rfl (by kernel_rfl) rfl ?_
                go_wp2_with fail
                refine (HDs.out _).mono ?_
                rintro e w134 ⟨rfl, hbw134⟩
                have Sw134 : Below wS.heap.size wS w134 := Sw133.trans (hbw134.mono Sw133.size)
                have zw134 : w133.heap.size ≤ w134.heap.size := hbw134.size
                have r10w134 := r10w133.below hbw134 r10w133.lt
                have r11w134 := r11w133.below hbw134 r11w133.lt
                go_wp2_with fail
                refine ⟨fun _ => Sw134, ?_⟩
                exact FIN w126.heap.size wSd.heap.size w134 r10w134 r11w134 (by omega) Sw134 (by have := Sw126.size; omega) (by have := SwSd.size; omega)
        case rest8 =>
          intro e a' X8 hq8
          cases e <;> simp only [regEx] at hq8
          obtain ⟨B1, B2, rfl, q1, q2, hB1, hB2, hbX⟩ := hq8
          have hlsl : ls < 286 := by have := HEls.out; have := (lenI_ok ll l3 l258).2.1; omega
          have hdsl : ds < 30 := by have := HEds.out; have := (distI_ok dd d1 d32).2.1; omega
          have hlx : lx ≤ 32 := by have := (lenF_ok ll l3 l258).2; rw [HElf.out] at this; exact this
          have hdx : dx ≤ 32 := by have := (dstF_ok dd d1 d32).2; rw [HEdf.out] at this; exact this
          have rKX8 := rKX.below hbX rKX.lt
          have rKBX8 := rKBX.below hbX rKBX.lt
          have rLBX8 := rLBX.below hbX rLBX.lt
          have rDBX8 := rDBX.below hbX rDBX.lt
          have lLB := rLBX.lt
          have lDB := rDBX.lt
          have lKX := rKX.lt
          have lKB := rKBX.lt
          have hnO : (Value.slice g' (pre.length + 1) c').ownBlock ≠ some LB := row_ne oX rLBX (by decide)
          have hnO2 : (Value.slice g' (pre.length + 1) c').ownBlock ≠ some DB := row_ne oX rDBX (by decide)
          have oX8 := owns_kept (S := fun k => k < wS.heap.size) oX (Kept.of_below hbX (fun _ h => h)) (fun k hk => (oX.lt k hk).2)
          have kX8 : Kept (fun k => k < V.heap.size ∧ ¬ (k = K ∨ k = LB ∨ k = DB ∨ (Value.slice gu pre.length cu).ownBlock = some k)) V X8 := kX.trans (Kept.of_below hbX (fun k h => by have := kX.size; omega))
          have hkoX8 : KeepsOthers V X8 := hkoX.trans ⟨hbX.size, fun k o hk _ => (hbX.block k (Array.getElem?_eq_some_iff.1 hk).1).trans hk⟩
          have b10 := q1.cell (i := 0) rfl
          clear rKX rKBX rLBX rDBX rIX oX kX hkoX j0 j1 j2 HLn HDs hbX
          have cAX8 := rKBX8.cell (i := 0) rfl
          have cBX8 := rKX8.cell (i := 3) rfl
          have cRX8 := row_int_cell rLBX8 ls (by have := fllen; omega)
          have fRX8 := rLBX8.frozen ls
          have upX8 := flup' ls
          have HNX8 : Hid (Row ((X8.setCell ⟨LB, ls, none⟩ (.int .i64 (fl[ls]?.getD 0 + 1))).drew) LB 3 ((addAt fl ls 1).map (Value.int .i64)).toArray ∧ Kept (fun k => k ≠ LB) X8 ((X8.setCell ⟨LB, ls, none⟩ (.int .i64 (fl[ls]?.getD 0 + 1))).drew) ∧ KeepsOthers X8 ((X8.setCell ⟨LB, ls, none⟩ (.int .i64 (fl[ls]?.getD 0 + 1))).drew)) := ⟨row_set_int (W := X8) rLBX8 ls _, ((Kept.refl _ X8).setCell (p := ⟨LB, ls, none⟩) (by simp) _).drew, (KeepsOthers.setCell X8 _ _).trans (KeepsOthers.drew _)⟩
          generalize fl[ls]?.getD 0 = fvX8 at cRX8 upX8 HNX8
          have hwX8 : IntKind.i64.wrap (fvX8 + 1) = fvX8 + 1 := by simp [IntKind.wrap, IntKind.bits, IntKind.signed]; omega
          have tX8 : ((ls : Nat) : Int) < 286 := by have := fllen; omega
          gi_wp2_with fail
          refine wpIn_region_Mr (fun wx : World => wx = X8.drew) (fun j => decide (j < 10)) 11 rfl (by kernel_rfl) (by kernel_rfl) (fun _ _ h => h) ?_
          have HDX8 : X8.drew = X8.drew := rfl
          refine wpM_held 0 (v := .pointer (some ⟨K, 0, none⟩)) rfl (by kernel_rfl) (by kernel_rfl) rfl (fun _ _ _ h => h) rfl (by rintro wx rfl; go_simp <;> rfl) HDX8 ?_
          refine wpM_held 1 (v := .pointer (some ⟨K, 0, none⟩)) rfl (by kernel_rfl) (by kernel_rfl) rfl (fun _ _ _ h => h) rfl (by rintro wx rfl; go_simp <;> rfl) HDX8 ?_
          refine wpM_held 2 (v := .pointer (some ⟨K, 3, none⟩)) rfl (by kernel_rfl) (by kernel_rfl) rfl (fun _ _ _ h => h) rfl (by rintro wx rfl; go_simp <;> rfl) HDX8 ?_
          refine wpM_held 3 (v := .slice (some ⟨LB, 0, none⟩) 286 286) rfl (by kernel_rfl) (by kernel_rfl) rfl (fun _ _ _ h => h) rfl (by rintro wx rfl; go_simp <;> rfl) HDX8 ?_
          refine wpM_held 4 (v := .pointer (some ⟨B1, 0, none⟩)) rfl (by kernel_rfl) (by kernel_rfl) rfl (fun _ _ _ h => h) rfl (by rintro wx rfl; go_simp <;> rfl) HDX8 ?_
          refine wpM_held 5 (v := .int .i64 (ls : Int)) rfl (by kernel_rfl) (by kernel_rfl) rfl (fun _ _ _ h => h) rfl (by rintro wx rfl; go_simp <;> rfl) HDX8 ?_
          refine wpM_held 6 (v := .pointer (some ⟨LB, ls, none⟩)) rfl (by kernel_rfl) (by kernel_rfl) rfl (fun _ _ _ h => h) rfl (by rintro wx rfl; go_simp <;> rfl) HDX8 ?_
          refine wpM_held 7 (v := .int .i64 fvX8) rfl (by kernel_rfl) (by kernel_rfl) rfl (fun _ _ _ h => h) rfl (by rintro wx rfl; go_simp <;> rfl) HDX8 ?_
          refine wpM_one 8 rfl (by kernel_rfl) rfl ?_
          go_wp2_with fail
          refine ⟨fun _ => rfl, ?_⟩
          refine wpM_one 9 rfl (by kernel_rfl) rfl ?_
          go_wp2_with fail
          refine ⟨fun _ => rfl, ?_⟩
          refine wpM_one 10 rfl (by kernel_rfl) rfl ?_
          go_wp2_with fail
          refine ⟨(fun h => by simp at h), ?_⟩
          refine wpM_done (by kernel_rfl) ?_
          obtain ⟨Y8, hY8⟩ : ∃ wx, (X8.setCell ⟨LB, ls, none⟩ (.int .i64 (fvX8 + 1))).drew = wx := ⟨_, rfl⟩
          rw [hY8] at HNX8 ⊢
          clear hY8 cAX8 cBX8 cRX8 fRX8 upX8 hwX8 HDX8
          obtain ⟨rLBY8, kqY8, koY8⟩ := HNX8.out
          clear HNX8

          have rKY8 := rKX8.kept kqY8 (show K ≠ LB by omega)
          have rKBY8 := rKBX8.kept kqY8 (show w.heap.size ≠ LB by omega)
          have rDBY8 := rDBX8.kept kqY8 (fun e => hne e.symm)
          have p1 := q1.kept kqY8 (show B1 ≠ LB by omega)
          have p2 := q2.kept kqY8 (show B2 ≠ LB by omega)
          have b20 := p2.cell (i := 0) rfl
          have oY8 := owns_kept oX8 kqY8 (fun k hk e => hnO (e ▸ hk))
          have kY8 := kX8.trans (kqY8.mono (fun k h e => h.2 (.inr (.inl e))))
          have hkoY8 := hkoX8.trans koY8
          clear rKX8 rKBX8 rLBX8 rDBX8 q1 q2 b10 oX8 kX8 hkoX8 kqY8 koY8
          have cAY8 := rKBY8.cell (i := 0) rfl
          have cBY8 := rKY8.cell (i := 4) rfl
          have cRY8 := row_int_cell rDBY8 ds (by have := fdlen; omega)
          have fRY8 := rDBY8.frozen ds
          have upY8 := fdup' ds
          have HNY8 : Hid (Row ((Y8.setCell ⟨DB, ds, none⟩ (.int .i64 (fd[ds]?.getD 0 + 1))).drew) DB 3 ((addAt fd ds 1).map (Value.int .i64)).toArray ∧ Kept (fun k => k ≠ DB) Y8 ((Y8.setCell ⟨DB, ds, none⟩ (.int .i64 (fd[ds]?.getD 0 + 1))).drew) ∧ KeepsOthers Y8 ((Y8.setCell ⟨DB, ds, none⟩ (.int .i64 (fd[ds]?.getD 0 + 1))).drew)) := ⟨row_set_int (W := Y8) rDBY8 ds _, ((Kept.refl _ Y8).setCell (p := ⟨DB, ds, none⟩) (by simp) _).drew, (KeepsOthers.setCell Y8 _ _).trans (KeepsOthers.drew _)⟩
          generalize fd[ds]?.getD 0 = fvY8 at cRY8 upY8 HNY8
          have hwY8 : IntKind.i64.wrap (fvY8 + 1) = fvY8 + 1 := by simp [IntKind.wrap, IntKind.bits, IntKind.signed]; omega
          have tY8 : ((ds : Nat) : Int) < 30 := by have := fdlen; omega
          gi_wp2_with fail
          refine wpIn_region_Mr (fun wx : World => wx = Y8.drew) (fun j => decide (j < 10)) 11 rfl (by kernel_rfl) (by kernel_rfl) (fun _ _ h => h) ?_
          have HDY8 : Y8.drew = Y8.drew := rfl
          refine wpM_held 0 (v := .pointer (some ⟨K, 0, none⟩)) rfl (by kernel_rfl) (by kernel_rfl) rfl (fun _ _ _ h => h) rfl (by rintro wx rfl; go_simp <;> rfl) HDY8 ?_
          refine wpM_held 1 (v := .pointer (some ⟨K, 0, none⟩)) rfl (by kernel_rfl) (by kernel_rfl) rfl (fun _ _ _ h => h) rfl (by rintro wx rfl; go_simp <;> rfl) HDY8 ?_
          refine wpM_held 2 (v := .pointer (some ⟨K, 4, none⟩)) rfl (by kernel_rfl) (by kernel_rfl) rfl (fun _ _ _ h => h) rfl (by rintro wx rfl; go_simp <;> rfl) HDY8 ?_
          refine wpM_held 3 (v := .slice (some ⟨DB, 0, none⟩) 30 30) rfl (by kernel_rfl) (by kernel_rfl) rfl (fun _ _ _ h => h) rfl (by rintro wx rfl; go_simp <;> rfl) HDY8 ?_
          refine wpM_held 4 (v := .pointer (some ⟨B2, 0, none⟩)) rfl (by kernel_rfl) (by kernel_rfl) rfl (fun _ _ _ h => h) rfl (by rintro wx rfl; go_simp <;> rfl) HDY8 ?_
          refine wpM_held 5 (v := .int .i64 (ds : Int)) rfl (by kernel_rfl) (by kernel_rfl) rfl (fun _ _ _ h => h) rfl (by rintro wx rfl; go_simp <;> rfl) HDY8 ?_
          refine wpM_held 6 (v := .pointer (some ⟨DB, ds, none⟩)) rfl (by kernel_rfl) (by kernel_rfl) rfl (fun _ _ _ h => h) rfl (by rintro wx rfl; go_simp <;> rfl) HDY8 ?_
          refine wpM_held 7 (v := .int .i64 fvY8) rfl (by kernel_rfl) (by kernel_rfl) rfl (fun _ _ _ h => h) rfl (by rintro wx rfl; go_simp <;> rfl) HDY8 ?_
          refine wpM_one 8 rfl (by kernel_rfl) rfl ?_
          go_wp2_with fail
          refine ⟨fun _ => rfl, ?_⟩
          refine wpM_one 9 rfl (by kernel_rfl) rfl ?_
          go_wp2_with fail
          refine ⟨fun _ => rfl, ?_⟩
          refine wpM_one 10 rfl (by kernel_rfl) rfl ?_
          go_wp2_with fail
          refine ⟨(fun h => by simp at h), ?_⟩
          refine wpM_done (by kernel_rfl) ?_
          obtain ⟨Z8, hZ8⟩ : ∃ wx, (Y8.setCell ⟨DB, ds, none⟩ (.int .i64 (fvY8 + 1))).drew = wx := ⟨_, rfl⟩
          rw [hZ8] at HNY8 ⊢
          clear hZ8 cAY8 cBY8 cRY8 fRY8 upY8 hwY8 HDY8
          obtain ⟨rDBZ8, kqZ8, koZ8⟩ := HNY8.out
          clear HNY8

          have rKZ8 := rKY8.kept kqZ8 (show K ≠ DB by omega)
          have rKBZ8 := rKBY8.kept kqZ8 (show w.heap.size ≠ DB by omega)
          have rLBZ8 := rLBY8.kept kqZ8 hne
          have p1' := p1.kept kqZ8 (show B1 ≠ DB by omega)
          have p2' := p2.kept kqZ8 (show B2 ≠ DB by omega)
          have oZ8 := owns_kept oY8 kqZ8 (fun k hk e => hnO2 (e ▸ hk))
          have kZ8 := kY8.trans (kqZ8.mono (fun k h e => h.2 (.inr (.inr (.inl e)))))
          have hkoZ8 := hkoY8.trans koZ8
          clear rKY8 rKBY8 rLBY8 rDBY8 p1 p2 b20 oY8 kY8 hkoY8 kqZ8 koZ8
          have u1 := p1'.cell (i := 2) rfl
          have u2 := p2'.cell (i := 2) rfl
          have u3 := rKBZ8.cell (i := 0) rfl
          have u4 := rKZ8.cell (i := 5) rfl
          have u5 := rKZ8.frozen 5
          have hw10 : IntKind.i64.wrap ((lx : Int) + (dx : Int)) = (lx : Int) + (dx : Int) := by simp [IntKind.wrap, IntKind.bits, IntKind.signed]; omega
          have hw11 : IntKind.i64.wrap ((ex : Int) + ((lx : Int) + (dx : Int))) = (ex : Int) + ((lx : Int) + (dx : Int)) := by have := HLN.out; simp [IntKind.wrap, IntKind.bits, IntKind.signed]; omega
          gi_wp2_with fail
          refine wpIn_region_Mr (fun wx : World => wx = Z8.drew) (fun j => decide (j < 14)) 15 rfl (by kernel_rfl) (by kernel_rfl) (fun _ _ h => h) ?_
          have HDE : Z8.drew = Z8.drew := rfl
          refine wpM_held 0 (v := .pointer (some ⟨K, 0, none⟩)) rfl (by kernel_rfl) (by kernel_rfl) rfl (fun _ _ _ h => h) rfl (by rintro wx rfl; go_simp <;> rfl) HDE ?_
          refine wpM_held 1 (v := .pointer (some ⟨K, 0, none⟩)) rfl (by kernel_rfl) (by kernel_rfl) rfl (fun _ _ _ h => h) rfl (by rintro wx rfl; go_simp <;> rfl) HDE ?_
          refine wpM_held 2 (v := .pointer (some ⟨K, 5, none⟩)) rfl (by kernel_rfl) (by kernel_rfl) rfl (fun _ _ _ h => h) rfl (by rintro wx rfl; go_simp <;> rfl) HDE ?_
          refine wpM_held 3 (v := .int .i64 (ex : Int)) rfl (by kernel_rfl) (by kernel_rfl) rfl (fun _ _ _ h => h) rfl (by rintro wx rfl; go_simp <;> rfl) HDE ?_
          refine wpM_held 4 (v := .pointer (some ⟨B1, 1, none⟩)) rfl (by kernel_rfl) (by kernel_rfl) rfl (fun _ _ _ h => h) rfl (by rintro wx rfl; go_simp <;> rfl) HDE ?_
          refine wpM_held 5 (v := .pointer (some ⟨B1, 2, none⟩)) rfl (by kernel_rfl) (by kernel_rfl) rfl (fun _ _ _ h => h) rfl (by rintro wx rfl; go_simp <;> rfl) HDE ?_
          refine wpM_held 6 (v := .int .i64 (lx : Int)) rfl (by kernel_rfl) (by kernel_rfl) rfl (fun _ _ _ h => h) rfl (by rintro wx rfl; go_simp <;> rfl) HDE ?_
          refine wpM_held 7 (v := .pointer (some ⟨B2, 1, none⟩)) rfl (by kernel_rfl) (by kernel_rfl) rfl (fun _ _ _ h => h) rfl (by rintro wx rfl; go_simp <;> rfl) HDE ?_
          refine wpM_held 8 (v := .pointer (some ⟨B2, 2, none⟩)) rfl (by kernel_rfl) (by kernel_rfl) rfl (fun _ _ _ h => h) rfl (by rintro wx rfl; go_simp <;> rfl) HDE ?_
          refine wpM_held 9 (v := .int .i64 (dx : Int)) rfl (by kernel_rfl) (by kernel_rfl) rfl (fun _ _ _ h => h) rfl (by rintro wx rfl; go_simp <;> rfl) HDE ?_
          refine wpM_one 10 rfl (by kernel_rfl) rfl ?_
          go_wp2_with fail
          refine ⟨fun _ => rfl, ?_⟩
          refine wpM_one 11 rfl (by kernel_rfl) rfl ?_
          go_wp2_with fail
          refine ⟨fun _ => rfl, ?_⟩
          refine wpM_one 12 rfl (by kernel_rfl) rfl ?_
          go_wp2_with fail
          refine ⟨fun _ => rfl, ?_⟩
          refine wpM_one 13 rfl (by kernel_rfl) rfl ?_
          go_wp2_with fail
          refine ⟨fun _ => rfl, ?_⟩
          refine wpM_one 14 rfl (by kernel_rfl) rfl ?_
          go_wp2_with fail
          refine ⟨(fun h => by simp at h), ?_⟩
          refine wpM_done (by kernel_rfl) ?_
          have HFIN : Hid (KeepsFrom w3.heap.size V ((Z8.setCell ⟨K, 5, none⟩ (.int .i64 ((ex : Int) + ((lx : Int) + (dx : Int))))).drew) ∧ Kept (fun k => k < V.heap.size ∧ ¬ (k = K ∨ k = LB ∨ k = DB ∨ (Value.slice gu pre.length cu).ownBlock = some k)) V ((Z8.setCell ⟨K, 5, none⟩ (.int .i64 ((ex : Int) + ((lx : Int) + (dx : Int))))).drew) ∧ CtI T p q w K LB DB tx last Z (pre ++ [⟨rb, (ll : Int), (dd : Int)⟩]) (fun k => k = K ∨ k = LB ∨ k = DB ∨ (Value.slice g' (pre.length + 1) c').ownBlock = some k) ((Z8.setCell ⟨K, 5, none⟩ (.int .i64 ((ex : Int) + ((lx : Int) + (dx : Int))))).drew)) := by
            have kK : Kept (fun k => k ≠ K) Z8 ((Z8.setCell ⟨K, 5, none⟩ (.int .i64 ((ex : Int) + ((lx : Int) + (dx : Int))))).drew) := ((Kept.refl _ Z8).setCell (p := ⟨K, 5, none⟩) (by simp) _).drew
            have kE := kZ8.trans (kK.mono (fun k h e => h.2 (.inl e)))
            have hll0 : ¬ (ll : Int) = 0 := by omega
            refine ⟨((hkoZ8.trans (KeepsOthers.setCell _ _ _)).trans (KeepsOthers.drew _)).from _, kE, .slice g' (pre.length + 1) c', ?_, rKBZ8.kept kK (show w.heap.size ≠ K by omega), ?_, ?_, ⟨⟨g', c', by simp⟩, ?_⟩, h6.trans (kE.mono (fun k h => ⟨by omega, ?_⟩)), HGD.out, h8, rfl⟩
            · rw [HEX.out, if_neg hll0, Int.toNat_natCast, Int.toNat_natCast, HElf.out, HEdf.out]
              exact rKZ8.set 5 _
            · rw [HEL.out]
              have e : litSym ⟨rb, (ll : Int), (dd : Int)⟩ = ls := by
                unfold litSym
                rw [if_neg hll0, Int.toNat_natCast, HEls.out]
              rw [e]
              exact rLBZ8.kept kK (show LB ≠ K by omega)
            · rw [HED.out, if_neg hll0]
              have e : dstSym ⟨rb, (ll : Int), (dd : Int)⟩ = ds := by
                unfold dstSym
                rw [Int.toNat_natCast, HEds.out]
              rw [e]
              exact rDBZ8.kept kK (show DB ≠ K by omega)
            · rw [List.length_append]
              exact owns_kept oZ8 kK (fun k hk e => hnK2 (e ▸ hk))
            · rintro (e | e | e | e)
              · exact h.2.1 e
              · omega
              · omega
              · have := (hown.lt k e).1; omega
          clear u1 u2 u3 u4 u5 hw10 hw11 HDE rKZ8 rKBZ8 rLBZ8 rDBZ8 p1' p2' oZ8 kZ8 hkoZ8
          gi_wp2
          exact ⟨HFIN.out.1, HFIN.out.2.1, _, HFIN.out.2.2⟩

end Go.Proofs.YtinbilbgipfemaaDoor
