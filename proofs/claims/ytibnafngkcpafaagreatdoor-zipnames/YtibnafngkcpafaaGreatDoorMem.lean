/- The small functions that make or look at memory: bytes.Clone, NewReader, NewWriter, Left, Done. -/
import Derived.Test.YtibnafngkcpafaaGreatDoorRows
import Derived.Test.YtibnafngkcpafaaGreatDoorBase
import Derived.WalkKit
import Derived.WalkSpells
import Derived.WalkLawsBesides
import Derived.Deep.QuietTactic
import Derived.BigQuiet
namespace Go.Proofs.YtibnafngkcpafaaGreatDoor
open Go.RowKit

theorem Tryz.info5 : (Tryz.prog.info? 5).map (fun i => (i.zero, i.size, i.bytes)) = some (some (.int .u8 0), 1, 1) := by kernel_rfl

/-- Block B is a struct of two cells. -/
def Two (W : World) (B : Nat) (t : TypeId) (v0 v1 : Value) : Prop := W.heap[B]? = some (.cells #[v0, v1] t (0, 0))
theorem Two.lt {W : World} {B : Nat} {t : TypeId} {v0 v1 : Value} (h : Two W B t v0 v1) : B < W.heap.size := (Array.getElem?_eq_some_iff.1 h).1
theorem Two.cell0 {W : World} {B : Nat} {t : TypeId} {v0 v1 : Value} (h : Two W B t v0 v1) : W.cell? ⟨B, 0, none⟩ = some v0 := by simp [World.cell?, show W.heap[B]? = _ from h]
theorem Two.cell1 {W : World} {B : Nat} {t : TypeId} {v0 v1 : Value} (h : Two W B t v0 v1) : W.cell? ⟨B, 1, none⟩ = some v1 := by simp [World.cell?, show W.heap[B]? = _ from h]
theorem Two.frozen {W : World} {B : Nat} {t : TypeId} {v0 v1 : Value} (h : Two W B t v0 v1) (o : Nat) : W.frozen? ⟨B, o, none⟩ = false := by simp [World.frozen?, show W.heap[B]? = _ from h]
theorem Two.new (W : World) (t : TypeId) (v0 v1 : Value) : Two (W.alloc (.cells #[v0, v1] t)) W.heap.size t v0 v1 := World.alloc_heap_new W _
theorem Two.kept {S : Nat → Prop} {W W' : World} {B : Nat} {t : TypeId} {v0 v1 : Value} (h : Two W B t v0 v1) (hk : Kept S W W') (hS : S B) : Two W' B t v0 v1 := (hk.block B hS).trans h
theorem Two.alloc {W : World} {B : Nat} {t : TypeId} {v0 v1 : Value} (h : Two W B t v0 v1) (o : Obj) : Two (W.alloc o) B t v0 v1 := (Below.heap_alloc W o B h.lt).trans h
theorem Two.drew {W : World} {B : Nat} {t : TypeId} {v0 v1 : Value} (h : Two W B t v0 v1) : Two W.drew B t v0 v1 := h
theorem Two.drewN {W : World} {B : Nat} {t : TypeId} {v0 v1 : Value} (h : Two W B t v0 v1) (n : Nat) : Two (W.drewN n) B t v0 v1 := h
theorem Two.set0 {W : World} {B : Nat} {t : TypeId} {v0 v1 : Value} (v' : Value) (h : Two W B t v0 v1) : Two (W.setCell ⟨B, 0, none⟩ v') B t v' v1 := by
  obtain ⟨hlt, hk⟩ := Array.getElem?_eq_some_iff.1 h
  show (W.heap.modify B _)[B]? = _
  rw [Array.getElem?_eq_getElem (by rw [Array.size_modify]; exact hlt), Array.getElem_modify_self, hk]
  rfl
theorem Two.set1 {W : World} {B : Nat} {t : TypeId} {v0 v1 : Value} (v' : Value) (h : Two W B t v0 v1) : Two (W.setCell ⟨B, 1, none⟩ v') B t v0 v' := by
  obtain ⟨hlt, hk⟩ := Array.getElem?_eq_some_iff.1 h
  show (W.heap.modify B _)[B]? = _
  rw [Array.getElem?_eq_getElem (by rw [Array.size_modify]; exact hlt), Array.getElem_modify_self, hk]
  rfl
theorem Two.not_row {W : World} {B : Nat} {t e : TypeId} {v0 v1 : Value} (h : Two W B t v0 v1) (hte : t ≠ e) {base size k : Nat} {v : Value} {xs : List Value} (hr : W.ownsRow base e size v k xs) : some B ≠ v.ownBlock := by
  rcases hr.2 with ⟨rfl, _⟩ | ⟨g, cap, cur, rfl, _, hgb, _⟩
  · simp [Value.ownBlock]
  · intro e'
    obtain rfl : B = g := by simpa [Value.ownBlock] using e'
    have := (show W.heap[B]? = _ from h).symm.trans hgb
    simp at this
    exact hte this.2
theorem grownBy_setCell2 (W : World) (p : Addr) (v : Value) : W.grownBy (W.setCell p v) (some p.block) :=
  ⟨rfl, rfl, rfl, (KeepsWalks.setCell W _ v).size, fun k _ hk => Below.heap_setCell _ _ _ k (fun e => hk (by rw [e]))⟩

/-- A row of one-cell bytes that the program owns, as bytes that can be read. -/
theorem bytesIn_of_owns {w : World} {base : Nat} {v : Value} {zs : List Int} (D : Nat → Prop) (h : w.ownsRow base 5 1 v zs.length (zs.map (Value.int .u8))) (hD : ∀ k, v.ownBlock = some k → D k) : BytesIn D w v zs := by
  rcases h.2 with ⟨rfl, h0⟩ | ⟨g, cap, cur, rfl, hb, hgb, h3, h4, h5, h6⟩
  · exact .inl ⟨List.eq_nil_of_length_eq_zero h0, _, _, rfl⟩
  · refine .inr ⟨g, 0, cap, rfl, hD g rfl, fun j hj => ?_⟩
    have hc := h.cells (g := g) rfl j (.int .u8 (zs[j]?.getD 0)) (by simp [hj])
    have hadd : (⟨g, 0, none⟩ : Addr).add j = ⟨g, 0 + j, none⟩ := by unfold Addr.add; split <;> simp_all
    rwa [hadd] at hc
theorem owns_form {w : World} {base : Nat} {e : TypeId} {size : Nat} {v : Value} {n : Nat} {xs : List Value} (h : w.ownsRow base e size v n xs) : ∃ g c, v = .slice g n c := by
  rcases h.2 with ⟨rfl, rfl⟩ | ⟨g, cap, cur, rfl, _⟩
  · exact ⟨_, _, rfl⟩
  · exact ⟨_, _, rfl⟩
theorem owns_kept {S : Nat → Prop} {w w' : World} {base : Nat} {e : TypeId} {size : Nat} {v : Value} {n : Nat} {xs : List Value} (h : w.ownsRow base e size v n xs) (hk : Kept S w w') (hS : ∀ k, v.ownBlock = some k → S k) : w'.ownsRow base e size v n xs := by
  refine ⟨h.1, ?_⟩
  rcases h.2 with hn | ⟨g, cap, cur, rfl, hb, hgg, rest⟩
  · exact .inl hn
  · exact .inr ⟨g, cap, cur, rfl, hb, (hk.block g (hS g rfl)).trans hgg, rest⟩

set_option maxRecDepth 100000 in
set_option maxHeartbeats 400000 in
theorem clone_nil (n c : Nat) (w : World) : Calls Tryz.prog 42 #[.slice none n c] w fun e w' => e = .returned (.slice none 0 0) ∧ w' = w := by
  have he : ∀ w : World, (binOp .eql 28 (.slice none n c) (.slice none 0 0)).run Tryz.prog w = .ok (.bool true) w := fun _ => rfl
  go_enter Tryz.func42, Tryz.ntmps42
  go_wp2
  go_ret
  exact ⟨rfl, rfl⟩

set_option maxRecDepth 100000 in
set_option maxHeartbeats 400000 in
theorem clone_some (A : Addr) (n c : Nat) (bs : List Int) (w : World) (hn : bs.length = n) (hbytes : n ≤ 140737488355328) (hc : ∀ j : Nat, j < n → w.cell? (A.add j) = some (.int .u8 (bs[j]?.getD 0))) :
    Calls Tryz.prog 42 #[.slice (some A) n c] w fun e w' => ∃ v, e = .returned v ∧ w'.ownsRow w.heap.size 5 1 v n (bs.map (Value.int .u8)) ∧ Below w.heap.size w w' := by
  obtain ⟨i0, hi, hz0, hz1, hz2⟩ := info_parts Tryz.info5
  have hown0 : (w.alloc (.cells #[] 5)).ownsRow w.heap.size 5 1 (.slice (some ⟨w.heap.size, 0, none⟩) 0 0) 0 [] :=
    ⟨rfl, .inr ⟨w.heap.size, 0, #[], rfl, Nat.le_refl _, by show (w.heap.push _)[w.heap.size]? = _; simp, Nat.le_refl _, by unfold maxLen; omega, rfl, rfl⟩⟩
  have he : ∀ w : World, (binOp .eql 28 (.slice (some A) n c) (.slice none 0 0)).run Tryz.prog w = .ok (.bool false) w := fun _ => rfl
  go_enter Tryz.func42, Tryz.ntmps42
  go_wp2_with (first
    | (at_builtin; refine wpList_append_own _ rfl (.tmp 5) (.tmp 6) 28 rfl w.heap.size 5 i0 (.int .u8 0) 1 1 Tryz.underlying28 hi hz0 hz1 hz2 rfl (by decide) _ _ _ rfl hown0 A n c (bs.map (Value.int .u8)) rfl (by simp [hn]) ?c1 (ints_oneCell .u8 bs) (by unfold maxLen; omega) (by omega) (by simp) ?_))
  case c1 =>
    intro j u hu
    have hj : j < n := by
      have := (List.getElem?_eq_some_iff.1 hu).1
      simpa [hn] using this
    have hb : (A.add j).block < w.heap.size := World.block_lt_of_cell? _ _ (hc j hj)
    rw [((Below.refl w.heap.size w).alloc (Nat.le_refl _) _).cell hb, hc j hj]
    have e : (bs.map (Value.int .u8))[j]? = some (.int .u8 (bs[j]?.getD 0)) := by simp [show j < bs.length by omega]
    rw [e] at hu
    exact hu
  intro v' w1 hown' hgrow hnil
  go_wp2
  go_ret
  exact ⟨_, rfl, by simpa using hown', ((Below.refl _ _).alloc (Nat.le_refl _) _).grown hgrow (by simp) (fun k hk => by simp [Value.ownBlock] at hk; omega)⟩

/-- bytes.Clone: a row of the call's own with the same bytes (nil of nil). -/
theorem clone_any (S : Nat → Prop) (a : Option Addr) (cap : Nat) (zs : List Int) (w : World) (hl : zs.length ≤ 140737488355328) (hI : BytesIn S w (.slice a zs.length cap) zs) :
    Calls Tryz.prog 42 #[.slice a zs.length cap] w fun e w' => ∃ g c, e = .returned (.slice g zs.length c) ∧ w'.ownsRow w.heap.size 5 1 (.slice g zs.length c) zs.length (zs.map (Value.int .u8)) ∧ Below w.heap.size w w' := by
  cases a with
  | none =>
    rcases hI with ⟨rfl, _⟩ | ⟨b, off, cap', e, _⟩
    · refine (clone_nil _ cap w).mono ?_
      rintro e w' ⟨rfl, rfl⟩
      exact ⟨_, _, rfl, World.ownsRow_nil _ _ _ _, Below.refl _ _⟩
    · simp at e
  | some A =>
    refine (clone_some A zs.length cap zs w rfl hl ?_).mono ?_
    · intro j hj
      rcases hI with ⟨rfl, _⟩ | ⟨b, off, cap', e, hb, hc⟩
      · simp at hj
      simp only [Value.slice.injEq, Option.some.injEq, true_and] at e
      obtain ⟨rfl, rfl⟩ := e
      have hadd : (⟨b, off, none⟩ : Addr).add j = ⟨b, off + j, none⟩ := by unfold Addr.add; split <;> simp_all
      rw [hadd]
      exact hc j hj
    · rintro e w' ⟨v, rfl, hv, hb⟩
      obtain ⟨g, c, rfl⟩ := owns_form hv
      exact ⟨g, c, rfl, hv, hb⟩

set_option maxRecDepth 100000 in
set_option maxHeartbeats 400000 in
theorem newWriter_any (w : World) :
    Calls Tryz.prog 35 #[] w fun e w' => e = .returned (.pointer (some ⟨w.heap.size, 0, none⟩)) ∧ w' = w.alloc (.cells #[.slice none 0 0, .int .i64 0] 71) := by
  go_enter Tryz.func35, Tryz.ntmps35
  go_wp2
  go_ret
  exact ⟨rfl, rfl⟩

set_option maxRecDepth 100000 in
set_option maxHeartbeats 400000 in
theorem done_any (R : Nat) (g : Option Addr) (c : Nat) (sz : Value) (zs : List Int) (D : Nat → Prop) (w : World) (hl : zs.length ≤ 140737488355328) (h2 : Two w R 71 (.slice g zs.length c) sz) (hI : BytesIn D w (.slice g zs.length c) zs) :
    Calls Tryz.prog 22 #[.pointer (some ⟨R, 0, none⟩)] w fun e w' => ∃ g' c', e = .returned (.slice g' zs.length c') ∧ w'.ownsRow w.heap.size 5 1 (.slice g' zs.length c') zs.length (zs.map (Value.int .u8)) ∧ Below w.heap.size w w' := by
  have c0 := h2.cell0
  go_enter Tryz.func22, Tryz.ntmps22
  go_wp2_with fail
  refine (clone_any D g c zs w hl hI).mono ?_
  rintro e w' ⟨g', c', rfl, hv, hb⟩
  go_wp2
  go_ret
  exact ⟨_, _, rfl, hv, hb⟩

end Go.Proofs.YtibnafngkcpafaaGreatDoor
