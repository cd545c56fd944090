import Derived.Test.YtinbilbgipfemaaDoorRows
import Derived.Test.YtinbilbgipfemaaDoorBase
import Derived.WalkKit
import Derived.WalkSpells
import Derived.WalkLawsBesides
import Derived.Deep.QuietTactic
import Derived.BigQuiet
import Derived.Test.YtinbilbgipfemaaDoorApp
import Derived.OneCell
import Derived.RegionTactic
import Derived.ChangeAlike
import Derived.BigRegion
/- The small functions that make or look at memory: bytes.Clone, NewReader, NewWriter, Left, Done. -/
namespace Go.Proofs.YtinbilbgipfemaaDoor
open Go.RowKit

theorem Tryd.info5 : (Tryd.prog.info? 5).map (fun i => (i.zero, i.size, i.bytes)) = some (some (.int .u8 0), 1, 1) := by kernel_rfl

/-- Block B is a struct of two cells. -/
def Two (W : World) (B : Nat) (t : TypeId) (v0 v1 : Value) : Prop := W.heap[B]? = some (.cells #[v0, v1] t (0, 0))
theorem Two.lt {W : World} {B : Nat} {t : TypeId} {v0 v1 : Value} (h : Two W B t v0 v1) : B < W.heap.size := (Array.getElem?_eq_some_iff.1 h).1
theorem Two.cell0 {W : World} {B : Nat} {t : TypeId} {v0 v1 : Value} (h : Two W B t v0 v1) : W.cell? ⟨B, 0, none⟩ = some v0 := by simp [World.cell?, show W.heap[B]? = _ from h]
theorem Two.cell1 {W : World} {B : Nat} {t : TypeId} {v0 v1 : Value} (h : Two W B t v0 v1) : W.cell? ⟨B, 1, none⟩ = some v1 := by simp [World.cell?, show W.heap[B]? = _ from h]
theorem Two.frozen {W : World} {B : Nat} {t : TypeId} {v0 v1 : Value} (h : Two W B t v0 v1) (o : Nat) : W.frozen? ⟨B, o, none⟩ = false := by simp [World.frozen?, show W.heap[B]? = _ from h]
theorem Two.new (W : World) (t : TypeId) (v0 v1 : Value) : Two (W.alloc (.cells #[v0, v1] t)) W.heap.size t v0 v1 := World.alloc_heap_new W _
theorem Two.kept {S : Nat → Prop} {W W' : World} {B : Nat} {t : TypeId} {v0 v1 : Value} (h : Two W B t v0 v1) (hk : Kept S W W') (hS : S B) : Two W' B t v0 v1 := (hk.block B hS).trans h
theorem Two.alloc {W : World} {B : Nat} {t : TypeId} {v0 v1 : Value} (h : Two W B t v0 v1) (o : Obj) : Two (W.alloc o) B t v0 v1 := (Below.heap_alloc W o B h.lt).trans h
theorem Two.drew {W : World} {B : Nat} {t : TypeId} {v0 v1 : Value} (h : Two W B t v0 v1) : Two W.drew B t v0 v1 := h
theorem Two.drewN {W : World} {B : Nat} {t : TypeId} {v0 v1 : Value} (h : Two W B t v0 v1) (n : Nat) : Two (W.drewN n) B t v0 v1 := h
theorem Two.set0 {W : World} {B : Nat} {t : TypeId} {v0 v1 : Value} (v' : Value) (h : Two W B t v0 v1) : Two (W.setCell ⟨B, 0, none⟩ v') B t v' v1 := by
  obtain ⟨hlt, hk⟩ := Array.getElem?_eq_some_iff.1 h
  show (W.heap.modify B _)[B]? = _
  rw [Array.getElem?_eq_getElem (by rw [Array.size_modify]; exact hlt), Array.getElem_modify_self, hk]
  rfl
theorem Two.set1 {W : World} {B : Nat} {t : TypeId} {v0 v1 : Value} (v' : Value) (h : Two W B t v0 v1) : Two (W.setCell ⟨B, 1, none⟩ v') B t v0 v' := by
  obtain ⟨hlt, hk⟩ := Array.getElem?_eq_some_iff.1 h
  show (W.heap.modify B _)[B]? = _
  rw [Array.getElem?_eq_getElem (by rw [Array.size_modify]; exact hlt), Array.getElem_modify_self, hk]
  rfl
theorem Two.not_row {W : World} {B : Nat} {t e : TypeId} {v0 v1 : Value} (h : Two W B t v0 v1) (hte : t ≠ e) {base size k : Nat} {v : Value} {xs : List Value} (hr : W.ownsRow base e size v k xs) : some B ≠ v.ownBlock := by
  rcases hr.2 with ⟨rfl, _⟩ | ⟨g, cap, cur, rfl, _, hgb, _⟩
  · simp [Value.ownBlock]
  · intro e'
    obtain rfl : B = g := by simpa [Value.ownBlock] using e'
    have := (show W.heap[B]? = _ from h).symm.trans hgb
    simp at this
    exact hte this.2
/-- A row of one-cell bytes that the program owns, as bytes that can be read. -/
theorem bytesIn_of_owns {w : World} {base : Nat} {v : Value} {zs : List Int} (D : Nat → Prop) (h : w.ownsRow base 5 1 v zs.length (zs.map (Value.int .u8))) (hD : ∀ k, v.ownBlock = some k → D k) : BytesIn D w v zs := by
  rcases h.2 with ⟨rfl, h0⟩ | ⟨g, cap, cur, rfl, hb, hgb, h3, h4, h5, h6⟩
  · exact .inl ⟨List.eq_nil_of_length_eq_zero h0, _, _, rfl⟩
  · refine .inr ⟨g, 0, cap, rfl, hD g rfl, fun j hj => ?_⟩
    have hc := h.cells (g := g) rfl j (.int .u8 (zs[j]?.getD 0)) (by simp [hj])
    have hadd : (⟨g, 0, none⟩ : Addr).add j = ⟨g, 0 + j, none⟩ := by unfold Addr.add; split <;> simp_all
    rwa [hadd] at hc
theorem owns_form {w : World} {base : Nat} {e : TypeId} {size : Nat} {v : Value} {n : Nat} {xs : List Value} (h : w.ownsRow base e size v n xs) : ∃ g c, v = .slice g n c := by
  rcases h.2 with ⟨rfl, rfl⟩ | ⟨g, cap, cur, rfl, _⟩
  · exact ⟨_, _, rfl⟩
  · exact ⟨_, _, rfl⟩
theorem owns_kept {S : Nat → Prop} {w w' : World} {base : Nat} {e : TypeId} {size : Nat} {v : Value} {n : Nat} {xs : List Value} (h : w.ownsRow base e size v n xs) (hk : Kept S w w') (hS : ∀ k, v.ownBlock = some k → S k) : w'.ownsRow base e size v n xs := by
  refine ⟨h.1, ?_⟩
  rcases h.2 with hn | ⟨g, cap, cur, rfl, hb, hgg, rest⟩
  · exact .inl hn
  · exact .inr ⟨g, cap, cur, rfl, hb, (hk.block g (hS g rfl)).trans hgg, rest⟩

set_option maxRecDepth 100000 in
set_option maxHeartbeats 400000 in
theorem clone_nil (n c : Nat) (w : World) : Calls Tryd.prog 41 #[.slice none n c] w fun e w' => e = .returned (.slice none 0 0) ∧ w' = w := by
  have he : ∀ w : World, (binOp .eql 22 (.slice none n c) (.slice none 0 0)).run Tryd.prog w = .ok (.bool true) w := fun _ => rfl
  go_enter Tryd.func41, Tryd.ntmps41
  go_wp2
  go_ret
  exact ⟨rfl, rfl⟩

set_option maxRecDepth 100000 in
set_option maxHeartbeats 400000 in
theorem clone_some (A : Addr) (n c : Nat) (bs : List Int) (w : World) (hn : bs.length = n) (hbytes : n ≤ 140737488355328) (hc : ∀ j : Nat, j < n → w.cell? (A.add j) = some (.int .u8 (bs[j]?.getD 0))) :
    Calls Tryd.prog 41 #[.slice (some A) n c] w fun e w' => ∃ v, e = .returned v ∧ w'.ownsRow w.heap.size 5 1 v n (bs.map (Value.int .u8)) ∧ Below w.heap.size w w' := by
  obtain ⟨i0, hi, hz0, hz1, hz2⟩ := info_parts Tryd.info5
  have hown0 : (w.alloc (.cells #[] 5)).ownsRow w.heap.size 5 1 (.slice (some ⟨w.heap.size, 0, none⟩) 0 0) 0 [] :=
    ⟨rfl, .inr ⟨w.heap.size, 0, #[], rfl, Nat.le_refl _, by show (w.heap.push _)[w.heap.size]? = _; simp, Nat.le_refl _, by unfold maxLen; omega, rfl, rfl⟩⟩
  have he : ∀ w : World, (binOp .eql 22 (.slice (some A) n c) (.slice none 0 0)).run Tryd.prog w = .ok (.bool false) w := fun _ => rfl
  go_enter Tryd.func41, Tryd.ntmps41
  go_wp2_with (first
    | (at_builtin; refine wpList_append_own _ rfl (.tmp 5) (.tmp 6) 22 rfl w.heap.size 5 i0 (.int .u8 0) 1 1 Tryd.underlying22 hi hz0 hz1 hz2 rfl (by decide) _ _ _ rfl hown0 A n c (bs.map (Value.int .u8)) rfl (by simp [hn]) ?c1 (ints_oneCell .u8 bs) (by unfold maxLen; omega) (by omega) (by simp) ?_))
  case c1 =>
    intro j u hu
    have hj : j < n := by
      have := (List.getElem?_eq_some_iff.1 hu).1
      simpa [hn] using this
    have hb : (A.add j).block < w.heap.size := World.block_lt_of_cell? _ _ (hc j hj)
    rw [((Below.refl w.heap.size w).alloc (Nat.le_refl _) _).cell hb, hc j hj]
    have e : (bs.map (Value.int .u8))[j]? = some (.int .u8 (bs[j]?.getD 0)) := by simp [show j < bs.length by omega]
    rw [e] at hu
    exact hu
  intro v' w1 hown' hgrow hnil
  go_wp2
  go_ret
  exact ⟨_, rfl, by simpa using hown', ((Below.refl _ _).alloc (Nat.le_refl _) _).grown hgrow (by simp) (fun k hk => by simp [Value.ownBlock] at hk; omega)⟩

/-- bytes.Clone: a row of the call's own with the same bytes (nil of nil). -/
theorem clone_any (S : Nat → Prop) (a : Option Addr) (cap : Nat) (zs : List Int) (w : World) (hl : zs.length ≤ 140737488355328) (hI : BytesIn S w (.slice a zs.length cap) zs) :
    Calls Tryd.prog 41 #[.slice a zs.length cap] w fun e w' => ∃ g c, e = .returned (.slice g zs.length c) ∧ w'.ownsRow w.heap.size 5 1 (.slice g zs.length c) zs.length (zs.map (Value.int .u8)) ∧ Below w.heap.size w w' := by
  cases a with
  | none =>
    rcases hI with ⟨rfl, _⟩ | ⟨b, off, cap', e, _⟩
    · refine (clone_nil _ cap w).mono ?_
      rintro e w' ⟨rfl, rfl⟩
      exact ⟨_, _, rfl, World.ownsRow_nil _ _ _ _, Below.refl _ _⟩
    · simp at e
  | some A =>
    refine (clone_some A zs.length cap zs w rfl hl ?_).mono ?_
    · intro j hj
      rcases hI with ⟨rfl, _⟩ | ⟨b, off, cap', e, hb, hc⟩
      · simp at hj
      simp only [Value.slice.injEq, Option.some.injEq, true_and] at e
      obtain ⟨rfl, rfl⟩ := e
      have hadd : (⟨b, off, none⟩ : Addr).add j = ⟨b, off + j, none⟩ := by unfold Addr.add; split <;> simp_all
      rw [hadd]
      exact hc j hj
    · rintro e w' ⟨v, rfl, hv, hb⟩
      obtain ⟨g, c, rfl⟩ := owns_form hv
      exact ⟨g, c, rfl, hv, hb⟩

set_option maxRecDepth 100000 in
set_option maxHeartbeats 400000 in
theorem newWriter_any (w : World) :
    Calls Tryd.prog 16 #[] w fun e w' => e = .returned (.pointer (some ⟨w.heap.size, 0, none⟩)) ∧ w' = w.alloc (.cells #[.slice none 0 0, .int .i64 0] 72) := by
  go_enter Tryd.func16, Tryd.ntmps16
  go_wp2
  go_ret
  exact ⟨rfl, rfl⟩

set_option maxRecDepth 100000 in
set_option maxHeartbeats 400000 in
theorem done_any (R : Nat) (g : Option Addr) (c : Nat) (sz : Value) (zs : List Int) (D : Nat → Prop) (w : World) (hl : zs.length ≤ 140737488355328) (h2 : Two w R 72 (.slice g zs.length c) sz) (hI : BytesIn D w (.slice g zs.length c) zs) :
    Calls Tryd.prog 22 #[.pointer (some ⟨R, 0, none⟩)] w fun e w' => ∃ g' c', e = .returned (.slice g' zs.length c') ∧ w'.ownsRow w.heap.size 5 1 (.slice g' zs.length c') zs.length (zs.map (Value.int .u8)) ∧ Below w.heap.size w w' := by
  have c0 := h2.cell0
  go_enter Tryd.func22, Tryd.ntmps22
  go_wp2_with fail
  refine (clone_any D g c zs w hl hI).mono ?_
  rintro e w' ⟨g', c', rfl, hv, hb⟩
  go_wp2
  go_ret
  exact ⟨_, _, rfl, hv, hb⟩

end Go.Proofs.YtinbilbgipfemaaDoor
/- The writer: putBit and Put write bits behind those that were written. -/
namespace Go.Proofs.YtinbilbgipfemaaDoor
open Go.RowKit

theorem owns_set {w : World} {base : Nat} {e : TypeId} {g n cap : Nat} {xs : List Value} (h : w.ownsRow base e 1 (.slice (some ⟨g, 0, none⟩) n cap) n xs) (j : Nat) (u : Value) :
    (w.setCell ⟨g, j, none⟩ u).ownsRow base e 1 (.slice (some ⟨g, 0, none⟩) n cap) n (xs.set j u) := by
  refine ⟨by simpa using h.1, ?_⟩
  rcases h.2 with ⟨h0, _⟩ | ⟨g', cap', cur, hv, hb, hgb, h3, h4, h5, h6⟩
  · simp at h0
  · simp only [Value.slice.injEq, Option.some.injEq, true_and] at hv
    obtain ⟨hg, rfl⟩ := hv
    simp at hg
    subst hg
    obtain ⟨hlt, hk⟩ := Array.getElem?_eq_some_iff.1 hgb
    refine .inr ⟨g, cap, cur.setIfInBounds j u, rfl, hb, ?_, h3, h4, by simpa using h5, ?_⟩
    · show (w.heap.modify g _)[g]? = _
      rw [Array.getElem?_eq_getElem (by rw [Array.size_modify]; exact hlt), Array.getElem_modify_self, hk]
      rfl
    · rw [Array.toList_setIfInBounds, List.take_set, h6]

/-- A byte with one bit set in at place p. -/
def orB (y b : Int) (p : Nat) : Int := bits .or .u8 y (b * 2 ^ p % 256)

set_option maxHeartbeats 1000000 in
theorem putBit_old (R gb n cap : Nat) (sz : Nat) (b y : Int) (w : World) (hR : Two w R 72 (.slice (some ⟨gb, 0, none⟩) (n + 1) cap) (.int .i64 sz)) (hsz : sz < 1125899906842624) (hn : n < 140737488355328)
    (hc : w.cell? ⟨gb, n, none⟩ = some (.int .u8 y)) (hf : w.frozen? ⟨gb, n, none⟩ = false) (hne : gb ≠ R) (h8 : (((sz : Int) % 8) == 0) = false) (_b0 : 0 ≤ b) (_b1 : b < 2) :
    Calls Tryd.prog 68 #[.pointer (some ⟨R, 0, none⟩), .int .u32 b] w fun e w' => e = .returned (.tuple #[]) ∧ w' = ((w.setCell ⟨gb, n, none⟩ (.int .u8 (orB y b (sz % 8)))).setCell ⟨R, 1, none⟩ (.int .i64 ((sz + 1 : Nat) : Int))).drew := by
  have c0 := hR.cell0
  have c1 := hR.cell1
  have f0 := hR.frozen 0
  have f1 := hR.frozen 1
  go_enter Tryd.func68, Tryd.ntmps68
  go_wp2
  go_region
  all_goals go_wp2
  go_end0
  exact ⟨rfl, rfl⟩

set_option maxHeartbeats 1000000 in
theorem putBit_new (R n cap : Nat) (g : Option Addr) (sz : Nat) (b : Int) (xs : List Value) (w : World) (hR : Two w R 72 (.slice g n cap) (.int .i64 sz)) (hsz : sz < 1125899906842624) (hn : n < 140737488355328)
    (hown : w.ownsRow 0 5 1 (.slice g n cap) n xs) (h8 : (((sz : Int) % 8) == 0) = true) (_b0 : 0 ≤ b) (_b1 : b < 2) :
    Calls Tryd.prog 68 #[.pointer (some ⟨R, 0, none⟩), .int .u32 b] w fun e w' => e = .returned (.tuple #[]) ∧
      ∃ g' cap' w1, w1.ownsRow 0 5 1 (.slice (some ⟨g', 0, none⟩) (n + 1) cap') (n + 1) (xs ++ [.int .u8 0]) ∧ (w.alloc (.cells #[.int .u8 0] 5)).grownBy w1 (Value.slice g n cap).ownBlock ∧ ((Value.slice g n cap).ownBlock = some g' ∨ w.heap.size ≤ g') ∧
        w' = (((w1.setCell ⟨R, 0, none⟩ (.slice (some ⟨g', 0, none⟩) (n + 1) cap')).setCell ⟨g', n, none⟩ (.int .u8 (orB 0 b (sz % 8)))).setCell ⟨R, 1, none⟩ (.int .i64 ((sz + 1 : Nat) : Int))).drew := by
  obtain ⟨i0, hi, hz0, hz1, hz2⟩ := info_parts Tryd.info5
  have c0 := hR.cell0
  have c1 := hR.cell1
  go_enter Tryd.func68, Tryd.ntmps68
  go_wp2_with (at_builtin; refine wpList_append_own2 _ rfl (.tmp 16) (.tmp 17) 22 rfl 0 5 i0 (.int .u8 0) 1 1 Tryd.underlying22 hi hz0 hz1 hz2 rfl (by decide) _ _ _ rfl (hown.alloc _) ⟨w.heap.size, 0, none⟩ 1 1 [.int .u8 0] rfl rfl (cell_one_new _ _ _) (by simp [Value.oneCell']) (by unfold maxLen; omega) (by omega) (by simp) ?_)
  intro v' w1 hown' hgrow hblk
  obtain ⟨g', cap', rfl⟩ := ownsRow_succ hown'
  have hblk' : Hid ((Value.slice g n cap).ownBlock = some g' ∨ w.heap.size ≤ g') := by
    rcases hblk g' rfl with h | h
    · exact .inl h
    · exact .inr (by first | omega | (simp at h; omega))
  clear hblk
  have hR1 : Two w1 R 72 (.slice g n cap) (.int .i64 sz) := (hgrow.block R (by simp; have := hR.lt; omega) (hR.not_row (by decide) hown)).trans (hR.alloc _)
  have hne : g' ≠ R := fun e => hR1.not_row (by decide) hown' (by simp [Value.ownBlock, e])
  have c0' := hR1.cell0
  have c1' := hR1.cell1
  have f0' := hR1.frozen 0
  have f1' := hR1.frozen 1
  have hcg : w1.cell? ⟨g', n, none⟩ = some (.int .u8 0) := by
    have h := hown'.cells (g := g') rfl n (.int .u8 0) (by rw [List.getElem?_append_right (by rw [hown.1]; omega), hown.1]; simp)
    have hadd : (⟨g', 0, none⟩ : Addr).add n = ⟨g', n, none⟩ := by unfold Addr.add; split <;> simp_all
    rwa [hadd] at h
  have hfg : w1.frozen? ⟨g', n, none⟩ = false := by
    rcases hown'.2 with ⟨h0, _⟩ | ⟨g2, cap2, cur, hv, hb, hgb, _⟩
    · simp at h0
    · simp at hv
      obtain ⟨rfl, _⟩ := hv
      simp [World.frozen?, hgb]
  clear c0 c1 hR hi hz0 hz1 hz2
  go_wp2
  go_region
  all_goals go_wp2
  go_end0
  exact ⟨rfl, g', cap', w1, hown', hgrow, hblk'.out, rfl⟩

/-- The writer at R: its bytes ys, of which sz bits were written; its row lies outside T. -/
def IsWr (T : Nat → Prop) (w : World) (R : Nat) (ys : List Int) (sz : Nat) : Prop :=
  ∃ g c, Two w R 72 (.slice g ys.length c) (.int .i64 sz) ∧ w.ownsRow 0 5 1 (.slice g ys.length c) ys.length (ys.map (Value.int .u8)) ∧ ∀ k, (Value.slice g ys.length c).ownBlock = some k → ¬ T k

/-- The bytes behind one bit more. -/
def pushBit (ys : List Int) (sz : Nat) (b : Int) : List Int :=
  if sz % 8 = 0 then ys ++ [orB 0 b (sz % 8)] else ys.set (ys.length - 1) (orB (ys[ys.length - 1]?.getD 0) b (sz % 8))
theorem pushBit_length (ys : List Int) (sz : Nat) (b : Int) (h : ys.length = (sz + 7) / 8) : (pushBit ys sz b).length = (sz + 1 + 7) / 8 := by
  unfold pushBit
  split
  · simp only [List.length_append, List.length_cons, List.length_nil]; omega
  · simp only [List.length_set]; omega

theorem Two.other {W : World} {B : Nat} {t : TypeId} {v0 v1 : Value} (h : Two W B t v0 v1) {p : Addr} (hp : B ≠ p.block) (u : Value) : Two (W.setCell p u) B t v0 v1 := (Below.heap_setCell W p u B hp).trans h

theorem putBit_any (T : Nat → Prop) (R : Nat) (ys : List Int) (sz : Nat) (b : Int) (w : World) (hW : IsWr T w R ys sz) (hT : ∀ k, T k → k < w.heap.size) (hTR : ¬ T R) (hlen : ys.length = (sz + 7) / 8) (hsz : sz < 1125899906842624) (b0 : 0 ≤ b) (b1 : b < 2) :
    Calls Tryd.prog 68 #[.pointer (some ⟨R, 0, none⟩), .int .u32 b] w fun e w' => e = .returned (.tuple #[]) ∧ IsWr T w' R (pushBit ys sz b) (sz + 1) ∧ Kept T w w' := by
  obtain ⟨g, c, hR, hown, hg⟩ := hW
  by_cases h8 : sz % 8 = 0
  · refine (putBit_new R ys.length c g sz b _ w hR hsz (by omega) hown (by rw [beq_iff_eq]; omega) b0 b1).mono ?_
    rintro e w' ⟨rfl, g', cap', w1, hown1, hgrow, hblk, rfl⟩
    have hR1 : Two w1 R 72 (.slice g ys.length c) (.int .i64 sz) := (hgrow.block R (by simp; have := hR.lt; omega) (hR.not_row (by decide) hown)).trans (hR.alloc _)
    have hne : R ≠ g' := fun e => hR1.not_row (by decide) hown1 (by simp [Value.ownBlock, e])
    have hk1 : Kept T w w1 := ((Kept.refl T w).alloc hT _).grown hgrow (fun k hk => by simp; have := hT k hk; omega) hg
    have hg' : ¬ T g' := by
      rcases hblk with h | h
      · exact hg g' h
      · exact fun ht => by have := hT g' ht; omega
    have hpl : (pushBit ys sz b).length = ys.length + 1 := by unfold pushBit; rw [if_pos h8]; simp
    have hpm : (pushBit ys sz b).map (Value.int .u8) = (ys.map (Value.int .u8) ++ [Value.int .u8 0]).set ys.length (Value.int .u8 (orB 0 b (sz % 8))) := by
      unfold pushBit; rw [if_pos h8]; simp
    refine ⟨rfl, ⟨some ⟨g', 0, none⟩, cap', ?_, ?_, ?_⟩, ?_⟩
    · rw [hpl]
      exact (((hR1.set0 _).other (p := ⟨g', ys.length, none⟩) hne _).set1 _).drew
    · rw [hpl, hpm]
      have ho := owns_set (ownsRow_setCell_other hown1 (a := ⟨R, 0, none⟩) (by simp [Value.ownBlock]; omega) (.slice (some ⟨g', 0, none⟩) (ys.length + 1) cap')) ys.length (.int .u8 (orB 0 b (sz % 8)))
      exact ownsRow_setCell_other ho (a := ⟨R, 1, none⟩) (by simp [Value.ownBlock]; omega) _
    · intro k hk
      simp [Value.ownBlock] at hk
      subst hk
      exact hg'
    · exact (((hk1.setCell (p := ⟨R, 0, none⟩) hTR _).setCell (p := ⟨g', ys.length, none⟩) hg' _).setCell (p := ⟨R, 1, none⟩) hTR _).drew
  · obtain ⟨n, hn⟩ : ∃ n, ys.length = n + 1 := ⟨ys.length - 1, by omega⟩
    rw [hn] at hown hR hg
    obtain ⟨g', cap', hv⟩ := ownsRow_succ hown
    simp only [Value.slice.injEq, true_and] at hv
    obtain ⟨rfl, rfl⟩ := hv
    have hne : R ≠ g' := fun e => hR.not_row (by decide) hown (by simp [Value.ownBlock, e])
    have hcg : w.cell? ⟨g', n, none⟩ = some (.int .u8 (ys[n]?.getD 0)) := by
      have h := hown.cells (g := g') rfl n (.int .u8 (ys[n]?.getD 0)) (by simp [show n < ys.length by omega])
      have hadd : (⟨g', 0, none⟩ : Addr).add n = ⟨g', n, none⟩ := by unfold Addr.add; split <;> simp_all
      rwa [hadd] at h
    have hfg : w.frozen? ⟨g', n, none⟩ = false := by
      rcases hown.2 with ⟨h0, _⟩ | ⟨g2, cap2, cur, hv, hb, hgb, _⟩
      · simp at h0
      · simp at hv
        obtain ⟨rfl, _⟩ := hv
        simp [World.frozen?, hgb]
    refine (putBit_old R g' n c sz b _ w hR hsz (by omega) hcg hfg (fun e => hne e.symm) (by rw [beq_eq_false_iff_ne]; omega) b0 b1).mono ?_
    rintro e w' ⟨rfl, rfl⟩
    have hpl : (pushBit ys sz b).length = n + 1 := by unfold pushBit; rw [if_neg h8]; simp [hn]
    have hpm : (pushBit ys sz b).map (Value.int .u8) = (ys.map (Value.int .u8)).set n (Value.int .u8 (orB (ys[n]?.getD 0) b (sz % 8))) := by
      unfold pushBit; rw [if_neg h8, hn]; simp
    refine ⟨rfl, ⟨some ⟨g', 0, none⟩, c, ?_, ?_, ?_⟩, ?_⟩
    · rw [hpl]
      exact ((hR.other (p := ⟨g', n, none⟩) hne _).set1 _).drew
    · rw [hpl, hpm]
      have ho := owns_set hown n (.int .u8 (orB (ys[n]?.getD 0) b (sz % 8)))
      exact ownsRow_setCell_other ho (a := ⟨R, 1, none⟩) (by simp [Value.ownBlock]; omega) _
    · rw [hpl]; exact hg
    · exact (((Kept.refl T w).setCell (p := ⟨g', n, none⟩) (hg g' rfl) _).setCell (p := ⟨R, 1, none⟩) hTR _).drew

/-- The bytes behind the lowest k bits of v. -/
def pushN (ys : List Int) (sz v : Nat) : Nat → List Int
  | 0 => ys
  | k + 1 => pushBit (pushN ys sz v k) (sz + k) ((v / 2 ^ k % 2 : Nat) : Int)
theorem pushN_length (ys : List Int) (sz v k : Nat) (h : ys.length = (sz + 7) / 8) : (pushN ys sz v k).length = (sz + k + 7) / 8 := by
  induction k with
  | zero => exact h
  | succ k ih => exact pushBit_length _ _ _ ih

set_option maxHeartbeats 1000000 in
theorem put_any (T : Nat → Prop) (R : Nat) (ys : List Int) (sz v n : Nat) (w : World) (hW : IsWr T w R ys sz) (hT : ∀ k, T k → k < w.heap.size) (hTR : ¬ T R) (hlen : ys.length = (sz + 7) / 8) (hsz : sz + 32 < 1125899906842624) (hv : v < 4294967296) (hn : n ≤ 32) :
    Calls Tryd.prog 54 #[.pointer (some ⟨R, 0, none⟩), .int .u32 v, .int .i64 n] w fun e w' => e = .returned (.int .i64 0) ∧ IsWr T w' R (pushN ys sz v n) (sz + n) ∧ Kept T w w' := by
  go_enter Tryd.func54, Tryd.ntmps54
  go_wp2
  go_loopw [17] (fun i wr => ∃ k : Nat, k ≤ n ∧ i = .int .i64 k ∧ IsWr T wr R (pushN ys sz v k) (sz + k) ∧ Kept T w wr) (fun i _ => n - (intOf i).toNat)
  case atStart => exact ⟨0, by omega, rfl, hW, Kept.refl _ _⟩
  case round =>
    obtain ⟨k, hk, rfl, hI, hK⟩ := hrel
    by_cases hlt : k < n
    · have hb : Hid (bits .and .u32 ((v : Int) / 2 ^ k) 1 = ((v / 2 ^ k % 2 : Nat) : Int)) := by
        show _ = _
        have hd : v / 2 ^ k ≤ v := Nat.div_le_self _ _
        have e : (v : Int) / 2 ^ k = ((v / 2 ^ k : Nat) : Int) := by simp
        rw [e]
        generalize v / 2 ^ k = q at hd
        rw [u32_and_one _ (by omega) (by omega)]
        omega
      go_wp2_with fail
      rw [hb.out]
      refine (putBit_any T R _ (sz + k) _ wr hI (fun j hj => Nat.lt_of_lt_of_le (hT j hj) hK.size) hTR (pushN_length ys sz v k hlen) (by omega) (by omega) (by omega)).mono ?_
      rintro e w' ⟨rfl, hI', hK'⟩
      go_wp2
      go_roundw
      case rel => exact ⟨k + 1, by omega, by go_num, hI', hK.trans hK'⟩
      case measure => simp [intOf]; omega
    · obtain rfl : k = n := by omega
      go_wp2
      go_ret
      exact ⟨rfl, hI, hK⟩
end Go.Proofs.YtinbilbgipfemaaDoor
