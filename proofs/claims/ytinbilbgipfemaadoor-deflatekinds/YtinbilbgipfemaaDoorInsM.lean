import Derived.Test.YtinbilbgipfemaaDoorTabM
import Derived.Shelf.Abstract
import Derived.BigRegion
/- Insertion sort of symbols by how often they come, in place. -/
namespace Go.Proofs.YtinbilbgipfemaaDoor
open Go.RowKit

/-- Block G begins with the ints l. -/
def OrdIn (W : World) (G : Nat) (l : List Int) : Prop := ∃ cs : Array Value, Row W G 3 cs ∧ l.length ≤ cs.size ∧ ∀ i (h : i < l.length), cs[i]? = some (.int .i64 l[i])
theorem OrdIn.lt {W : World} {G : Nat} {l : List Int} (h : OrdIn W G l) : G < W.heap.size := h.choose_spec.1.lt
theorem OrdIn.cell {W : World} {G : Nat} {l : List Int} (h : OrdIn W G l) (i : Nat) (hi : i < l.length) : W.cell? ⟨G, i, none⟩ = some (.int .i64 (l[i]?.getD 0)) := by
  obtain ⟨cs, hr, _, hc⟩ := h
  rw [hr.cell (hc i hi)]
  simp [hi]
theorem OrdIn.frozen {W : World} {G : Nat} {l : List Int} (h : OrdIn W G l) (i : Nat) : W.frozen? ⟨G, i, none⟩ = false := h.choose_spec.1.frozen i
theorem OrdIn.set {W : World} {G : Nat} {l : List Int} (h : OrdIn W G l) (i : Nat) (v : Int) : OrdIn (W.setCell ⟨G, i, none⟩ (.int .i64 v)) G (l.set i v) := by
  obtain ⟨cs, hr, hs, hc⟩ := h
  refine ⟨_, hr.set i _, by simpa using hs, fun j hj => ?_⟩
  have hj' : j < l.length := by simpa using hj
  rw [Array.getElem?_setIfInBounds]
  by_cases e : i = j
  · subst e
    simp [show i < cs.size by omega]
  · rw [if_neg e, hc j hj', List.getElem_set_ne e]
theorem OrdIn.kept {S : Nat → Prop} {W W' : World} {G : Nat} {l : List Int} (h : OrdIn W G l) (hk : Kept S W W') (hS : S G) : OrdIn W' G l := by
  obtain ⟨cs, hr, hs, hc⟩ := h
  exact ⟨cs, hr.kept hk hS, hs, hc⟩
theorem OrdIn.ints {S : Nat → Prop} {W : World} {G : Nat} {l : List Int} (h : OrdIn W G l) (hS : S G) (cap : Nat) : IntsIn S W (.slice (some ⟨G, 0, none⟩) l.length cap) l :=
  .inr ⟨G, 0, cap, rfl, hS, fun j hj => by rw [Nat.zero_add]; exact h.cell j hj⟩

theorem Kept.drewN {S : Nat → Prop} {a w : World} (h : Kept S a w) (n : Nat) : Kept S a (w.drewN n) := ⟨h.os, h.tape, h.output, h.size, h.block⟩
theorem OrdIn.drewN {W : World} {G : Nat} {l : List Int} (h : OrdIn W G l) (n : Nat) : OrdIn (W.drewN n) G l := h

def ltF (fs : List Int) (x y : Int) : Bool := decide (cmpZ (fs[x.toNat]?.getD 0) (fs[y.toNat]?.getD 0) < 0)
def swL (l : List Int) (j : Nat) : List Int := (l.set (j + 1) (l[j]?.getD 0)).set j (l[j + 1]?.getD 0)
def insIn (lt : Int → Int → Bool) (a : Nat) : Nat → List Int → List Int
  | 0, l => l
  | j + 1, l => if a < j + 1 ∧ lt (l[j + 1]?.getD 0) (l[j]?.getD 0) = true then insIn lt a j (swL l j) else l
def insOut (lt : Int → Int → Bool) (a : Nat) (l : List Int) : Nat → List Int
  | 0 => l
  | k + 1 => insIn lt a (a + (k + 1)) (insOut lt a l k)
theorem swL_length (l : List Int) (j : Nat) : (swL l j).length = l.length := by simp [swL]
theorem swL_mem (P : Int → Prop) (l : List Int) (j : Nat) (hj : j + 1 < l.length) (h : ∀ z ∈ l, P z) : ∀ z ∈ swL l j, P z := by
  intro z hz
  have e0 : l[j]?.getD 0 = l[j] := by simp [show j < l.length by omega]
  have e1 : l[j + 1]?.getD 0 = l[j + 1] := by simp [hj]
  rw [swL, e0, e1] at hz
  rcases List.mem_or_eq_of_mem_set hz with hz | rfl
  · rcases List.mem_or_eq_of_mem_set hz with hz | rfl
    · exact h _ hz
    · exact h _ (List.getElem_mem _)
  · exact h _ (List.getElem_mem _)

set_option maxRecDepth 100000 in
set_option maxHeartbeats 4000000 in
theorem ins_any (S : Nat → Prop) (GO Bf cap a b : Nat) (fa : Option Addr) (fc : Nat) (fs l : List Int) (w : World) (hO : OrdIn w GO l) (hG : ¬ S GO) (hSB : S Bf) (hc : w.cell? ⟨Bf, 0, none⟩ = some (.slice fa fs.length fc)) (hF : IntsIn S w (.slice fa fs.length fc) fs)
    (hl : ∀ z ∈ l, 0 ≤ z ∧ z < fs.length) (hab : a ≤ b) (hb : b ≤ l.length) (hn : l.length ≤ 320) :
    Calls Tryd.prog 96 #[.slice (some ⟨GO, 0, none⟩) l.length cap, .int .i64 a, .int .i64 b, .func (.func 84) #[] #[.pointer (some ⟨Bf, 0, none⟩)]] w fun e w' =>
      e = .returned (.tuple #[]) ∧ OrdIn w' GO (insOut (ltF fs) a l (b - a - 1)) ∧ Kept (fun k => k ≠ GO) w w' := by
  have hSk : ∀ {A B : World}, Kept (fun k => k ≠ GO) A B → Kept S A B := fun h => h.mono (fun k hk e => hG (e ▸ hk))
  have hcmp : ∀ (W : World), Kept (fun k => k ≠ GO) w W → ∀ x y : Nat, x < fs.length → y < fs.length → ∀ n, Calls Tryd.prog 84 #[.int .i64 (x : Int), .int .i64 (y : Int), .pointer (some ⟨Bf, 0, none⟩)] (W.drewN n) fun e w' => e = .returned (.int .i64 (cmpZ (fs[x]?.getD 0) (fs[y]?.getD 0))) ∧ ∃ q, w' = (W.drewN n).drewN q :=
    fun W hk x y hx hy n => less_any S Bf fa fc fs x y (W.drewN n) hx hy (((hSk hk).cell (p := ⟨Bf, 0, none⟩) hSB).trans hc) (hF.kept (hSk hk) : IntsIn S W _ _)
  have HC : Hid _ := hcmp
  clear hcmp hSk hF hc
  have hOlen : ∀ k, (insOut (ltF fs) a l k).length = l.length ∧ True := fun k => ⟨by
    have inl : ∀ j l', (insIn (ltF fs) a j l').length = l'.length := by
      intro j
      induction j with
      | zero => exact fun _ => rfl
      | succ j ih => intro l'; rw [insIn]; split; rw [ih, swL_length]; rfl
    induction k with
    | zero => rfl
    | succ k ih => rw [insOut, inl]; exact ih, trivial⟩
  go_enter Tryd.func96, Tryd.ntmps96
  go_wp2
  go_loopw [8] (fun i wr => ∃ (k : Nat) (lk : List Int), k ≤ b - a - 1 ∧ i = .int .i64 ((a + 1 + k : Nat) : Int) ∧ lk = insOut (ltF fs) a l k ∧ OrdIn wr GO lk ∧ (∀ z ∈ lk, 0 ≤ z ∧ z < fs.length) ∧ Kept (fun k => k ≠ GO) w wr)
    (fun i _ => b + 1 - (intOf i).toNat)
  case atStart => exact ⟨0, l, Nat.zero_le _, by simp, rfl, hO, hl, Kept.refl _ _⟩
  case round =>
    obtain ⟨k, lk, hk, rfl, hlk, hOk, hmk, hKk⟩ := hrel
    have hlen : lk.length = l.length := by rw [hlk]; exact (hOlen k).1
    by_cases hlt : a + 1 + k < b
    · have hltz : ((a + 1 + k : Nat) : Int) < (b : Int) := by omega
      have HLK : Hid (lk = insOut (ltF fs) a l k) := hlk
      clear hlk
      obtain ⟨i, hi⟩ : ∃ i, i = a + 1 + k := ⟨_, rfl⟩
      rw [← hi] at hltz ⊢
      have HI : Hid (i = a + 1 + k) := hi
      clear hi
      go_wp2
      go_loopw [9] (fun v wr2 => ∃ (j : Nat) (lj : List Int), v = .int .i64 (j : Int) ∧ a ≤ j ∧ j ≤ i ∧ Hid (insIn (ltF fs) a j lj = insIn (ltF fs) a i lk) ∧ OrdIn wr2 GO lj ∧ lj.length = l.length ∧ (∀ z ∈ lj, 0 ≤ z ∧ z < fs.length) ∧ Kept (fun k => k ≠ GO) w wr2)
        (fun v _ => (intOf v).toNat)
      case atStart => exact ⟨i, lk, rfl, by have := HI.out; omega, Nat.le_refl _, rfl, hOk, hlen, hmk, hKk⟩
      case round =>
        clear hOk hmk hKk hlen
        obtain ⟨j, lj, rfl, haj, hji, HIN, hOj, hlj, hmj, hKj⟩ := hrel
        have hib : i < b := by omega
        have out : (insIn (ltF fs) a j lj = lj) → Hid (lj = insOut (ltF fs) a l (k + 1)) := fun h => by
          show _ = _
          rw [insOut, ← show lk = _ from HLK.out, show a + (k + 1) = i by have := HI.out; omega, ← HIN.out, h]
        have OUT : Hid _ := out
        clear out
        by_cases hja : a < j
        · obtain ⟨jp, rfl⟩ : ∃ jp, j = jp + 1 := ⟨j - 1, by omega⟩
          have hjl : jp + 1 < lj.length := by omega
          have cj := hOj.cell (jp + 1) hjl
          have cp := hOj.cell jp (by omega)
          have fj := hOj.frozen (jp + 1)
          have fp := hOj.frozen jp
          have ej : lj[jp + 1]?.getD 0 = lj[jp + 1] := by simp [hjl]
          have ep : lj[jp]?.getD 0 = lj[jp] := by simp [show jp < lj.length by omega]
          obtain ⟨x, hx⟩ := Int.eq_ofNat_of_zero_le (hmj _ (List.getElem_mem hjl)).1
          obtain ⟨y, hy⟩ := Int.eq_ofNat_of_zero_le (hmj _ (List.getElem_mem (show jp < lj.length by omega))).1
          have hxl := (hmj _ (List.getElem_mem hjl)).2
          have hyl := (hmj _ (List.getElem_mem (show jp < lj.length by omega))).2
          have hcc := HC.out wr hKj x y (by omega) (by omega)
          have HLT : Hid (ltF fs (lj[jp + 1]?.getD 0) (lj[jp]?.getD 0) = decide (cmpZ (fs[x]?.getD 0) (fs[y]?.getD 0) < 0)) := by
            show _ = _
            rw [ej, ep, hx, hy, ltF]
            simp
          have HSW : Hid (OrdIn ((wr.setCell ⟨GO, jp + 1, none⟩ (.int .i64 (y : Int))).setCell ⟨GO, jp, none⟩ (.int .i64 (x : Int))) GO (swL lj jp)) := by
            have := (hOj.set (jp + 1) (y : Int)).set jp (x : Int)
            rw [swL, ej, ep, hx, hy]
            exact this
          have HMJ : Hid (∀ z ∈ swL lj jp, 0 ≤ z ∧ z < fs.length) := swL_mem _ lj jp hjl hmj
          have HKW : Hid (Kept (fun k => k ≠ GO) w ((wr.setCell ⟨GO, jp + 1, none⟩ (.int .i64 (y : Int))).setCell ⟨GO, jp, none⟩ (.int .i64 (x : Int)))) := (hKj.setCell (p := ⟨GO, jp + 1, none⟩) (by simp) _).setCell (p := ⟨GO, jp, none⟩) (by simp) _
          have HOJ : Hid (OrdIn wr GO lj ∧ (∀ z ∈ lj, 0 ≤ z ∧ z < fs.length) ∧ Kept (fun k => k ≠ GO) w wr) := ⟨hOj, hmj, hKj⟩
          rw [ej, hx] at cj
          rw [ep, hy] at cp
          have hins : insIn (ltF fs) a (jp + 1) lj = if a < jp + 1 ∧ ltF fs (lj[jp + 1]?.getD 0) (lj[jp]?.getD 0) = true then insIn (ltF fs) a jp (swL lj jp) else lj := rfl
          have HINS : Hid _ := hins
          clear hins hOj hmj hKj ej ep hx hy hxl hyl hO hl hOlen
          generalize cmpZ (fs[x]?.getD 0) (fs[y]?.getD 0) = r at hcc HLT
          have hjaz : (a : Int) < (jp : Int) + 1 := by omega
          have hwp : IntKind.i64.wrap (jp : Int) = (jp : Int) := by rw [IntKind.wrap_i64]; omega
          have jz : (jp : Int) + 1 < (l.length : Int) := by omega
          have jz1 : (jp : Int) < (l.length : Int) := by omega
          have p0 : (0 : Int) ≤ (jp : Int) + 1 := by omega
          have e0 : ((jp : Int) + 1).toNat = jp + 1 := by omega
          rw [hlj] at hjl
          have eg : ∀ args w, (callFunc 84 args).run Tryd.prog w = .ok (.enter 84 args) w := enters_of Tryd.func84 (by kernel_rfl) rfl
          by_cases hr : r < 0
          · go_wp2
            go_quiet (first | (go_at_fn 84; refine Calls.quiet_of (hcc _)))
            go_wp2
            have HSW' : Hid (OrdIn (((wr.drewN nq).setCell ⟨GO, jp + 1, none⟩ (.int .i64 (y : Int))).setCell ⟨GO, jp, none⟩ (.int .i64 (x : Int))) GO (swL lj jp)) := HSW.out
            have HKW' : Hid (Kept (fun k => k ≠ GO) w (((wr.drewN nq).setCell ⟨GO, jp + 1, none⟩ (.int .i64 (y : Int))).setCell ⟨GO, jp, none⟩ (.int .i64 (x : Int)))) := ⟨HKW.out.os, HKW.out.tape, HKW.out.output, HKW.out.size, HKW.out.block⟩
            have cj' : (wr.drewN nq).cell? ⟨GO, jp + 1, none⟩ = some (.int .i64 (x : Int)) := cj
            have cp' : (wr.drewN nq).cell? ⟨GO, jp, none⟩ = some (.int .i64 (y : Int)) := cp
            have fj' : (wr.drewN nq).frozen? ⟨GO, jp + 1, none⟩ = false := fj
            have fp' : (wr.drewN nq).frozen? ⟨GO, jp, none⟩ = false := fp
            clear cj cp fj fp HSW HKW hcc
            generalize wr.drewN nq = wq at HSW' HKW' cj' cp' fj' fp' ⊢
            have HRL : Hid (insIn (ltF fs) a jp (swL lj jp) = insIn (ltF fs) a i lk) := by
              show _ = _
              rw [← HIN.out, show insIn (ltF fs) a (jp + 1) lj = _ from HINS.out, if_pos ⟨hja, by rw [HLT.out]; simpa using hr⟩]
            have HLS : Hid ((swL lj jp).length = l.length) := (swL_length _ _).trans hlj
            go_region
            all_goals go_wp2
            all_goals go_roundw
            case rel => exact ⟨jp, swL lj jp, by simp, by omega, by omega, HRL, HSW'.out, HLS.out, HMJ.out, HKW'.out.drew⟩
            case measure => simp [intOf]
          · go_wp2
            go_quiet (first | (go_at_fn 84; refine Calls.quiet_of (hcc _)))
            go_wp2
            have hfin : insIn (ltF fs) a (jp + 1) lj = lj := by
              rw [show insIn (ltF fs) a (jp + 1) lj = _ from HINS.out, if_neg (fun h => by have h2 := h.2; rw [HLT.out] at h2; simp at h2; omega)]
            have hi' := HI.out
            exact ⟨⟨k + 1, lj, by omega, by rw [hi']; simp; omega, (OUT.out hfin).out, HOJ.out.1.drewN _, HOJ.out.2.1, HOJ.out.2.2.drewN _⟩, by simp [intOf]; omega⟩
        · obtain rfl : j = a := by omega
          have hjaz : ¬ (j : Int) < (j : Int) := by omega
          have hfin : insIn (ltF fs) j j lj = lj := by
            cases j with
            | zero => rfl
            | succ j => rw [insIn, if_neg (fun h => by omega)]
          have HFN : Hid (lj = insOut (ltF fs) j l (k + 1)) := OUT.out hfin
          have HOJ : Hid (OrdIn wr GO lj ∧ (∀ z ∈ lj, 0 ≤ z ∧ z < fs.length) ∧ Kept (fun k => k ≠ GO) w wr) := ⟨hOj, hmj, hKj⟩
          clear hfin hOj hmj hKj hO hl hOlen OUT HIN HC
          go_wp2
          go_quiet (fail)
          go_wp2
          have hi' := HI.out
          exact ⟨⟨k + 1, lj, by omega, by rw [hi']; simp; omega, HFN.out, HOJ.out.1.drewN _, HOJ.out.2.1, HOJ.out.2.2.drewN _⟩, by simp [intOf]; omega⟩
    · obtain rfl : k = b - a - 1 := by omega
      have hltz : ¬ ((a + 1 + (b - a - 1) : Nat) : Int) < (b : Int) := by omega
      go_wp2
      go_end0
      exact ⟨rfl, hlk ▸ hOk, hKk⟩
end Go.Proofs.YtinbilbgipfemaaDoor
/- slices: a range is swapped, a stretch is turned round, in memory. -/
namespace Go.Proofs.YtinbilbgipfemaaDoor
open Go.RowKit

theorem ord_gt {W : World} {G : Nat} {l : List Int} (h : OrdIn W G l) {i : Nat} (hi : i < l.length) : W.cell? ⟨G, i, none⟩ = some (.int .i64 (gt l i)) := h.cell i hi
theorem ord_sw {W : World} {G : Nat} {l : List Int} (h : OrdIn W G l) (i j : Nat) : OrdIn ((W.setCell ⟨G, i, none⟩ (.int .i64 (gt l j))).setCell ⟨G, j, none⟩ (.int .i64 (gt l i))) G (sw l i j) := (h.set i _).set j _
theorem kept_sw {W : World} {G i j : Nat} (u v : Value) : Kept (fun k => k ≠ G) W ((W.setCell ⟨G, i, none⟩ u).setCell ⟨G, j, none⟩ v) := ((Kept.refl _ W).setCell (p := ⟨G, i, none⟩) (by simp) _).setCell (p := ⟨G, j, none⟩) (by simp) _

set_option maxRecDepth 100000 in
set_option maxHeartbeats 4000000 in
theorem swapRange_any (GO cap a b n : Nat) (f : Value) (l : List Int) (w : World) (hO : OrdIn w GO l) (h1 : a + n ≤ b) (h2 : b + n ≤ l.length) (hn : l.length ≤ 100000) :
    Calls Tryd.prog 101 #[.slice (some ⟨GO, 0, none⟩) l.length cap, .int .i64 a, .int .i64 b, .int .i64 n, f] w fun e w' =>
      e = .returned (.tuple #[]) ∧ OrdIn w' GO (swR l a b n) ∧ Kept (fun k => k ≠ GO) w w' := by
  go_enter Tryd.func101, Tryd.ntmps101
  go_wp2
  go_loopw [10] (fun v wr => ∃ k : Nat, k ≤ n ∧ v = .int .i64 (k : Int) ∧ Hid (OrdIn wr GO (swR l a b k)) ∧ Hid (Kept (fun k => k ≠ GO) w wr)) (fun v _ => n - (intOf v).toNat)
  case atStart => exact ⟨0, Nat.zero_le _, rfl, hO, Kept.refl _ _⟩
  case round =>
    obtain ⟨k, hk, rfl, HO, HK⟩ := hrel
    by_cases hlt : k < n
    · have hlen := swR_len l a b k
      have c1 := ord_gt HO.out (i := a + k) (by omega)
      have c2 := ord_gt HO.out (i := b + k) (by omega)
      have f1 := HO.out.frozen (a + k)
      have f2 := HO.out.frozen (b + k)
      have HS : Hid _ := ord_sw HO.out (a + k) (b + k)
      have HN : Hid (sw (swR l a b k) (a + k) (b + k) = swR l a b (k + 1)) := rfl
      have HKK : Hid _ := HK.out.trans (kept_sw (W := wr) (G := GO) (i := a + k) (j := b + k) (.int .i64 (gt (swR l a b k) (b + k))) (.int .i64 (gt (swR l a b k) (a + k))))
      rw [HN.out] at HS
      generalize gt (swR l a b k) (a + k) = x at c1 HS HKK
      generalize gt (swR l a b k) (b + k) = y at c2 HS HKK
      clear HO HK hlen HN hO
      go_wp2
      go_region
      all_goals go_wp2
      exact ⟨⟨k + 1, by omega, by simp, HS.out, HKK.out.drew⟩, by simp [intOf]; omega⟩
    · obtain rfl : k = n := by omega
      clear hO
      go_wp2
      go_end0
      exact ⟨rfl, HO.out, HK.out⟩

set_option maxRecDepth 100000 in
set_option maxHeartbeats 4000000 in
theorem rotate_any (GO cap a m b : Nat) (f : Value) (l : List Int) (w : World) (hO : OrdIn w GO l) (h1 : a < m) (h2 : m < b) (h3 : b ≤ l.length) (hn : l.length ≤ 100000) :
    Calls Tryd.prog 100 #[.slice (some ⟨GO, 0, none⟩) l.length cap, .int .i64 a, .int .i64 m, .int .i64 b, f] w fun e w' =>
      e = .returned (.tuple #[]) ∧ ∃ l', OrdIn w' GO l' ∧ Rot a m b l l' ∧ Kept (fun k => k ≠ GO) w w' := by
  go_enter Tryd.func100, Tryd.ntmps100
  go_wp2_with fail
  go_loopw [10, 11] (fun v10 v11 wr => ∃ (i j : Nat) (lc : List Int), v10 = .int .i64 (i : Int) ∧ v11 = .int .i64 (j : Int) ∧ 1 ≤ i ∧ i ≤ m - a ∧ 1 ≤ j ∧ j ≤ b - m ∧ lc.length = l.length ∧ Hid (RotSt a m b i j l lc) ∧ Hid (OrdIn wr GO lc) ∧ Hid (Kept (fun k => k ≠ GO) w wr)) (fun v10 v11 _ => (intOf v10).toNat + (intOf v11).toNat)
  case atStart => exact ⟨m - a, b - m, l, congrArg (Value.int .i64) (by omega), congrArg (Value.int .i64) (by omega), by omega, by omega, by omega, by omega, rfl, RotSt.start l (by omega) (by omega), hO, Kept.refl _ _⟩
  case round =>
    obtain ⟨i, j, lc, rfl, rfl, i1, i2, j1, j2, hlen, HR, HO, HK⟩ := hrel
    clear hO
    by_cases hij : i = j
    · subst hij
      have HE : Hid _ := HR.out.end_ i2 j2 (by omega) (by omega) (by omega)
      have HC : Hid _ := swapRange_any GO cap (m - i) m i f lc wr HO.out (by omega) (by omega) (by omega)
      rw [hlen, show ((m - i : Nat) : Int) = (m : Int) - (i : Int) by omega] at HC
      clear HR HO
      go_wp2_with fail
      refine Calls.mono HC.out ?_
      rintro e w1 ⟨rfl, hO1, hK1⟩
      clear HC
      have HO1 : Hid _ := hO1
      have HK1 : Hid _ := HK.out.trans hK1
      clear hO1 hK1
      go_wp2
      go_end0
      exact ⟨rfl, _, HO1.out, HE.out, HK1.out⟩
    · have hijz : ¬ (i : Int) = (j : Int) := by omega
      by_cases hlt : j < i
      · have hltz : (j : Int) < (i : Int) := by omega
        have HE : Hid _ := HR.out.left i2 j2 (by omega) (by omega) (by omega) hlt
        have HC : Hid _ := swapRange_any GO cap (m - i) m j f lc wr HO.out (by omega) (by omega) (by omega)
        have hl2 : (swR lc (m - i) m j).length = l.length := by rw [swR_len]; exact hlen
        rw [hlen, show ((m - i : Nat) : Int) = (m : Int) - (i : Int) by omega] at HC
        clear HR HO
        generalize swR lc (m - i) m j = l2 at HC HE hl2
        go_wp2_with fail
        refine Calls.mono HC.out ?_
        rintro e w1 ⟨rfl, hO1, hK1⟩
        clear HC
        have HO1 : Hid _ := hO1
        have HK1 : Hid _ := HK.out.trans hK1
        clear hO1 hK1
        go_wp2
        exact ⟨⟨i - j, j, l2, congrArg (Value.int .i64) (by omega), rfl, by omega, by omega, j1, j2, hl2, HE, HO1, HK1⟩, by simp [intOf]; omega⟩
      · have hltz : ¬ (j : Int) < (i : Int) := by omega
        have HE : Hid _ := HR.out.right i2 j2 (by omega) (by omega) (by omega) (by omega)
        have HC : Hid _ := swapRange_any GO cap (m - i) (m + j - i) i f lc wr HO.out (by omega) (by omega) (by omega)
        have hl2 : (swR lc (m - i) (m + j - i) i).length = l.length := by rw [swR_len]; exact hlen
        rw [hlen, show ((m - i : Nat) : Int) = (m : Int) - (i : Int) by omega, show ((m + j - i : Nat) : Int) = (m : Int) + (j : Int) - (i : Int) by omega] at HC
        clear HR HO
        generalize swR lc (m - i) (m + j - i) i = l2 at HC HE hl2
        go_wp2_with fail
        refine Calls.mono HC.out ?_
        rintro e w1 ⟨rfl, hO1, hK1⟩
        clear HC
        have HO1 : Hid _ := hO1
        have HK1 : Hid _ := HK.out.trans hK1
        clear hO1 hK1
        go_wp2
        exact ⟨⟨i, j - i, l2, rfl, congrArg (Value.int .i64) (by omega), i1, i2, by omega, by omega, hl2, HE, HO1, HK1⟩, by simp [intOf]; omega⟩
end Go.Proofs.YtinbilbgipfemaaDoor
/- slices: two sorted stretches are merged in place. -/
namespace Go.Proofs.YtinbilbgipfemaaDoor
open Go.RowKit

/-- How often a symbol comes. -/
def keyF (fs : List Int) (x : Int) : Int := fs[x.toNat]?.getD 0
/-- The list of how often, as the closure holds it. -/
structure SEnv (S : Nat → Prop) (GO Bf : Nat) (fa : Option Addr) (fc : Nat) (fs : List Int) (w : World) : Prop where
  hG : ¬ S GO
  hSB : S Bf
  hc : w.cell? ⟨Bf, 0, none⟩ = some (.slice fa fs.length fc)
  hF : IntsIn S w (.slice fa fs.length fc) fs
theorem SEnv.kept {S : Nat → Prop} {GO Bf : Nat} {fa : Option Addr} {fc : Nat} {fs : List Int} {w w' : World} (h : SEnv S GO Bf fa fc fs w) (hk : Kept (fun k => k ≠ GO) w w') : SEnv S GO Bf fa fc fs w' := by
  have hS : Kept S w w' := hk.mono (fun k hk e => h.hG (e ▸ hk))
  exact ⟨h.hG, h.hSB, (hS.cell (p := ⟨Bf, 0, none⟩) h.hSB).trans h.hc, h.hF.kept hS⟩
theorem SEnv.cmp {S : Nat → Prop} {GO Bf : Nat} {fa : Option Addr} {fc : Nat} {fs : List Int} {w : World} (h : SEnv S GO Bf fa fc fs w) {x y : Int} (hx : 0 ≤ x ∧ x < fs.length) (hy : 0 ≤ y ∧ y < fs.length) :
    ∃ r : Int, (r < 0 ↔ keyF fs x < keyF fs y) ∧ ∀ n, Calls Tryd.prog 84 #[.int .i64 x, .int .i64 y, .pointer (some ⟨Bf, 0, none⟩)] (w.drewN n) fun e w' => e = .returned (.int .i64 r) ∧ ∃ q, w' = (w.drewN n).drewN q := by
  obtain ⟨xn, rfl⟩ := Int.eq_ofNat_of_zero_le hx.1
  obtain ⟨yn, rfl⟩ := Int.eq_ofNat_of_zero_le hy.1
  refine ⟨_, ?_, fun n => less_any S Bf fa fc fs xn yn (w.drewN n) (by omega) (by omega) h.hc h.hF⟩
  unfold keyF cmpZ
  rw [Int.toNat_natCast, Int.toNat_natCast]
  split
  · simp; assumption
  · split
    · rename_i h1 h2; simp; omega
    · rename_i h1 h2; simp; omega
def InB (fs l : List Int) : Prop := ∀ z ∈ l, 0 ≤ z ∧ z < fs.length
theorem InB.at {fs l : List Int} (h : InB fs l) {i : Nat} (hi : i < l.length) : 0 ≤ gt l i ∧ gt l i < fs.length := by
  have e : gt l i = l[i] := by simp [gt, hi]
  rw [e]
  exact h _ (List.getElem_mem hi)
theorem SEnv.drewN {S : Nat → Prop} {GO Bf : Nat} {fa : Option Addr} {fc : Nat} {fs : List Int} {w : World} (h : SEnv S GO Bf fa fc fs w) (n : Nat) : SEnv S GO Bf fa fc fs (w.drewN n) := ⟨h.hG, h.hSB, h.hc, h.hF⟩
/-- All that a walk carries along. -/
structure SSt (S : Nat → Prop) (GO Bf : Nat) (fa : Option Addr) (fc : Nat) (fs l : List Int) (w wr : World) : Prop where
  env : SEnv S GO Bf fa fc fs wr
  ord : OrdIn wr GO l
  kept : Kept (fun k => k ≠ GO) w wr
theorem SSt.drewN {S : Nat → Prop} {GO Bf : Nat} {fa : Option Addr} {fc : Nat} {fs l : List Int} {w wr : World} (h : SSt S GO Bf fa fc fs l w wr) (n : Nat) : SSt S GO Bf fa fc fs l w (wr.drewN n) := ⟨h.env.drewN n, h.ord.drewN n, h.kept.drewN n⟩
theorem SSt.start {S : Nat → Prop} {GO Bf : Nat} {fa : Option Addr} {fc : Nat} {fs l : List Int} {w : World} (h : SEnv S GO Bf fa fc fs w) (hO : OrdIn w GO l) : SSt S GO Bf fa fc fs l w w := ⟨h, hO, Kept.refl _ _⟩
theorem SSt.go {S : Nat → Prop} {GO Bf : Nat} {fa : Option Addr} {fc : Nat} {fs l l' : List Int} {w wr wn : World} (h : SSt S GO Bf fa fc fs l w wr) (hk : Kept (fun k => k ≠ GO) wr wn) (hO : OrdIn wn GO l') : SSt S GO Bf fa fc fs l' w wn := ⟨h.env.kept hk, hO, h.kept.trans hk⟩
theorem InB.perm {fs l l' : List Int} (h : InB fs l) (hp : l'.Perm l) : InB fs l' := fun z hz => h z (hp.mem_iff.1 hz)

set_option maxRecDepth 100000 in
set_option maxHeartbeats 4000000 in
theorem sym_one (S : Nat → Prop) (GO Bf cap a b : Nat) (fa : Option Addr) (fc : Nat) (fs l : List Int) (w : World) (hE : SEnv S GO Bf fa fc fs w) (hO : OrdIn w GO l) (hl : InB fs l) (hab : a + 1 < b) (hb : b ≤ l.length) (hn : l.length ≤ 100000) (s2 : Srt (keyF fs) l (a + 1) b) :
    Calls Tryd.prog 97 #[.slice (some ⟨GO, 0, none⟩) l.length cap, .int .i64 a, .int .i64 ((a : Int) + 1), .int .i64 b, .func (.func 84) #[] #[.pointer (some ⟨Bf, 0, none⟩)]] w fun e w' =>
      e = .returned (.tuple #[]) ∧ ∃ l', OrdIn w' GO l' ∧ Seg a b l l' ∧ Srt (keyF fs) l' a b ∧ Kept (fun k => k ≠ GO) w w' := by
  have eg : ∀ args w, (callFunc 84 args).run Tryd.prog w = .ok (.enter 84 args) w := enters_of Tryd.func84 (by kernel_rfl) rfl
  have hda : ((a : Int) + 1) - a = 1 := by omega
  go_enter Tryd.func97, Tryd.ntmps97
  go_wp2_with fail
  go_loopw [10, 11] (fun v10 v11 wr => ∃ (i j : Nat), v10 = .int .i64 (i : Int) ∧ v11 = .int .i64 (j : Int) ∧ a + 1 ≤ i ∧ i ≤ j ∧ j ≤ b ∧ Hid (∀ h, a + 1 ≤ h → h < i → keyF fs (gt l h) < keyF fs (gt l a)) ∧ Hid (∀ h, j ≤ h → h < b → keyF fs (gt l a) ≤ keyF fs (gt l h)) ∧ Hid (SSt S GO Bf fa fc fs l w wr)) (fun v10 v11 _ => (intOf v11).toNat - (intOf v10).toNat)
  case atStart => exact ⟨a + 1, b, by simp, rfl, by omega, by omega, by omega, fun h h1 h2 => by omega, fun h h1 h2 => by omega, SSt.start hE hO⟩
  case round =>
    obtain ⟨i, j, rfl, rfl, i1, ij, jb, HL, HH, HW⟩ := hrel
    clear hE hO
    by_cases hij : i < j
    · obtain ⟨h, hh⟩ : ∃ h, h = (i + j) / 2 := ⟨_, rfl⟩
      obtain ⟨r, hr, hcmp⟩ := HW.out.env.cmp (hl.at (i := h) (by omega)) (hl.at (i := a) (by omega))
      have c1 := ord_gt HW.out.ord (i := h) (by omega)
      have c2 := ord_gt HW.out.ord (i := a) (by omega)
      have HR : Hid _ := hr
      obtain ⟨x, hx⟩ : ∃ x, gt l h = x := ⟨_, rfl⟩
      obtain ⟨y, hy⟩ : ∃ y, gt l a = y := ⟨_, rfl⟩
      rw [hx] at c1 hcmp
      rw [hy] at c2 hcmp
      clear hx hy
      have hhl : (h : Int) < (l.length : Int) := by omega
      have hal : (a : Int) < (l.length : Int) := by omega
      have HHH : Hid _ := hh
      clear hr hh
      go_wp2
      rw [show ((i : Int) + (j : Int)) / 2 = (h : Int) by have := HHH.out; omega]
      by_cases hr0 : r < 0
      · go_quiet (first | (go_at_fn 84; refine Calls.quiet_of (hcmp _)))
        go_wp2
        have hh := HHH.out
        have hk := HR.out.1 hr0
        refine ⟨⟨h + 1, j, by simp, rfl, by omega, by omega, jb, fun z z1 z2 => ?_, HH, HW.out.drewN _⟩, by simp [intOf]; omega⟩
        have := s2 z h z1 (by omega) (by omega)
        omega
      · go_quiet (first | (go_at_fn 84; refine Calls.quiet_of (hcmp _)))
        go_wp2
        have hh := HHH.out
        have hk : ¬ keyF fs (gt l h) < keyF fs (gt l a) := fun c => hr0 (HR.out.2 c)
        refine ⟨⟨i, h, rfl, rfl, i1, by omega, by omega, HL, fun z z1 z2 => ?_, HW.out.drewN _⟩, by simp [intOf]; omega⟩
        have := s2 h z (by omega) z1 z2
        omega
    · obtain rfl : i = j := by omega
      have HS : Hid _ := mvU_srt hb s2 i1 jb HL.out HH.out
      have HG : Hid _ := mvU_seg (l := l) (a := a) (n := i - 1 - a) (b := b) (by omega) hb
      have HO : Hid (OrdIn wr GO l) := HW.out.ord
      have HK : Hid (Kept (fun k => k ≠ GO) w wr) := HW.out.kept
      clear s2 hl HL HH HW
      go_wp2
      go_loopw [13] (fun v13 wr2 => ∃ (n : Nat), v13 = .int .i64 ((a + n : Nat) : Int) ∧ n ≤ i - 1 - a ∧ Hid (OrdIn wr2 GO (mvU l a n)) ∧ Hid (Kept (fun k => k ≠ GO) w wr2)) (fun v13 _ => b - (intOf v13).toNat)
      case atStart => exact ⟨0, by simp, by omega, HO, HK⟩
      case round =>
        obtain ⟨n, rfl, n1, HO1, HK1⟩ := hrel
        clear HO HK
        by_cases hlt : n < i - 1 - a
        · have hlen := mvU_len l a n
          have c1 := ord_gt HO1.out (i := a + n) (by omega)
          have c2 := ord_gt HO1.out (i := a + n + 1) (by omega)
          have f1 := HO1.out.frozen (a + n)
          have f2 := HO1.out.frozen (a + n + 1)
          have HSW : Hid (OrdIn _ GO (mvU l a (n + 1))) := ord_sw HO1.out (a + n) (a + n + 1)
          have HKK : Hid _ := HK1.out.trans (kept_sw (W := wr) (G := GO) (i := a + n) (j := a + n + 1) (.int .i64 (gt (mvU l a n) (a + n + 1))) (.int .i64 (gt (mvU l a n) (a + n))))
          generalize gt (mvU l a n) (a + n) = x at c1 HSW HKK
          generalize gt (mvU l a n) (a + n + 1) = y at c2 HSW HKK
          obtain ⟨p, hp⟩ : ∃ p, a + n = p := ⟨_, rfl⟩
          rw [hp] at c1 c2 f1 f2 HSW HKK ⊢
          have hpi : (p : Int) < (i : Int) - 1 := by omega
          have hpl : (p : Int) + 1 < (l.length : Int) := by omega
          have hpl0 : (p : Int) < (l.length : Int) := by omega
          clear HO1 HK1 hlen
          go_wp2
          go_region
          all_goals go_wp2
          exact ⟨⟨n + 1, congrArg (Value.int .i64) (by omega), by omega, HSW.out, HKK.out.drew⟩, by simp [intOf]; omega⟩
        · obtain rfl : n = i - 1 - a := by omega
          have hpi : ¬ ((a + (i - 1 - a) : Nat) : Int) < (i : Int) - 1 := by omega
          go_wp2
          (try simp only [Exit.inBlock, Exit.then])
          refine bodyPost_ret (results_none rfl _ _ _) rfl ?_
          exact ⟨rfl, _, HO1.out, HG.out, HS.out, HK1.out⟩
end Go.Proofs.YtinbilbgipfemaaDoor
