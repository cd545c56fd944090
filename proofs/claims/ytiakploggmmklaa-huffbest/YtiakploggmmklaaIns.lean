/- Insertion sort of symbols by how often they come, in place. -/
import Derived.Test.YtiakploggmmklaaCmp
import Derived.Shelf.Abstract
namespace Go.Proofs.Ytiakploggmmklaa
open Go.RowKit

/-- Block G begins with the ints l. -/
def OrdIn (W : World) (G : Nat) (l : List Int) : Prop := ∃ cs : Array Value, Row W G 3 cs ∧ l.length ≤ cs.size ∧ ∀ i (h : i < l.length), cs[i]? = some (.int .i64 l[i])
theorem OrdIn.lt {W : World} {G : Nat} {l : List Int} (h : OrdIn W G l) : G < W.heap.size := h.choose_spec.1.lt
theorem OrdIn.cell {W : World} {G : Nat} {l : List Int} (h : OrdIn W G l) (i : Nat) (hi : i < l.length) : W.cell? ⟨G, i, none⟩ = some (.int .i64 (l[i]?.getD 0)) := by
  obtain ⟨cs, hr, _, hc⟩ := h
  rw [hr.cell (hc i hi)]
  simp [hi]
theorem OrdIn.frozen {W : World} {G : Nat} {l : List Int} (h : OrdIn W G l) (i : Nat) : W.frozen? ⟨G, i, none⟩ = false := h.choose_spec.1.frozen i
theorem OrdIn.set {W : World} {G : Nat} {l : List Int} (h : OrdIn W G l) (i : Nat) (v : Int) : OrdIn (W.setCell ⟨G, i, none⟩ (.int .i64 v)) G (l.set i v) := by
  obtain ⟨cs, hr, hs, hc⟩ := h
  refine ⟨_, hr.set i _, by simpa using hs, fun j hj => ?_⟩
  have hj' : j < l.length := by simpa using hj
  rw [Array.getElem?_setIfInBounds]
  by_cases e : i = j
  · subst e
    simp [show i < cs.size by omega]
  · rw [if_neg e, hc j hj', List.getElem_set_ne e]
theorem OrdIn.kept {S : Nat → Prop} {W W' : World} {G : Nat} {l : List Int} (h : OrdIn W G l) (hk : Kept S W W') (hS : S G) : OrdIn W' G l := by
  obtain ⟨cs, hr, hs, hc⟩ := h
  exact ⟨cs, hr.kept hk hS, hs, hc⟩
theorem OrdIn.ints {S : Nat → Prop} {W : World} {G : Nat} {l : List Int} (h : OrdIn W G l) (hS : S G) (cap : Nat) : IntsIn S W (.slice (some ⟨G, 0, none⟩) l.length cap) l :=
  .inr ⟨G, 0, cap, rfl, hS, fun j hj => by rw [Nat.zero_add]; exact h.cell j hj⟩

theorem Kept.drewN {S : Nat → Prop} {a w : World} (h : Kept S a w) (n : Nat) : Kept S a (w.drewN n) := ⟨h.os, h.tape, h.output, h.size, h.block⟩
theorem OrdIn.drewN {W : World} {G : Nat} {l : List Int} (h : OrdIn W G l) (n : Nat) : OrdIn (W.drewN n) G l := h

def ltF (fs : List Int) (x y : Int) : Bool := decide (cmpZ (fs[x.toNat]?.getD 0) (fs[y.toNat]?.getD 0) < 0)
def swL (l : List Int) (j : Nat) : List Int := (l.set (j + 1) (l[j]?.getD 0)).set j (l[j + 1]?.getD 0)
def insIn (lt : Int → Int → Bool) (a : Nat) : Nat → List Int → List Int
  | 0, l => l
  | j + 1, l => if a < j + 1 ∧ lt (l[j + 1]?.getD 0) (l[j]?.getD 0) = true then insIn lt a j (swL l j) else l
def insOut (lt : Int → Int → Bool) (a : Nat) (l : List Int) : Nat → List Int
  | 0 => l
  | k + 1 => insIn lt a (a + (k + 1)) (insOut lt a l k)
theorem swL_length (l : List Int) (j : Nat) : (swL l j).length = l.length := by simp [swL]
theorem swL_mem (P : Int → Prop) (l : List Int) (j : Nat) (hj : j + 1 < l.length) (h : ∀ z ∈ l, P z) : ∀ z ∈ swL l j, P z := by
  intro z hz
  have e0 : l[j]?.getD 0 = l[j] := by simp [show j < l.length by omega]
  have e1 : l[j + 1]?.getD 0 = l[j + 1] := by simp [hj]
  rw [swL, e0, e1] at hz
  rcases List.mem_or_eq_of_mem_set hz with hz | rfl
  · rcases List.mem_or_eq_of_mem_set hz with hz | rfl
    · exact h _ hz
    · exact h _ (List.getElem_mem _)
  · exact h _ (List.getElem_mem _)

set_option maxRecDepth 100000 in
set_option maxHeartbeats 4000000 in
theorem ins_any (S : Nat → Prop) (GO Bf cap a b : Nat) (fa : Option Addr) (fc : Nat) (fs l : List Int) (w : World) (hO : OrdIn w GO l) (hG : ¬ S GO) (hSB : S Bf) (hc : w.cell? ⟨Bf, 0, none⟩ = some (.slice fa fs.length fc)) (hF : IntsIn S w (.slice fa fs.length fc) fs)
    (hl : ∀ z ∈ l, 0 ≤ z ∧ z < fs.length) (hab : a ≤ b) (hb : b ≤ l.length) (hn : l.length ≤ 320) :
    Calls Try.prog 24 #[.slice (some ⟨GO, 0, none⟩) l.length cap, .int .i64 a, .int .i64 b, .func (.func 10) #[] #[.pointer (some ⟨Bf, 0, none⟩)]] w fun e w' =>
      e = .returned (.tuple #[]) ∧ OrdIn w' GO (insOut (ltF fs) a l (b - a - 1)) ∧ Kept (fun k => k ≠ GO) w w' := by
  have hSk : ∀ {A B : World}, Kept (fun k => k ≠ GO) A B → Kept S A B := fun h => h.mono (fun k hk e => hG (e ▸ hk))
  have hcmp : ∀ (W : World), Kept (fun k => k ≠ GO) w W → ∀ x y : Nat, x < fs.length → y < fs.length → ∀ n, Calls Try.prog 10 #[.int .i64 (x : Int), .int .i64 (y : Int), .pointer (some ⟨Bf, 0, none⟩)] (W.drewN n) fun e w' => e = .returned (.int .i64 (cmpZ (fs[x]?.getD 0) (fs[y]?.getD 0))) ∧ ∃ q, w' = (W.drewN n).drewN q :=
    fun W hk x y hx hy n => less_any S Bf fa fc fs x y (W.drewN n) hx hy (((hSk hk).cell (p := ⟨Bf, 0, none⟩) hSB).trans hc) (hF.kept (hSk hk) : IntsIn S W _ _)
  have HC : Hid _ := hcmp
  clear hcmp hSk hF hc
  have hOlen : ∀ k, (insOut (ltF fs) a l k).length = l.length ∧ True := fun k => ⟨by
    have inl : ∀ j l', (insIn (ltF fs) a j l').length = l'.length := by
      intro j
      induction j with
      | zero => exact fun _ => rfl
      | succ j ih => intro l'; rw [insIn]; split; rw [ih, swL_length]; rfl
    induction k with
    | zero => rfl
    | succ k ih => rw [insOut, inl]; exact ih, trivial⟩
  go_enter Try.func24, Try.ntmps24
  go_wp2
  go_loopw [8] (fun i wr => ∃ (k : Nat) (lk : List Int), k ≤ b - a - 1 ∧ i = .int .i64 ((a + 1 + k : Nat) : Int) ∧ lk = insOut (ltF fs) a l k ∧ OrdIn wr GO lk ∧ (∀ z ∈ lk, 0 ≤ z ∧ z < fs.length) ∧ Kept (fun k => k ≠ GO) w wr)
    (fun i _ => b + 1 - (intOf i).toNat)
  case atStart => exact ⟨0, l, Nat.zero_le _, by simp, rfl, hO, hl, Kept.refl _ _⟩
  case round =>
    obtain ⟨k, lk, hk, rfl, hlk, hOk, hmk, hKk⟩ := hrel
    have hlen : lk.length = l.length := by rw [hlk]; exact (hOlen k).1
    by_cases hlt : a + 1 + k < b
    · have hltz : ((a + 1 + k : Nat) : Int) < (b : Int) := by omega
      have HLK : Hid (lk = insOut (ltF fs) a l k) := hlk
      clear hlk
      obtain ⟨i, hi⟩ : ∃ i, i = a + 1 + k := ⟨_, rfl⟩
      rw [← hi] at hltz ⊢
      have HI : Hid (i = a + 1 + k) := hi
      clear hi
      go_wp2
      go_loopw [9] (fun v wr2 => ∃ (j : Nat) (lj : List Int), v = .int .i64 (j : Int) ∧ a ≤ j ∧ j ≤ i ∧ Hid (insIn (ltF fs) a j lj = insIn (ltF fs) a i lk) ∧ OrdIn wr2 GO lj ∧ lj.length = l.length ∧ (∀ z ∈ lj, 0 ≤ z ∧ z < fs.length) ∧ Kept (fun k => k ≠ GO) w wr2)
        (fun v _ => (intOf v).toNat)
      case atStart => exact ⟨i, lk, rfl, by have := HI.out; omega, Nat.le_refl _, rfl, hOk, hlen, hmk, hKk⟩
      case round =>
        clear hOk hmk hKk hlen
        obtain ⟨j, lj, rfl, haj, hji, HIN, hOj, hlj, hmj, hKj⟩ := hrel
        have hib : i < b := by omega
        have out : (insIn (ltF fs) a j lj = lj) → Hid (lj = insOut (ltF fs) a l (k + 1)) := fun h => by
          show _ = _
          rw [insOut, ← show lk = _ from HLK.out, show a + (k + 1) = i by have := HI.out; omega, ← HIN.out, h]
        have OUT : Hid _ := out
        clear out
        by_cases hja : a < j
        · obtain ⟨jp, rfl⟩ : ∃ jp, j = jp + 1 := ⟨j - 1, by omega⟩
          have hjl : jp + 1 < lj.length := by omega
          have cj := hOj.cell (jp + 1) hjl
          have cp := hOj.cell jp (by omega)
          have fj := hOj.frozen (jp + 1)
          have fp := hOj.frozen jp
          have ej : lj[jp + 1]?.getD 0 = lj[jp + 1] := by simp [hjl]
          have ep : lj[jp]?.getD 0 = lj[jp] := by simp [show jp < lj.length by omega]
          obtain ⟨x, hx⟩ := Int.eq_ofNat_of_zero_le (hmj _ (List.getElem_mem hjl)).1
          obtain ⟨y, hy⟩ := Int.eq_ofNat_of_zero_le (hmj _ (List.getElem_mem (show jp < lj.length by omega))).1
          have hxl := (hmj _ (List.getElem_mem hjl)).2
          have hyl := (hmj _ (List.getElem_mem (show jp < lj.length by omega))).2
          have hcc := HC.out wr hKj x y (by omega) (by omega)
          have HLT : Hid (ltF fs (lj[jp + 1]?.getD 0) (lj[jp]?.getD 0) = decide (cmpZ (fs[x]?.getD 0) (fs[y]?.getD 0) < 0)) := by
            show _ = _
            rw [ej, ep, hx, hy, ltF]
            simp
          have HSW : Hid (OrdIn ((wr.setCell ⟨GO, jp + 1, none⟩ (.int .i64 (y : Int))).setCell ⟨GO, jp, none⟩ (.int .i64 (x : Int))) GO (swL lj jp)) := by
            have := (hOj.set (jp + 1) (y : Int)).set jp (x : Int)
            rw [swL, ej, ep, hx, hy]
            exact this
          have HMJ : Hid (∀ z ∈ swL lj jp, 0 ≤ z ∧ z < fs.length) := swL_mem _ lj jp hjl hmj
          have HKW : Hid (Kept (fun k => k ≠ GO) w ((wr.setCell ⟨GO, jp + 1, none⟩ (.int .i64 (y : Int))).setCell ⟨GO, jp, none⟩ (.int .i64 (x : Int)))) := (hKj.setCell (p := ⟨GO, jp + 1, none⟩) (by simp) _).setCell (p := ⟨GO, jp, none⟩) (by simp) _
          have HOJ : Hid (OrdIn wr GO lj ∧ (∀ z ∈ lj, 0 ≤ z ∧ z < fs.length) ∧ Kept (fun k => k ≠ GO) w wr) := ⟨hOj, hmj, hKj⟩
          rw [ej, hx] at cj
          rw [ep, hy] at cp
          have hins : insIn (ltF fs) a (jp + 1) lj = if a < jp + 1 ∧ ltF fs (lj[jp + 1]?.getD 0) (lj[jp]?.getD 0) = true then insIn (ltF fs) a jp (swL lj jp) else lj := rfl
          have HINS : Hid _ := hins
          clear hins hOj hmj hKj ej ep hx hy hxl hyl hO hl hOlen
          generalize cmpZ (fs[x]?.getD 0) (fs[y]?.getD 0) = r at hcc HLT
          have hjaz : (a : Int) < (jp : Int) + 1 := by omega
          have hwp : IntKind.i64.wrap (jp : Int) = (jp : Int) := by rw [IntKind.wrap_i64]; omega
          have jz : (jp : Int) + 1 < (l.length : Int) := by omega
          have jz1 : (jp : Int) < (l.length : Int) := by omega
          have p0 : (0 : Int) ≤ (jp : Int) + 1 := by omega
          have e0 : ((jp : Int) + 1).toNat = jp + 1 := by omega
          rw [hlj] at hjl
          have eg : ∀ args w, (callFunc 10 args).run Try.prog w = .ok (.enter 10 args) w := enters_of Try.func10 (by kernel_rfl) rfl
          by_cases hr : r < 0
          · go_wp2
            go_quiet (first | (go_at_fn 10; refine Calls.quiet_of (hcc _)))
            go_wp2
            have HSW' : Hid (OrdIn (((wr.drewN nq).setCell ⟨GO, jp + 1, none⟩ (.int .i64 (y : Int))).setCell ⟨GO, jp, none⟩ (.int .i64 (x : Int))) GO (swL lj jp)) := HSW.out
            have HKW' : Hid (Kept (fun k => k ≠ GO) w (((wr.drewN nq).setCell ⟨GO, jp + 1, none⟩ (.int .i64 (y : Int))).setCell ⟨GO, jp, none⟩ (.int .i64 (x : Int)))) := ⟨HKW.out.os, HKW.out.tape, HKW.out.output, HKW.out.size, HKW.out.block⟩
            have cj' : (wr.drewN nq).cell? ⟨GO, jp + 1, none⟩ = some (.int .i64 (x : Int)) := cj
            have cp' : (wr.drewN nq).cell? ⟨GO, jp, none⟩ = some (.int .i64 (y : Int)) := cp
            have fj' : (wr.drewN nq).frozen? ⟨GO, jp + 1, none⟩ = false := fj
            have fp' : (wr.drewN nq).frozen? ⟨GO, jp, none⟩ = false := fp
            clear cj cp fj fp HSW HKW hcc
            generalize wr.drewN nq = wq at HSW' HKW' cj' cp' fj' fp' ⊢
            have HRL : Hid (insIn (ltF fs) a jp (swL lj jp) = insIn (ltF fs) a i lk) := by
              show _ = _
              rw [← HIN.out, show insIn (ltF fs) a (jp + 1) lj = _ from HINS.out, if_pos ⟨hja, by rw [HLT.out]; simpa using hr⟩]
            have HLS : Hid ((swL lj jp).length = l.length) := (swL_length _ _).trans hlj
            go_region
            all_goals go_wp2
            all_goals go_roundw
            case rel => exact ⟨jp, swL lj jp, by simp, by omega, by omega, HRL, HSW'.out, HLS.out, HMJ.out, HKW'.out.drew⟩
            case measure => simp [intOf]
          · go_wp2
            go_quiet (first | (go_at_fn 10; refine Calls.quiet_of (hcc _)))
            go_wp2
            have hfin : insIn (ltF fs) a (jp + 1) lj = lj := by
              rw [show insIn (ltF fs) a (jp + 1) lj = _ from HINS.out, if_neg (fun h => by have h2 := h.2; rw [HLT.out] at h2; simp at h2; omega)]
            have hi' := HI.out
            exact ⟨⟨k + 1, lj, by omega, by rw [hi']; simp; omega, (OUT.out hfin).out, HOJ.out.1.drewN _, HOJ.out.2.1, HOJ.out.2.2.drewN _⟩, by simp [intOf]; omega⟩
        · obtain rfl : j = a := by omega
          have hjaz : ¬ (j : Int) < (j : Int) := by omega
          have hfin : insIn (ltF fs) j j lj = lj := by
            cases j with
            | zero => rfl
            | succ j => rw [insIn, if_neg (fun h => by omega)]
          have HFN : Hid (lj = insOut (ltF fs) j l (k + 1)) := OUT.out hfin
          have HOJ : Hid (OrdIn wr GO lj ∧ (∀ z ∈ lj, 0 ≤ z ∧ z < fs.length) ∧ Kept (fun k => k ≠ GO) w wr) := ⟨hOj, hmj, hKj⟩
          clear hfin hOj hmj hKj hO hl hOlen OUT HIN HC
          go_wp2
          go_quiet (fail)
          go_wp2
          have hi' := HI.out
          exact ⟨⟨k + 1, lj, by omega, by rw [hi']; simp; omega, HFN.out, HOJ.out.1.drewN _, HOJ.out.2.1, HOJ.out.2.2.drewN _⟩, by simp [intOf]; omega⟩
    · obtain rfl : k = b - a - 1 := by omega
      have hltz : ¬ ((a + 1 + (b - a - 1) : Nat) : Int) < (b : Int) := by omega
      go_wp2
      go_end0
      exact ⟨rfl, hlk ▸ hOk, hKk⟩
set_option maxRecDepth 100000 in
set_option maxHeartbeats 2000000 in
/-- The stable sort of fewer than twenty symbols. -/
theorem stable_small (S : Nat → Prop) (GO Bf cap : Nat) (fa : Option Addr) (fc : Nat) (fs l : List Int) (w : World) (hO : OrdIn w GO l) (hG : ¬ S GO) (hSB : S Bf) (hc : w.cell? ⟨Bf, 0, none⟩ = some (.slice fa fs.length fc)) (hF : IntsIn S w (.slice fa fs.length fc) fs)
    (hl : ∀ z ∈ l, 0 ≤ z ∧ z < fs.length) (hn : l.length < 20) :
    Calls Try.prog 17 #[.slice (some ⟨GO, 0, none⟩) l.length cap, .int .i64 l.length, .func (.func 10) #[] #[.pointer (some ⟨Bf, 0, none⟩)]] w fun e w' =>
      e = .returned (.tuple #[]) ∧ OrdIn w' GO (insOut (ltF fs) 0 l (l.length - 0 - 1)) ∧ Kept (fun k => k ≠ GO) w w' := by
  have h1 : ¬ (20 : Int) ≤ l.length := by omega
  have h2 : ¬ (20 : Int) < l.length := by omega
  have hins := ins_any S GO Bf cap 0 l.length fa fc fs l w hO hG hSB hc hF hl (Nat.zero_le _) (Nat.le_refl _) (by omega)
  have HINS : Hid _ := hins
  clear hins
  go_enter Try.func17, Try.ntmps17
  go_wp2_with fail
  go_loopw [7, 8] (fun v7 v8 wr => v7 = .int .i64 0 ∧ v8 = .int .i64 20 ∧ wr = w) (fun _ _ _ => 0)
  case atStart => exact ⟨rfl, rfl, rfl⟩
  case round =>
    obtain ⟨rfl, rfl, rfl⟩ := hrel
    go_wp2_with fail
    refine Calls.mono HINS.out ?_
    rintro e w1 ⟨rfl, hO1, hK1⟩
    go_wp2_with fail
    go_loopw [6] (fun v6 wr => v6 = .int .i64 20 ∧ wr = w1) (fun _ _ => 0)
    case atStart => exact ⟨rfl, rfl⟩
    case round =>
      obtain ⟨rfl, rfl⟩ := hrel
      go_wp2_with fail
      go_end0
      exact ⟨rfl, hO1, hK1⟩

set_option maxHeartbeats 1000000 in
theorem sort_small (S : Nat → Prop) (GO Bf cap : Nat) (fa : Option Addr) (fc : Nat) (fs l : List Int) (w : World) (hO : OrdIn w GO l) (hG : ¬ S GO) (hSB : S Bf) (hc : w.cell? ⟨Bf, 0, none⟩ = some (.slice fa fs.length fc)) (hF : IntsIn S w (.slice fa fs.length fc) fs)
    (hl : ∀ z ∈ l, 0 ≤ z ∧ z < fs.length) (hn : l.length < 20) :
    Calls Try.prog 9 #[.slice (some ⟨GO, 0, none⟩) l.length cap, .func (.func 10) #[] #[.pointer (some ⟨Bf, 0, none⟩)]] w fun e w' =>
      e = .returned (.tuple #[]) ∧ OrdIn w' GO (insOut (ltF fs) 0 l (l.length - 0 - 1)) ∧ Kept (fun k => k ≠ GO) w w' := by
  have HST : Hid _ := stable_small S GO Bf cap fa fc fs l w hO hG hSB hc hF hl hn
  go_enter Try.func9, Try.ntmps9
  go_wp2_with fail
  refine Calls.mono HST.out ?_
  rintro e w1 ⟨rfl, hO1, hK1⟩
  go_wp2
  go_end0
  exact ⟨rfl, hO1, hK1⟩
end Go.Proofs.Ytiakploggmmklaa
