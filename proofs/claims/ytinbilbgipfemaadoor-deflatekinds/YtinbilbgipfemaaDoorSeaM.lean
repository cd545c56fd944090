import Derived.Test.YtinbilbgipfemaaDoorChn
import Derived.Test.YtinbilbgipfemaaDoorItsM
import Derived.Laws.ResultCell
import Derived.WalkMore
import Derived.Scope
import Derived.Test.YtinbilbgipfemaaDoorBlkM
import Derived.Test.YtinbilbgipfemaaDoorRep
import Derived.Lib.AppendZeros
import Derived.Laws.IdiomCopy
import Derived.LoopN
import Derived.Test.YtinbilbgipfemaaDoorOrdM
import Derived.Test.YtinbilbgipfemaaDoorCodM
import Derived.Test.YtinbilbgipfemaaDoorRev
/- The search: the copy of the most bytes among the chain's places. -/
namespace Go.Proofs.YtinbilbgipfemaaDoor
open Go.RowKit Go.Shelf

attribute [local go_sem] Oper.semAt_some

/-- A copy of l bytes from d places back, or none. -/
def BestOk (T : List Int) (p mo : Nat) (l d : Nat) : Prop := (l = 0 ∧ d = 0) ∨ (1 ≤ l ∧ l ≤ mo ∧ 1 ≤ d ∧ d ≤ p ∧ d ≤ 32768 ∧ ∀ i, i < l → T[p - d + i]?.getD 0 = T[p + i]?.getD 0)
/-- Where the byte ahead repeats itself, the copy has three bytes at least. -/
def RunHere (T : List Int) (p : Nat) (hd : Int) : Prop := 1 ≤ p ∧ hd = (p : Int) - 1 ∧ ∀ i, i < 3 → T[p - 1 + i]?.getD 0 = T[p + i]?.getD 0

/-- What has come when the places pre are through. -/
def SeaI (T : List Int) (p mo : Nat) (hd : Int) (B7 : Nat) (wd : World) (pre : List Nat) (W : World) : Prop :=
  ∃ l d : Nat, Kept (fun k => k < wd.heap.size ∧ k ≠ B7) wd W ∧ Row W B7 32 #[.int .i64 0, .int .i64 (l : Int), .int .i64 (d : Int)] ∧ BestOk T p mo l d ∧ l < mo ∧ (pre ≠ [] → RunHere T p hd → 3 ≤ l)
def SeaX (T : List Int) (p mo : Nat) (B7 : Nat) (wd : World) (id : Nat) (W : World) : Prop :=
  id = 0 ∧ ∃ d : Nat, Kept (fun k => k < wd.heap.size ∧ k ≠ B7) wd W ∧ Row W B7 32 #[.int .i64 0, .int .i64 (mo : Int), .int .i64 (d : Int)] ∧ BestOk T p mo mo d

theorem kept_grown7 {B7 : Nat} {wd A B : World} {row : Option Nat} (h : Kept (fun k => k < wd.heap.size ∧ k ≠ B7) wd A) (hg : A.grownBy B row) (hr : ∀ r, row = some r → wd.heap.size ≤ r ∧ ∃ o : Obj, A.heap[r]? = some o ∧ o.isCells = false) : Kept (fun k => k < wd.heap.size ∧ k ≠ B7) wd B :=
  h.grown hg (fun k hk => Nat.lt_of_lt_of_le hk.1 h.size) (fun k e hk => by have := (hr k e).1; omega)
theorem row_grown7 {B7 : Nat} {A B : World} {row : Option Nat} {t : TypeId} {cs : Array Value} (h : Row A B7 t cs) (hg : A.grownBy B row) (hr : ∀ r, row = some r → ∃ o : Obj, A.heap[r]? = some o ∧ o.isCells = false) : Row B B7 t cs := by
  refine (hg.block B7 h.lt ?_).trans h
  intro e
  obtain ⟨o, ho, hc⟩ := hr B7 e.symm
  obtain rfl := Option.some.inj (ho.symm.trans h)
  cases hc

theorem run_ge {T : List Int} {p x i : Nat} {hd : Int} (hR : RunHere T p hd) (hx : (x : Int) = hd) (hne : T[x + i]?.getD 0 ≠ T[p + i]?.getD 0) : 3 ≤ i := by
  by_cases h : 3 ≤ i
  · exact h
  · exfalso
    apply hne
    have h1 := hR.2.2 i (by omega)
    have h2 := hR.1
    have h3 := hR.2.1
    rw [show x = p - 1 by omega]
    exact h1
theorem row_set3 {W : World} {B7 : Nat} {a b c : Value} (h : Row W B7 32 #[a, b, c]) (x y z : Value) : Row (((W.setCell ⟨B7, 0, none⟩ x).setCell ⟨B7, 1, none⟩ y).setCell ⟨B7, 2, none⟩ z) B7 32 #[x, y, z] := by
  have := ((h.set 0 x).set 1 y).set 2 z
  simpa using this
theorem kept_set3 {S : Nat → Prop} {wd W : World} {B7 : Nat} (h : Kept S wd W) (hn : ¬ S B7) (x y z : Value) : Kept S wd (((W.setCell ⟨B7, 0, none⟩ x).setCell ⟨B7, 1, none⟩ y).setCell ⟨B7, 2, none⟩ z) :=
  ((h.setCell (p := ⟨B7, 0, none⟩) hn x).setCell (p := ⟨B7, 1, none⟩) hn y).setCell (p := ⟨B7, 2, none⟩) hn z
theorem from_set3 (B : Nat) (W : World) (B7 : Nat) (x y z : Value) : KeepsFrom B W (((W.setCell ⟨B7, 0, none⟩ x).setCell ⟨B7, 1, none⟩ y).setCell ⟨B7, 2, none⟩ z) :=
  (((KeepsOthers.setCell W _ _).trans (KeepsOthers.setCell _ _ _)).trans (KeepsOthers.setCell _ _ _)).from B
theorem from_drewN (B : Nat) (W : World) (k : Nat) : KeepsFrom B W (W.drewN k) := ⟨Nat.le_refl _, fun _ _ _ h _ => h⟩
theorem al_old {W : World} {k : Nat} {o' : Obj} (h : W.heap[k]? = some o') (o : Obj) : (W.alloc o).heap[k]? = some o' := (Below.heap_alloc W o k (Array.getElem?_eq_some_iff.1 h).1).trans h
theorem al_new (W : World) (o : Obj) (k : Nat) (hk : k = W.heap.size) : (W.alloc o).heap[k]? = some o := hk ▸ World.alloc_heap_new W o
theorem sea_start (w : World) (o3 o4 o5 o6 o7 c1 c2 : Obj) : ∃ wd, ((((((w.alloc o3).alloc o4).alloc o5).alloc o6).alloc o7).alloc c1).alloc c2 = wd ∧ wd.heap[w.heap.size]? = some o3 ∧ wd.heap[w.heap.size + 1]? = some o4 ∧ wd.heap[w.heap.size + 1 + 1]? = some o5 ∧ wd.heap[w.heap.size + 1 + 1 + 1]? = some o6 ∧
    wd.heap[w.heap.size + 1 + 1 + 1 + 1]? = some o7 ∧ wd.heap[w.heap.size + 1 + 1 + 1 + 1 + 1]? = some c1 ∧ wd.heap[w.heap.size + 1 + 1 + 1 + 1 + 1 + 1]? = some c2 ∧ wd.heap.size = w.heap.size + 7 ∧ Below w.heap.size w wd := by
  refine ⟨_, rfl, ?_, ?_, ?_, ?_, ?_, ?_, ?_, ?_, ?_⟩
  · exact al_old (al_old (al_old (al_old (al_old (al_old (al_new _ _ _ (by simp)) _) _) _) _) _) _
  · exact al_old (al_old (al_old (al_old (al_old (al_new _ _ _ (by simp)) _) _) _) _) _
  · exact al_old (al_old (al_old (al_old (al_new _ _ _ (by simp)) _) _) _) _
  · exact al_old (al_old (al_old (al_new _ _ _ (by simp)) _) _) _
  · exact al_old (al_old (al_new _ _ _ (by simp)) _) _
  · exact al_old (al_new _ _ _ (by simp)) _
  · exact al_new _ _ _ (by simp)
  · simp
  · exact (((((((Below.refl _ w).alloc (Nat.le_refl _) _).alloc (by simp) _).alloc (by simp; omega) _).alloc (by simp; omega) _).alloc (by simp; omega) _).alloc (by simp; omega) _).alloc (by simp; omega) _

set_option maxRecDepth 100000 in
set_option maxHeartbeats 8000000 in
theorem search_in (D : Nat → Prop) (F H P : Nat) (a : Option Addr) (cap m : Nat) (T hs bs : List Int) (w : World) (hSw : ∀ k, (D k ∨ k = F ∨ k = H ∨ k = P) → k < w.heap.size) (hF : FindAt D F H P a cap m T hs bs w) (p mo : Nat) (hp : p + mo ≤ T.length) (hmo : 3 ≤ mo ∧ mo ≤ 258) (hm : 1 ≤ m ∧ m ≤ 32768) (hl : T.length ≤ 2000000) (hT : AreBytes T) (hC : ChainOk T m p hs bs) :
    CallsIn Fence.wide 6 Tryd.prog 49 #[.pointer (some ⟨F, 0, none⟩), .int .i64 (p : Int), .int .i64 (mo : Int)] w fun e w' => Below w.heap.size w w' ∧ ∃ l d : Nat, e = .returned (It.val ⟨0, (l : Int), (d : Int)⟩) ∧ BestOk T p mo l d ∧ (RunHere T p (hs[hashN T m p]?.getD 0) → 3 ≤ l) := by
  refine callsIn_of_wp_marks Tryd.func49 rfl trivial ?_ rfl
  simp only [Tryd.ntmps49, List.size_toArray, List.length_cons, List.length_nil, Nat.reduceAdd, Nat.reduceSub, Array.replicate_succ, Array.replicate_zero, List.push_toArray, List.append_toArray, List.nil_append, List.cons_append]
  gi_wp2
  refine wpIn_wide.2 (wp_scope_straight ((wpIn_wide (n := 6)).1 ?_))
  gi_wp2
  refine wpIn_label ?_
  gi_wp2_with (refine ⟨trivial, ?_⟩; gi_at_call 67; refine (callsIn_wide.2 (chain_any _ _ _)).mono ?_; rintro e w' ⟨rfl, rfl⟩)
  obtain ⟨wd, hwd, r3, r4, r5, r6, r7, r8, r9, hsz, hBd⟩ := sea_start w (.cells #[.pointer (some ⟨F, 0, none⟩)] 48) (.cells #[.int .i64 (p : Int)] 3) (.cells #[.int .i64 (mo : Int)] 3) (.cells #[.int .i64 0, .int .i64 0, .int .i64 0] 32) (.cells #[.int .i64 0, .int .i64 0, .int .i64 0] 32) (.cells #[.pointer (some ⟨F, 0, none⟩)] 48) (.cells #[.int .i64 (p : Int)] 3)
  rw [hwd]
  clear hwd
  have r3 : Row wd _ 48 _ := r3
  have r4 : Row wd _ 3 _ := r4
  have r5 : Row wd _ 3 _ := r5
  have r6 : Row wd _ 32 _ := r6
  have r7 : Row wd _ 32 _ := r7
  have r8 : Row wd _ 48 _ := r8
  have r9 : Row wd _ 3 _ := r9
  generalize hC2 : w.heap.size + 1 + 1 + 1 + 1 + 1 + 1 = C2 at r9 ⊢
  generalize hC1 : w.heap.size + 1 + 1 + 1 + 1 + 1 = C1 at r8 ⊢
  generalize hB7 : w.heap.size + 1 + 1 + 1 + 1 = B7 at r7 ⊢
  generalize hB6 : w.heap.size + 1 + 1 + 1 = B6 at r6 ⊢
  generalize hB5 : w.heap.size + 1 + 1 = B5 at r5 ⊢
  generalize hB4 : w.heap.size + 1 = B4 at r4 ⊢
  obtain ⟨hd, HHD⟩ : ∃ hd, Hid (hs[hashN T m p]?.getD 0 = hd) := ⟨_, rfl⟩
  have hFd : FindAt D F H P a cap m T hs bs wd := hF.kept (Kept.of_below hBd hSw) (fun _ h => h)
  have HFd : Hid (FindAt D F H P a cap m T hs bs wd) := hFd
  have HNs : Hid (∀ k, (D k ∨ k = F ∨ k = H ∨ k = P) → k < w.heap.size) := hSw
  have hSwd : ∀ k, ((D k ∨ k = F ∨ k = H ∨ k = P) ∨ k = C1 ∨ k = C2) → k < wd.heap.size := by
    rintro k (h | rfl | rfl)
    · have := hSw k h; omega
    · omega
    · omega
  have hseq := chain_seq 5 D F H P C1 C2 a cap m T hs bs (fun k => (D k ∨ k = F ∨ k = H ∨ k = P) ∨ k = C1 ∨ k = C2) (.inr (.inl rfl)) (.inr (.inr rfl)) (fun k h => .inl h) p (by omega) hm hl hT hC wd hSwd hFd (r8.cell rfl) (r9.cell rfl)
  rw [HHD.out] at hseq
  refine wpIn_range_brk rfl (by omega) (gf := 78) (lb := #[.pointer (some ⟨C1, 0, none⟩), .pointer (some ⟨C2, 0, none⟩)]) rfl trivial (enters_of Tryd.func78 (by kernel_rfl) rfl) hseq
    Kept.trans (keptK_b hSwd) (fun _ => rfl)
    (SeaI T p mo hd B7 wd) (SeaX T p mo B7 wd)
    (fun s A B row hs hg hr => by
      obtain ⟨l, d, h1, h2, h3⟩ := hs
      exact ⟨l, d, kept_grown7 h1 hg hr, row_grown7 h2 hg (fun r e => (hr r e).2), h3⟩)
    (fun s A B row hs hg hr => by
      obtain ⟨h0, d, h1, h2, h3⟩ := hs
      exact ⟨h0, d, kept_grown7 h1 hg hr, row_grown7 h2 hg (fun r e => (hr r e).2), h3⟩)
    ⟨0, 0, Kept.refl _ _, r7, .inl ⟨rfl, rfl⟩, by omega, fun h => absurd rfl h⟩
    (fun x => { tmps := #[.pointer (some ⟨F, 0, none⟩), .int .i64 (p : Int), .int .i64 (mo : Int), .pointer (some ⟨w.heap.size, 0, none⟩), .pointer (some ⟨B4, 0, none⟩), .pointer (some ⟨B5, 0, none⟩), .pointer (some ⟨B6, 0, none⟩), .pointer (some ⟨B7, 0, none⟩), .int .i64 (x : Int), undef, .pointer (some ⟨F, 0, none⟩), .int .i64 (p : Int), .func (.func 78) #[] #[.pointer (some ⟨C1, 0, none⟩), .pointer (some ⟨C2, 0, none⟩)], .int .i64 (x : Int), undef, undef, undef, undef, undef, undef, undef, undef, undef, undef, undef, undef, undef, undef, undef, undef, undef, undef, undef, undef, undef, undef, undef, undef, undef, undef, undef, undef, undef, undef, undef, undef, undef, undef, undef, undef, undef, undef, undef, undef, undef, undef, undef, undef, undef, undef, undef, undef, undef, undef, undef, undef, undef, undef, undef, undef, undef, undef, undef, undef], defers := [] }) ?assign ?body ?done ?stop
  case assign =>
    intro l x W K hK
    gi_wp2
    exact hK
  case body =>
    rintro l pre x W ⟨ln, d, hK, hR7, hBest, hlt, hrun⟩ ⟨hx1, hx2, hx3, hx4⟩
    clear hseq
    have q3 := (hK.cell (p := ⟨w.heap.size, 0, none⟩) ⟨by show w.heap.size < _; omega, by show w.heap.size ≠ _; omega⟩).trans (r3.cell (i := 0) rfl)
    have q4 := (hK.cell (p := ⟨B4, 0, none⟩) ⟨by show B4 < _; omega, by show B4 ≠ _; omega⟩).trans (r4.cell (i := 0) rfl)
    have q5 := (hK.cell (p := ⟨B5, 0, none⟩) ⟨by show B5 < _; omega, by show B5 ≠ _; omega⟩).trans (r5.cell (i := 0) rfl)
    have hFW : FindAt D F H P a cap m T hs bs W := HFd.out.kept hK (fun k h => ⟨by have := HNs.out k h; omega, by have := HNs.out k h; omega⟩)
    have qF := hFW.fin.cell (i := 0) rfl
    obtain ⟨tb, off, rfl, hD, hc⟩ := hFW.txt.at 0 (by omega)
    have HC : Hid (∀ j : Nat, j < T.length → W.cell? ⟨tb, off + j, none⟩ = some (.int .u8 (T[j]?.getD 0))) := hc
    have q7 := hR7.cell (i := 1) rfl
    have c1 := hc (x + ln) (by omega)
    have c2 := hc (p + ln) (by omega)
    have hw1 : IntKind.i64.wrap ((x : Int) + (ln : Int)) = (x : Int) + (ln : Int) := by simp [IntKind.wrap, IntKind.bits, IntKind.signed]; omega
    have hw2 : IntKind.i64.wrap ((p : Int) + (ln : Int)) = (p : Int) + (ln : Int) := by simp [IntKind.wrap, IntKind.bits, IntKind.signed]; omega
    have l1 : (x : Int) + (ln : Int) < (T.length : Int) := by omega
    have l2 : (p : Int) + (ln : Int) < (T.length : Int) := by omega
    obtain ⟨bx, HBX⟩ : ∃ bx, Hid (T[x + ln]?.getD 0 = bx) := ⟨_, rfl⟩
    obtain ⟨bp, HBP⟩ : ∃ bp, Hid (T[p + ln]?.getD 0 = bp) := ⟨_, rfl⟩
    rw [HBX.out] at c1
    rw [HBP.out] at c2
    have HST : Hid (Kept (fun k => k < wd.heap.size ∧ k ≠ B7) wd W ∧ Row W B7 32 #[.int .i64 0, .int .i64 (ln : Int), .int .i64 (d : Int)] ∧ BestOk T p mo ln d ∧ ln < mo ∧ (pre ≠ [] → RunHere T p hd → 3 ≤ ln)) := ⟨hK, hR7, hBest, hlt, hrun⟩
    have HPL : Hid (x < p ∧ p - x ≤ 32768 ∧ x + 3 ≤ T.length ∧ (pre = [] → (x : Int) = hd)) := ⟨hx1, hx2, hx3, hx4⟩
    clear hK hR7 hBest hrun hx1 hx2 hx3 hx4 hFW hc hT hC hF hFd hSw r3 r4 r5 r6 r7 r8 r9
    gi_wp2_with fail
    refine wpIn_quiet_round (by kernel_rfl) (by kernel_rfl) (by kernel_rfl) ?_
    repeat (gi_big_quiet_step (fail))
    refine wpQuietIn_nil ?_
    rintro _ ⟨nq, rfl⟩
    by_cases heq : bx = bp
    rotate_left
    · have e1 : (bx == bp) = false := by simpa using heq
      have HNE : Hid (T[x + ln]?.getD 0 ≠ T[p + ln]?.getD 0) := by rw [HBX.out, HBP.out]; exact heq
      gi_wp2
      obtain ⟨hK, hR7, hBest, hlt, hrun⟩ := HST.out
      obtain ⟨hx1, hx2, hx3, hx4⟩ := HPL.out
      exact ⟨⟨Nat.le_refl _, fun _ _ _ h _ => h⟩, kept_drewN _ _ _, ln, d, hK.trans (kept_drewN _ _ _), hR7, hBest, hlt, fun _ hRun => by
        by_cases h0 : pre = []
        · exact run_ge hRun (hx4 h0) HNE.out
        · exact hrun h0 hRun⟩
    · have e1 : (bx == bp) = true := by simpa using heq
      gi_wp2
      gi_loopw [36] (fun v36 wr => ∃ i k : Nat, v36 = .int .i64 (i : Int) ∧ i ≤ mo ∧ Hid (∀ j, j < i → T[x + j]?.getD 0 = T[p + j]?.getD 0) ∧ wr = W.drewN k) (fun v36 _ => mo - (intOf v36).toNat)
      case atStart => exact ⟨0, nq, rfl, by omega, (fun j h => by omega), rfl⟩
      case round =>
        obtain ⟨i, k, rfl, hile, HA, rfl⟩ := hrel
        clear c1 c2 e1 hw1 hw2 l1 l2 heq HBX HBP
        have q70 := HST.out.2.1.cell (i := 0) rfl
        have q72 := HST.out.2.1.cell (i := 2) rfl
        have f70 := HST.out.2.1.frozen 0
        have f71 := HST.out.2.1.frozen 1
        have f72 := HST.out.2.1.frozen 2
        have hws : IntKind.i64.wrap ((p : Int) - (x : Int)) = (p : Int) - (x : Int) := by have := HPL.out; simp [IntKind.wrap, IntKind.bits, IntKind.signed]; omega
        have hwi : IntKind.i64.wrap ((i : Int) + 1) = (i : Int) + 1 := by simp [IntKind.wrap, IntKind.bits, IntKind.signed]; omega
        by_cases hlti : i < mo
        rotate_left
        · have t1 : ¬ ((i : Int) < (mo : Int)) := by omega
          gi_wp2
          obtain ⟨hK, hR7, hBest, hlt, hrun⟩ := HST.out
          obtain ⟨hx1, hx2, hx3, hx4⟩ := HPL.out
          obtain rfl : i = mo := by omega
          refine ⟨(from_drewN _ _ _).trans (from_set3 _ _ _ _ _ _), rfl, p - x, kept_set3 (hK.trans (kept_drewN _ _ _)) (fun h => h.2 rfl) _ _ _, ?_, ?_⟩
          · have := row_set3 (W := W.drewN k) hR7 (.int .i64 0) (.int .i64 (i : Int)) (.int .i64 ((p : Int) - (x : Int)))
            rw [show ((p - x : Nat) : Int) = (p : Int) - (x : Int) by omega]
            exact this
          · refine .inr ⟨by omega, by omega, by omega, by omega, by omega, fun j hj => ?_⟩
            rw [show p - (p - x) = x by omega]
            exact HA.out j hj
        · have t1 : (i : Int) < (mo : Int) := by omega
          have HPX := HPL.out
          have c1 := HC.out (x + i) (by omega)
          have c2 := HC.out (p + i) (by omega)
          have hw1 : IntKind.i64.wrap ((x : Int) + (i : Int)) = (x : Int) + (i : Int) := by simp [IntKind.wrap, IntKind.bits, IntKind.signed]; omega
          have hw2 : IntKind.i64.wrap ((p : Int) + (i : Int)) = (p : Int) + (i : Int) := by simp [IntKind.wrap, IntKind.bits, IntKind.signed]; omega
          have l1 : (x : Int) + (i : Int) < (T.length : Int) := by omega
          have l2 : (p : Int) + (i : Int) < (T.length : Int) := by omega
          obtain ⟨bx, HBX⟩ : ∃ bx, Hid (T[x + i]?.getD 0 = bx) := ⟨_, rfl⟩
          obtain ⟨bp, HBP⟩ : ∃ bp, Hid (T[p + i]?.getD 0 = bp) := ⟨_, rfl⟩
          rw [HBX.out] at c1
          rw [HBP.out] at c2
          clear HPX
          gi_wp2_with fail
          refine wpIn_quiet_round (by kernel_rfl) (by kernel_rfl) (by kernel_rfl) ?_
          repeat (gi_big_quiet_step (fail))
          refine wpQuietIn_nil ?_
          rintro _ ⟨nq2, rfl⟩
          rw [World.drewN_drewN]
          by_cases heq : bx = bp
          · have e1 : (bx == bp) = true := by simpa using heq
            have HA2 : Hid (∀ j, j < i + 1 → T[x + j]?.getD 0 = T[p + j]?.getD 0) := by
              intro j hj
              by_cases h : j = i
              · subst h; rw [HBX.out, HBP.out]; exact heq
              · exact HA.out j (by omega)
            clear heq HBX HBP HA c1 c2
            gi_wp2
            exact ⟨⟨i + 1, k + nq2, by go_num, by omega, HA2, rfl⟩, by simp [intOf]; omega⟩
          · have e1 : (bx == bp) = false := by simpa using heq
            have HNE : Hid (T[x + i]?.getD 0 ≠ T[p + i]?.getD 0) := by rw [HBX.out, HBP.out]; exact heq
            clear heq HBX HBP c1 c2
            by_cases hgt : ln < i
            · have t2 : (ln : Int) < (i : Int) := by omega
              gi_wp2
              obtain ⟨hK, hR7, hBest, hlt, hrun⟩ := HST.out
              obtain ⟨hx1, hx2, hx3, hx4⟩ := HPL.out
              refine ⟨(from_drewN _ _ _).trans (from_set3 _ _ _ _ _ _), kept_set3 (kept_drewN _ _ _) ?_ _ _ _, i, p - x, kept_set3 (hK.trans (kept_drewN _ _ _)) (fun h => h.2 rfl) _ _ _, ?_, ?_, hlti, fun _ hRun => ?_⟩
              · rintro (h | h | h)
                · have := HNs.out B7 h; omega
                · omega
                · omega
              · have := row_set3 (W := W.drewN (k + nq2)) hR7 (.int .i64 0) (.int .i64 (i : Int)) (.int .i64 ((p : Int) - (x : Int)))
                rw [show ((p - x : Nat) : Int) = (p : Int) - (x : Int) by omega]
                exact this
              · refine .inr ⟨by omega, by omega, by omega, by omega, by omega, fun j hj => ?_⟩
                rw [show p - (p - x) = x by omega]
                exact HA.out j hj
              · by_cases h0 : pre = []
                · exact run_ge hRun (hx4 h0) HNE.out
                · have := hrun h0 hRun; omega
            · have t2 : ¬ ((ln : Int) < (i : Int)) := by omega
              gi_wp2
              obtain ⟨hK, hR7, hBest, hlt, hrun⟩ := HST.out
              obtain ⟨hx1, hx2, hx3, hx4⟩ := HPL.out
              exact ⟨⟨Nat.le_refl _, fun _ _ _ h _ => h⟩, kept_drewN _ _ _, ln, d, hK.trans (kept_drewN _ _ _), hR7, hBest, hlt, fun _ hRun => by
                by_cases h0 : pre = []
                · have := run_ge hRun (hx4 h0) HNE.out; omega
                · exact hrun h0 hRun⟩
  case done =>
    rintro Dd xs W hDd hE ⟨ln, d, hK, hR7, hBest, hlt, hrun⟩ hDf
    have q70 := hR7.cell (i := 0) rfl
    have q71 := hR7.cell (i := 1) rfl
    have q72 := hR7.cell (i := 2) rfl
    have hR6 := r6.kept hK ⟨by omega, by omega⟩
    have p60 := hR6.cell (i := 0) rfl
    have p61 := hR6.cell (i := 1) rfl
    have p62 := hR6.cell (i := 2) rfl
    have f60 := hR6.frozen 0
    have f61 := hR6.frozen 1
    have f62 := hR6.frozen 2
    have hR6' := row_set3 hR6 (.int .i64 0) (.int .i64 (ln : Int)) (.int .i64 (d : Int))
    have hD6 : (((W.setCell ⟨B6, 0, none⟩ (.int .i64 0)).setCell ⟨B6, 1, none⟩ (.int .i64 (ln : Int))).setCell ⟨B6, 2, none⟩ (.int .i64 (d : Int))).heap[Dd]? = some (.deferred (some [])) := ((kept_set3 (S := fun k => k = Dd) (Kept.refl _ W) (by show ¬ B6 = Dd; omega) _ _ _).block Dd rfl).trans hDf
    have hBl : Below w.heap.size w (((W.setCell ⟨B6, 0, none⟩ (.int .i64 0)).setCell ⟨B6, 1, none⟩ (.int .i64 (ln : Int))).setCell ⟨B6, 2, none⟩ (.int .i64 (d : Int))) := hBd.trans ((kept_set3 (S := fun k => k < w.heap.size) (hK.mono (fun k h => ⟨by omega, by omega⟩)) (by show ¬ B6 < _; omega) _ _ _).below (fun _ h => h))
    gi_wp2
    generalize ((W.setCell ⟨B6, 0, none⟩ (.int .i64 0)).setCell ⟨B6, 1, none⟩ (.int .i64 (ln : Int))).setCell ⟨B6, 2, none⟩ (.int .i64 (d : Int)) = W6 at hR6' hD6 hBl ⊢
    have hR9 : Row (W6.putObj Dd (.deferred none)) B6 32 #[.int .i64 0, .int .i64 (ln : Int), .int .i64 (d : Int)] := hR6'.kept (Kept.putObj (S := fun k => k ≠ Dd) W6 Dd (.deferred none) (fun h => h rfl)) (by show B6 ≠ Dd; omega)
    refine ⟨by simp, .inl ⟨_, _, rfl, run_takeDeferred hD6, ?_⟩⟩
    refine ⟨It.val ⟨0, (ln : Int), (d : Int)⟩, results_cell_row rfl _ _ B6 32 _ (0, 0) _ rfl hR9 Tryd.underlying32 rfl (by kernel_rfl), hBl.trans ((Kept.putObj (S := fun k => k < w.heap.size) W6 Dd (.deferred none) (by show ¬ Dd < _; omega)).below (fun _ h => h)), ln, d, rfl, hBest, ?_⟩
    rw [HHD.out]
    intro hRun
    by_cases h0 : xs = []
    · exfalso
      rcases hE h0 with h | h
      · have := hRun.2.1; have := hRun.1; omega
      · have := hRun.2.1; omega
    · exact hrun h0 hRun
  case stop =>
    rintro Dd id W hDd ⟨rfl, d, hK, hR7, hBest⟩ hDf
    have q70 := hR7.cell (i := 0) rfl
    have q71 := hR7.cell (i := 1) rfl
    have q72 := hR7.cell (i := 2) rfl
    have hR6 := r6.kept hK ⟨by omega, by omega⟩
    have p60 := hR6.cell (i := 0) rfl
    have p61 := hR6.cell (i := 1) rfl
    have p62 := hR6.cell (i := 2) rfl
    have f60 := hR6.frozen 0
    have f61 := hR6.frozen 1
    have f62 := hR6.frozen 2
    have hR6' := row_set3 hR6 (.int .i64 0) (.int .i64 (mo : Int)) (.int .i64 (d : Int))
    have hD6 : (((W.setCell ⟨B6, 0, none⟩ (.int .i64 0)).setCell ⟨B6, 1, none⟩ (.int .i64 (mo : Int))).setCell ⟨B6, 2, none⟩ (.int .i64 (d : Int))).heap[Dd]? = some (.deferred (some [])) := ((kept_set3 (S := fun k => k = Dd) (Kept.refl _ W) (by show ¬ B6 = Dd; omega) _ _ _).block Dd rfl).trans hDf
    have hBl : Below w.heap.size w (((W.setCell ⟨B6, 0, none⟩ (.int .i64 0)).setCell ⟨B6, 1, none⟩ (.int .i64 (mo : Int))).setCell ⟨B6, 2, none⟩ (.int .i64 (d : Int))) := hBd.trans ((kept_set3 (S := fun k => k < w.heap.size) (hK.mono (fun k h => ⟨by omega, by omega⟩)) (by show ¬ B6 < _; omega) _ _ _).below (fun _ h => h))
    refine wpIn_exit ?_
    simp only [Exit.inBlock, if_true, Exit.then]
    gi_wp2
    generalize ((W.setCell ⟨B6, 0, none⟩ (.int .i64 0)).setCell ⟨B6, 1, none⟩ (.int .i64 (mo : Int))).setCell ⟨B6, 2, none⟩ (.int .i64 (d : Int)) = W6 at hR6' hD6 hBl ⊢
    have hR9 : Row (W6.putObj Dd (.deferred none)) B6 32 #[.int .i64 0, .int .i64 (mo : Int), .int .i64 (d : Int)] := hR6'.kept (Kept.putObj (S := fun k => k ≠ Dd) W6 Dd (.deferred none) (fun h => h rfl)) (by show B6 ≠ Dd; omega)
    refine ⟨by simp, .inl ⟨_, _, rfl, run_takeDeferred hD6, ?_⟩⟩
    refine ⟨It.val ⟨0, (mo : Int), (d : Int)⟩, results_cell_row rfl _ _ B6 32 _ (0, 0) _ rfl hR9 Tryd.underlying32 rfl (by kernel_rfl), hBl.trans ((Kept.putObj (S := fun k => k < w.heap.size) W6 Dd (.deferred none) (by show ¬ Dd < _; omega)).below (fun _ h => h)), mo, d, rfl, hBest, ?_⟩
    exact fun _ => hmo.1
end Go.Proofs.YtinbilbgipfemaaDoor
/- The item that stands at a place: the longest copy, or the byte. -/
namespace Go.Proofs.YtinbilbgipfemaaDoor
open Go.RowKit

/-- An item that tells what stands at p, within q. -/
def ItemOk (T : List Int) (p q : Nat) (r : It) : Prop :=
  (r.l = 0 ∧ r.d = 0 ∧ r.b = T[p]?.getD 0) ∨ (r.b = 0 ∧ ∃ l d : Nat, r.l = (l : Int) ∧ r.d = (d : Int) ∧ 3 ≤ l ∧ l ≤ 258 ∧ p + l ≤ q ∧ 1 ≤ d ∧ d ≤ p ∧ d ≤ 32768 ∧ ∀ i, i < l → T[p - d + i]?.getD 0 = T[p + i]?.getD 0)

theorem wrap_u8_int (b : Int) (h : 0 ≤ b ∧ b ≤ 255) : IntKind.i64.wrap b = b := by simp [IntKind.wrap, IntKind.bits, IntKind.signed]; omega

set_option maxRecDepth 100000 in
set_option maxHeartbeats 4000000 in
theorem item_any (D : Nat → Prop) (F H P : Nat) (a : Option Addr) (cap m : Nat) (T hs bs : List Int) (w : World) (hSw : ∀ k, (D k ∨ k = F ∨ k = H ∨ k = P) → k < w.heap.size) (hF : FindAt D F H P a cap m T hs bs w) (p q : Nat) (hp : p < q) (hq : q ≤ T.length) (hm : 1 ≤ m ∧ m ≤ 32768) (hl : T.length ≤ 2000000) (hT : AreBytes T) (hC : ChainOk T m p hs bs) :
    Calls Tryd.prog 33 #[.pointer (some ⟨F, 0, none⟩), .int .i64 (p : Int), .int .i64 (q : Int)] w fun e w' => Below w.heap.size w w' ∧ ∃ r : It, e = .returned r.val ∧ ItemOk T p q r ∧ (r.l = 0 → p + 3 ≤ q → ¬ RunHere T p (hs[hashN T m p]?.getD 0)) := by
  have hws : IntKind.i64.wrap ((q : Int) - (p : Int)) = (q : Int) - (p : Int) := by simp [IntKind.wrap, IntKind.bits, IntKind.signed]; omega
  have r6 := Row.new w 32 #[.int .i64 0, .int .i64 0, .int .i64 0]
  have hB1 : Below w.heap.size w (w.alloc (.cells #[.int .i64 0, .int .i64 0, .int .i64 0] 32)) := (Below.refl _ w).alloc (Nat.le_refl _) _
  have hs1 : (w.alloc (.cells #[.int .i64 0, .int .i64 0, .int .i64 0] 32)).heap.size = w.heap.size + 1 := by simp
  have hF1 := hF.kept (Kept.of_below hB1 hSw) (fun _ h => h)
  by_cases h258 : 258 ≤ q - p
  · have t1 : ¬ ((q : Int) - (p : Int) < 258) := by omega
    have HS : Hid (Calls Tryd.prog 49 #[.pointer (some ⟨F, 0, none⟩), .int .i64 (p : Int), .int .i64 258] (w.alloc (.cells #[.int .i64 0, .int .i64 0, .int .i64 0] 32)) fun e w' => Below (w.heap.size + 1) (w.alloc (.cells #[.int .i64 0, .int .i64 0, .int .i64 0] 32)) w' ∧ ∃ l d : Nat, e = .returned (It.val ⟨0, (l : Int), (d : Int)⟩) ∧ BestOk T p 258 l d ∧ (RunHere T p (hs[hashN T m p]?.getD 0) → 3 ≤ l)) := by
      have := search_in D F H P a cap m T hs bs _ (fun k h => by have := hSw k h; rw [hs1]; omega) hF1 p 258 (by omega) ⟨by omega, by omega⟩ hm hl hT hC
      rw [hs1] at this
      have := callsIn_wide.1 this
      skip
      exact this
    clear hC
    go_enter Tryd.func33, Tryd.ntmps33
    go_wp2_with fail
    refine HS.out.mono ?_
    clear HS
    rintro e w2 ⟨hb2, l, d, rfl, hBest, hRun⟩
    have hr6 := (r6.below hb2 (by omega)).alloc (.cells #[.int .i64 0, .int .i64 (l : Int), .int .i64 (d : Int)] 32)
    have hF3 : FindAt D F H P a cap m T hs bs (w2.alloc (.cells #[.int .i64 0, .int .i64 (l : Int), .int .i64 (d : Int)] 32)) := hF1.kept ((Kept.of_below (S := fun k => D k ∨ k = F ∨ k = H ∨ k = P) hb2 (fun k h => by have := hSw k h; omega)).alloc (fun k h => by have := hSw k h; have := hb2.size; omega) _) (fun _ h => h)
    have hz2 : w.heap.size + 1 ≤ w2.heap.size := by have := hb2.size; omega
    have hB3 : Below w.heap.size w (w2.alloc (.cells #[.int .i64 0, .int .i64 (l : Int), .int .i64 (d : Int)] 32)) := (hB1.trans (hb2.mono (by omega))).alloc (by omega) _
    have f60 := hr6.frozen 0
    have f61 := hr6.frozen 1
    have f62 := hr6.frozen 2
    have c60 := hr6.cell (i := 0) rfl
    have c61 := hr6.cell (i := 1) rfl
    have c62 := hr6.cell (i := 2) rfl
    simp only [It.val]
    by_cases h3 : 3 ≤ l
    · have t3 : (3 : Int) ≤ (l : Int) := by omega
      have hB9 : Below w.heap.size w ((((w2.alloc (.cells #[.int .i64 0, .int .i64 (l : Int), .int .i64 (d : Int)] 32)).setCell ⟨w.heap.size, 0, none⟩ (.int .i64 0)).setCell ⟨w.heap.size, 1, none⟩ (.int .i64 (l : Int))).setCell ⟨w.heap.size, 2, none⟩ (.int .i64 (d : Int))) := hB3.trans ((kept_set3 (S := fun k => k < w.heap.size) (Kept.refl _ _) (by show ¬ w.heap.size < _; omega) _ _ _).below (fun _ h => h))
      clear hF1 hB1 hs1 r6 hF hT hF3
      go_wp2
      refine bodyPost_ret (v := It.val ⟨0, (l : Int), (d : Int)⟩) (results_cell_row rfl _ _ w.heap.size 32 _ (0, 0) _ rfl (row_set3 hr6 _ _ _) Tryd.underlying32 rfl (by kernel_rfl)) rfl ⟨hB9, ⟨0, (l : Int), (d : Int)⟩, rfl, ?_, fun h => by simp only at h; omega⟩
      rcases hBest with h | ⟨b1, b2, b3, b4, b5, b6⟩
      · omega
      · exact .inr ⟨rfl, l, d, rfl, rfl, h3, by omega, by omega, b3, b4, b5, b6⟩
    · have t3 : ¬ ((3 : Int) ≤ (l : Int)) := by omega
      have qF := hF3.fin.cell (i := 0) rfl
      obtain ⟨tb, off, rfl, hD, hc⟩ := hF3.txt.at 0 (by omega)
      have cp := hc p (by omega)
      have HBD := hT p
      obtain ⟨bp, HBP⟩ : ∃ bp, Hid (T[p]?.getD 0 = bp) := ⟨_, rfl⟩
      rw [HBP.out] at cp HBD
      have hwb : IntKind.i64.wrap bp = bp := wrap_u8_int bp HBD
      have l1 : (p : Int) < (T.length : Int) := by omega
      clear hc hF3
      have hB9 : Below w.heap.size w ((((w2.alloc (.cells #[.int .i64 0, .int .i64 (l : Int), .int .i64 (d : Int)] 32)).setCell ⟨w.heap.size, 0, none⟩ (.int .i64 bp)).setCell ⟨w.heap.size, 1, none⟩ (.int .i64 0)).setCell ⟨w.heap.size, 2, none⟩ (.int .i64 0)) := hB3.trans ((kept_set3 (S := fun k => k < w.heap.size) (Kept.refl _ _) (by show ¬ w.heap.size < _; omega) _ _ _).below (fun _ h => h))
      clear hF1 hB1 hs1 r6 hF hT
      go_wp2
      refine bodyPost_ret (v := It.val ⟨bp, 0, 0⟩) (results_cell_row rfl _ _ w.heap.size 32 _ (0, 0) _ rfl (row_set3 hr6 _ _ _) Tryd.underlying32 rfl (by kernel_rfl)) rfl ⟨hB9, ⟨bp, 0, 0⟩, rfl, .inl ⟨rfl, rfl, HBP.out.symm⟩, fun _ _ h => h3 (hRun h)⟩
  · by_cases hq3 : 3 ≤ q - p
    · have t1 : (q : Int) - (p : Int) < 258 := by omega
      have t2 : (3 : Int) ≤ (q : Int) - (p : Int) := by omega
      have HS : Hid (Calls Tryd.prog 49 #[.pointer (some ⟨F, 0, none⟩), .int .i64 (p : Int), .int .i64 ((q : Int) - (p : Int))] (w.alloc (.cells #[.int .i64 0, .int .i64 0, .int .i64 0] 32)) fun e w' => Below (w.heap.size + 1) (w.alloc (.cells #[.int .i64 0, .int .i64 0, .int .i64 0] 32)) w' ∧ ∃ l d : Nat, e = .returned (It.val ⟨0, (l : Int), (d : Int)⟩) ∧ BestOk T p (q - p) l d ∧ (RunHere T p (hs[hashN T m p]?.getD 0) → 3 ≤ l)) := by
        have := search_in D F H P a cap m T hs bs _ (fun k h => by have := hSw k h; rw [hs1]; omega) hF1 p (q - p) (by omega) ⟨by omega, by omega⟩ hm hl hT hC
        rw [hs1] at this
        have := callsIn_wide.1 this
        rw [show (((q - p) : Nat) : Int) = (q : Int) - (p : Int) by omega] at this
        exact this
      clear hC
      go_enter Tryd.func33, Tryd.ntmps33
      go_wp2_with fail
      refine HS.out.mono ?_
      clear HS
      rintro e w2 ⟨hb2, l, d, rfl, hBest, hRun⟩
      have hr6 := (r6.below hb2 (by omega)).alloc (.cells #[.int .i64 0, .int .i64 (l : Int), .int .i64 (d : Int)] 32)
      have hF3 : FindAt D F H P a cap m T hs bs (w2.alloc (.cells #[.int .i64 0, .int .i64 (l : Int), .int .i64 (d : Int)] 32)) := hF1.kept ((Kept.of_below (S := fun k => D k ∨ k = F ∨ k = H ∨ k = P) hb2 (fun k h => by have := hSw k h; omega)).alloc (fun k h => by have := hSw k h; have := hb2.size; omega) _) (fun _ h => h)
      have hz2 : w.heap.size + 1 ≤ w2.heap.size := by have := hb2.size; omega
      have hB3 : Below w.heap.size w (w2.alloc (.cells #[.int .i64 0, .int .i64 (l : Int), .int .i64 (d : Int)] 32)) := (hB1.trans (hb2.mono (by omega))).alloc (by omega) _
      have f60 := hr6.frozen 0
      have f61 := hr6.frozen 1
      have f62 := hr6.frozen 2
      have c60 := hr6.cell (i := 0) rfl
      have c61 := hr6.cell (i := 1) rfl
      have c62 := hr6.cell (i := 2) rfl
      simp only [It.val]
      by_cases h3 : 3 ≤ l
      · have t3 : (3 : Int) ≤ (l : Int) := by omega
        have hB9 : Below w.heap.size w ((((w2.alloc (.cells #[.int .i64 0, .int .i64 (l : Int), .int .i64 (d : Int)] 32)).setCell ⟨w.heap.size, 0, none⟩ (.int .i64 0)).setCell ⟨w.heap.size, 1, none⟩ (.int .i64 (l : Int))).setCell ⟨w.heap.size, 2, none⟩ (.int .i64 (d : Int))) := hB3.trans ((kept_set3 (S := fun k => k < w.heap.size) (Kept.refl _ _) (by show ¬ w.heap.size < _; omega) _ _ _).below (fun _ h => h))
        clear hF1 hB1 hs1 r6 hF hT hF3
        go_wp2
        refine bodyPost_ret (v := It.val ⟨0, (l : Int), (d : Int)⟩) (results_cell_row rfl _ _ w.heap.size 32 _ (0, 0) _ rfl (row_set3 hr6 _ _ _) Tryd.underlying32 rfl (by kernel_rfl)) rfl ⟨hB9, ⟨0, (l : Int), (d : Int)⟩, rfl, ?_, fun h => by simp only at h; omega⟩
        rcases hBest with h | ⟨b1, b2, b3, b4, b5, b6⟩
        · omega
        · exact .inr ⟨rfl, l, d, rfl, rfl, h3, by omega, by omega, b3, b4, b5, b6⟩
      · have t3 : ¬ ((3 : Int) ≤ (l : Int)) := by omega
        have qF := hF3.fin.cell (i := 0) rfl
        obtain ⟨tb, off, rfl, hD, hc⟩ := hF3.txt.at 0 (by omega)
        have cp := hc p (by omega)
        have HBD := hT p
        obtain ⟨bp, HBP⟩ : ∃ bp, Hid (T[p]?.getD 0 = bp) := ⟨_, rfl⟩
        rw [HBP.out] at cp HBD
        have hwb : IntKind.i64.wrap bp = bp := wrap_u8_int bp HBD
        have l1 : (p : Int) < (T.length : Int) := by omega
        clear hc hF3
        have hB9 : Below w.heap.size w ((((w2.alloc (.cells #[.int .i64 0, .int .i64 (l : Int), .int .i64 (d : Int)] 32)).setCell ⟨w.heap.size, 0, none⟩ (.int .i64 bp)).setCell ⟨w.heap.size, 1, none⟩ (.int .i64 0)).setCell ⟨w.heap.size, 2, none⟩ (.int .i64 0)) := hB3.trans ((kept_set3 (S := fun k => k < w.heap.size) (Kept.refl _ _) (by show ¬ w.heap.size < _; omega) _ _ _).below (fun _ h => h))
        clear hF1 hB1 hs1 r6 hF hT
        go_wp2
        refine bodyPost_ret (v := It.val ⟨bp, 0, 0⟩) (results_cell_row rfl _ _ w.heap.size 32 _ (0, 0) _ rfl (row_set3 hr6 _ _ _) Tryd.underlying32 rfl (by kernel_rfl)) rfl ⟨hB9, ⟨bp, 0, 0⟩, rfl, .inl ⟨rfl, rfl, HBP.out.symm⟩, fun _ _ h => h3 (hRun h)⟩
    · have t1 : (q : Int) - (p : Int) < 258 := by omega
      have t2 : ¬ ((3 : Int) ≤ (q : Int) - (p : Int)) := by omega
      have hr6 := r6
      have hF3 := hF1
      have f60 := hr6.frozen 0
      have f61 := hr6.frozen 1
      have f62 := hr6.frozen 2
      have c60 := hr6.cell (i := 0) rfl
      have c61 := hr6.cell (i := 1) rfl
      have c62 := hr6.cell (i := 2) rfl
      have qF := hF3.fin.cell (i := 0) rfl
      obtain ⟨tb, off, rfl, hD, hc⟩ := hF3.txt.at 0 (by omega)
      have cp := hc p (by omega)
      have HBD := hT p
      obtain ⟨bp, HBP⟩ : ∃ bp, Hid (T[p]?.getD 0 = bp) := ⟨_, rfl⟩
      rw [HBP.out] at cp HBD
      have hwb : IntKind.i64.wrap bp = bp := wrap_u8_int bp HBD
      have l1 : (p : Int) < (T.length : Int) := by omega
      clear hc hF3
      go_enter Tryd.func33, Tryd.ntmps33
      clear hF1 hB1 hs1 r6 hF hT hr6
      go_wp2
      refine bodyPost_ret (v := It.val ⟨bp, 0, 0⟩) (results_cell_row rfl _ _ w.heap.size 32 _ (0, 0) _ rfl (Row.new w 32 _) Tryd.underlying32 rfl (by kernel_rfl)) rfl ⟨(Below.refl _ w).alloc (Nat.le_refl _) _, ⟨bp, 0, 0⟩, rfl, .inl ⟨rfl, rfl, HBP.out.symm⟩, fun _ h => by omega⟩
end Go.Proofs.YtinbilbgipfemaaDoor
/- The plain description of lengths and distances as symbols, and of fields. -/
namespace Go.Proofs.YtinbilbgipfemaaDoor
open Go.RowKit

def stepB (n g : Nat) : Nat := if n < g then n else (g + n % g) * 2 ^ (n / g - 1)
def stepX (n g : Nat) : Nat := if n < g then 0 else n / g - 1
/-- The least length and the extra bits of length symbol 257 + i; the least distance and the extra bits of distance symbol i. -/
def litT (i : Nat) : Nat := if i = 28 then 258 else stepB i 4 + 3
def litX (i : Nat) : Nat := if i = 28 then 0 else stepX i 4
def distT (i : Nat) : Nat := stepB i 2 + 1
def distX (i : Nat) : Nat := stepX i 2
/-- How many of the first N are at most n. -/
def rank (t : Nat → Nat) : Nat → Nat → Nat
  | 0, _ => 0
  | N + 1, n => rank t N n + if t N ≤ n then 1 else 0
theorem rank_le (t : Nat → Nat) (N n : Nat) : rank t N n ≤ N := by
  induction N with
  | zero => exact Nat.le_refl _
  | succ N ih => rw [rank]; split <;> omega
theorem rank_iff (t : Nat → Nat) (n : Nat) : ∀ N, (∀ i, i + 1 < N → t i < t (i + 1)) → ∀ i, i < N → (t i ≤ n ↔ i < rank t N n)
  | 0, _, i, h => by omega
  | N + 1, hm, i, h => by
    have ih := rank_iff t n N (fun i h => hm i (by omega))
    have hle := rank_le t N n
    have hmono : ∀ k, k ≤ N → t (N - k) ≤ t N := by
      intro k
      induction k with
      | zero => intro _; exact Nat.le_refl _
      | succ k ihk =>
        intro hk
        have h1 := ihk (by omega)
        have h2 := hm (N - (k + 1)) (by omega)
        rw [show N - (k + 1) + 1 = N - k by omega] at h2
        omega
    rw [rank]
    split
    · rename_i hN
      have hfull : N ≤ rank t N n := by
        by_cases h0 : N = 0
        · omega
        · have := (ih (N - 1) (by omega)).1 (by have := hmono 1 (by omega); omega)
          omega
      constructor
      · intro _; omega
      · intro _
        have := hmono (N - i) (by omega)
        rw [show N - (N - i) = i by omega] at this
        omega
    · rename_i hN
      by_cases hi : i = N
      · subst hi
        constructor
        · intro hc; exact absurd hc hN
        · intro hc; omega
      · have := ih i (by omega)
        rw [this]
        constructor <;> intro hc <;> omega
theorem litT_mono : ∀ i, i + 1 < 29 → litT i < litT (i + 1) := fun i h => (by decide : ∀ i, i < 28 → litT i < litT (i + 1)) i (by omega)
theorem distT_mono : ∀ i, i + 1 < 30 → distT i < distT (i + 1) := fun i h => (by decide : ∀ i, i < 29 → distT i < distT (i + 1)) i (by omega)
theorem litT_bd : ∀ i, i < 29 → litT i ≤ 258 ∧ litX i ≤ 5 := by decide
theorem distT_bd : ∀ i, i < 30 → distT i ≤ 24577 ∧ distX i ≤ 13 := by decide
theorem litT_next : ∀ i, i < 28 → litT (i + 1) ≤ litT i + 2 ^ litX i := by decide
theorem distT_next : ∀ i, i < 29 → distT (i + 1) = distT i + 2 ^ distX i := by decide

/-- The number of a length's symbol less 257; of a distance's symbol. -/
def lenI (l : Nat) : Nat := rank litT 29 l - 1
def distI (d : Nat) : Nat := rank distT 30 d - 1
theorem lenI_ok (l : Nat) (h3 : 3 ≤ l) (h : l ≤ 258) : rank litT 29 l = lenI l + 1 ∧ lenI l < 29 ∧ litT (lenI l) ≤ l ∧ l - litT (lenI l) < 2 ^ litX (lenI l) := by
  have hr := rank_le litT 29 l
  have h0 := (rank_iff litT l 29 litT_mono 0 (by omega)).1 (by show 3 ≤ l; exact h3)
  have e : rank litT 29 l = lenI l + 1 := by unfold lenI; omega
  have hlt : lenI l < 29 := by omega
  have h1 := (rank_iff litT l 29 litT_mono (lenI l) hlt).2 (by omega)
  refine ⟨e, hlt, h1, ?_⟩
  by_cases h28 : lenI l = 28
  · rw [h28] at h1 ⊢
    have : litT 28 = 258 := rfl
    rw [this] at h1 ⊢
    have : l - 258 = 0 := by omega
    rw [this]
    exact Nat.two_pow_pos _
  · have h2 : ¬ litT (lenI l + 1) ≤ l := fun hc => by
      have := (rank_iff litT l 29 litT_mono (lenI l + 1) (by omega)).1 hc
      omega
    have := litT_next (lenI l) (by omega)
    omega
theorem distI_ok (d : Nat) (h1 : 1 ≤ d) (h : d ≤ 32768) : rank distT 30 d = distI d + 1 ∧ distI d < 30 ∧ distT (distI d) ≤ d ∧ d - distT (distI d) < 2 ^ distX (distI d) := by
  have hr := rank_le distT 30 d
  have h0 := (rank_iff distT d 30 distT_mono 0 (by omega)).1 (by show 1 ≤ d; exact h1)
  have e : rank distT 30 d = distI d + 1 := by unfold distI; omega
  have hlt : distI d < 30 := by omega
  have h2 := (rank_iff distT d 30 distT_mono (distI d) hlt).2 (by omega)
  refine ⟨e, hlt, h2, ?_⟩
  by_cases h29 : distI d = 29
  · rw [h29] at h2 ⊢
    have e1 : distT 29 = 24577 := rfl
    have e2 : distX 29 = 13 := rfl
    rw [e1] at h2 ⊢
    rw [e2]
    omega
  · have h3 : ¬ distT (distI d + 1) ≤ d := fun hc => by
      have := (rank_iff distT d 30 distT_mono (distI d + 1) (by omega)).1 hc
      omega
    have := distT_next (distI d) (by omega)
    omega

/-- A number of some bits. -/
abbrev Fd := Nat × Nat
def FdOk (f : Fd) : Prop := f.1 < 4294967296 ∧ f.2 ≤ 32
def fieldsB (fs : List Fd) : List Bool := fs.flatMap fun f => lowBits f.1 f.2
def widF (fs : List Fd) : Nat := (fs.map (·.2)).sum
theorem fieldsB_length (fs : List Fd) : (fieldsB fs).length = widF fs := by
  induction fs with
  | nil => rfl
  | cons f fs ih =>
    have e : fieldsB (f :: fs) = lowBits f.1 f.2 ++ fieldsB fs := rfl
    rw [e, List.length_append, ih, lowBits_length]
    rfl
theorem fieldsB_append (fs gs : List Fd) : fieldsB (fs ++ gs) = fieldsB fs ++ fieldsB gs := List.flatMap_append
theorem widF_append (fs gs : List Fd) : widF (fs ++ gs) = widF fs + widF gs := by simp [widF]

/-- The fields of a length and of a distance, behind their symbols. -/
def lenF (l : Nat) : Fd := (l - litT (lenI l), litX (lenI l))
def dstF (d : Nat) : Fd := (d - distT (distI d), distX (distI d))
/-- The symbol among the literals, and how many extra bits, of an item. -/
def litSym (r : It) : Nat := if r.l = 0 then r.b.toNat else 257 + lenI r.l.toNat
def dstSym (r : It) : Nat := distI r.d.toNat
/-- The fields of an item, by codes. -/
def itF (lc dc : List Fd) (r : It) : List Fd := if r.l = 0 then [lc[r.b.toNat]?.getD (0, 0)] else [lc[257 + lenI r.l.toNat]?.getD (0, 0), lenF r.l.toNat, dc[distI r.d.toNat]?.getD (0, 0), dstF r.d.toNat]
def itsF (lc dc : List Fd) (its : List It) : List Fd := its.flatMap (itF lc dc)
theorem itsF_snoc (lc dc : List Fd) (its : List It) (r : It) : itsF lc dc (its ++ [r]) = itsF lc dc its ++ itF lc dc r := by simp [itsF]
/-- One more at place i. -/
def addAt (fs : List Int) (i : Nat) (n : Int) : List Int := fs.set i (fs[i]?.getD 0 + n)
def litF : List It → List Int → List Int
  | [], fs => fs
  | r :: rs, fs => litF rs (addAt fs (litSym r) 1)
def dstFr : List It → List Int → List Int
  | [], fs => fs
  | r :: rs, fs => dstFr rs (if r.l = 0 then fs else addAt fs (dstSym r) 1)
def extN : List It → Nat
  | [] => 0
  | r :: rs => (if r.l = 0 then 0 else (lenF r.l.toNat).2 + (dstF r.d.toNat).2) + extN rs
theorem litF_snoc (its : List It) (r : It) (fs : List Int) : litF (its ++ [r]) fs = addAt (litF its fs) (litSym r) 1 := by
  induction its generalizing fs with
  | nil => rfl
  | cons x xs ih => exact ih _
theorem dstFr_snoc (its : List It) (r : It) (fs : List Int) : dstFr (its ++ [r]) fs = if r.l = 0 then dstFr its fs else addAt (dstFr its fs) (dstSym r) 1 := by
  induction its generalizing fs with
  | nil => rfl
  | cons x xs ih => exact ih _
theorem extN_snoc (its : List It) (r : It) : extN (its ++ [r]) = extN its + if r.l = 0 then 0 else (lenF r.l.toNat).2 + (dstF r.d.toNat).2 := by
  induction its with
  | nil => simp [extN]
  | cons x xs ih => rw [List.cons_append, extN, extN, ih]; omega
theorem addAt_length (fs : List Int) (i : Nat) (n : Int) : (addAt fs i n).length = fs.length := by simp [addAt]
theorem litF_length (its : List It) (fs : List Int) : (litF its fs).length = fs.length := by
  induction its generalizing fs with
  | nil => rfl
  | cons x xs ih => rw [litF, ih, addAt_length]
theorem dstFr_length (its : List It) (fs : List Int) : (dstFr its fs).length = fs.length := by
  induction its generalizing fs with
  | nil => rfl
  | cons x xs ih =>
    rw [dstFr, ih]
    split
    · rfl
    · exact addAt_length _ _ _
/-- Numbers from 0 up to m. -/
def Upto (fs : List Int) (m : Nat) : Prop := ∀ j : Nat, 0 ≤ fs[j]?.getD 0 ∧ fs[j]?.getD 0 ≤ (m : Int)
theorem Upto.add {fs : List Int} {m : Nat} (h : Upto fs m) (i : Nat) : Upto (addAt fs i 1) (m + 1) := by
  intro j
  have hj := h j
  have hi := h i
  unfold addAt
  by_cases e : i = j
  · subst e
    by_cases hl : i < fs.length
    · rw [List.getElem?_set_self hl]
      simp only [Option.getD_some]
      omega
    · rw [List.getElem?_eq_none (by simp; omega)]
      simp
      omega
  · rw [List.getElem?_set_ne e]
    omega
theorem Upto.mono {fs : List Int} {m m' : Nat} (h : Upto fs m) (hm : m ≤ m') : Upto fs m' := fun j => by have := h j; omega
theorem litF_upto (its : List It) : ∀ (fs : List Int) (m : Nat), Upto fs m → Upto (litF its fs) (m + its.length) := by
  induction its with
  | nil => intro fs m h; exact h
  | cons x xs ih =>
    intro fs m h
    have := ih _ _ (h.add (litSym x))
    rw [List.length_cons, show m + (xs.length + 1) = m + 1 + xs.length by omega]
    exact this
theorem dstFr_upto (its : List It) : ∀ (fs : List Int) (m : Nat), Upto fs m → Upto (dstFr its fs) (m + its.length) := by
  induction its with
  | nil => intro fs m h; exact h
  | cons x xs ih =>
    intro fs m h
    rw [List.length_cons, show m + (xs.length + 1) = m + 1 + xs.length by omega, dstFr]
    split
    · exact ih _ _ (h.mono (by omega))
    · exact ih _ _ (h.add _)
/-- How often each symbol comes ahead of any item. -/
def lit0 : List Int := (List.replicate 286 (0 : Int)).set 256 1
def dst0 : List Int := List.replicate 30 (0 : Int)
end Go.Proofs.YtinbilbgipfemaaDoor
/- The fixed tables: repeat, FixedDist, Grow of nil. -/
namespace Go.Proofs.YtinbilbgipfemaaDoor
open Go.RowKit
def fixLitAt (i : Nat) : Int := if 256 ≤ i ∧ i < 280 then 7 else if 144 ≤ i ∧ i < 256 then 9 else 8
def fixLit : List Int := upto fixLitAt 288
def fixDist : List Int := upto (fun _ => (5 : Int)) 32
set_option maxRecDepth 100000 in
set_option maxHeartbeats 1000000 in
theorem repeat'_any (v : Int) (n : Nat) (h1 : 1 ≤ n) (hn : n ≤ 1000) (w : World) :
    Calls Tryd.prog 75 #[.int .i64 v, .int .i64 (n : Int)] w fun e w' => ∃ B, e = .returned (.slice (some ⟨B, 0, none⟩) n n) ∧ w.heap.size ≤ B ∧ Row w' B 3 (repC n n v).toArray ∧ Below w.heap.size w w' := by
  have hc : (w.alloc (.cells #[.int .i64 v] 3)).cell? ⟨w.heap.size, 0, none⟩ = some (.int .i64 v) := (Row.new w 3 #[.int .i64 v]).cell rfl
  have HR : Hid _ := repeat_any v n w.heap.size h1 (by omega) (w.alloc (.cells #[.int .i64 v] 3)) hc
  go_enter Tryd.func75, Tryd.ntmps75
  go_wp2_with fail
  refine Calls.mono HR.out ?_
  rintro e w' ⟨B, rfl, hB, hR, hb⟩
  have HF : Hid (w.heap.size ≤ B ∧ Row w' B 3 (repC n n v).toArray ∧ Below w.heap.size w w') := by
    rw [World.size_alloc] at hB hb
    exact ⟨by omega, hR, ((Below.refl _ w).alloc (Nat.le_refl _) _).trans (hb.mono (by omega))⟩
  clear HR hB hR hb hc
  go_wp2
  go_ret
  exact ⟨B, rfl, HF.out⟩
set_option maxHeartbeats 1000000 in
theorem pfixedDist_any (w : World) : Calls Tryd.prog 58 #[] w fun e w' => ∃ g c, e = .returned (.slice g 32 c) ∧ w'.ownsRow w.heap.size 3 1 (.slice g 32 c) 32 (fixDist.map (Value.int .i64)) ∧ Below w.heap.size w w' := by
  have HR : Hid (Calls Tryd.prog 75 #[.int .i64 5, .int .i64 32] w _) := repeat'_any 5 32 (by omega) (by omega) w
  have HE : Hid (fixDist = List.replicate 32 5) := rfl
  go_enter Tryd.func58, Tryd.ntmps58
  go_wp2_with fail
  refine Calls.mono HR.out ?_
  rintro e w' ⟨B, rfl, hB, hR, hb⟩
  have HF : Hid _ := And.intro (owns_rep (by omega) hR hB) hb
  clear HR hB hR hb
  go_wp2
  go_ret
  exact ⟨_, _, rfl, by rw [HE.out]; exact HF.out.1, HF.out.2⟩

set_option maxRecDepth 100000 in
set_option maxHeartbeats 1000000 in
theorem grow_nil (n : Nat) (h1 : 1 ≤ n) (hn : n ≤ 1000) (w : World) :
    Calls Tryd.prog 82 #[.slice none 0 0, .int .i64 (n : Int)] w fun e w' => ∃ g c, e = .returned (.slice g 0 c) ∧ w'.ownsRow w.heap.size 3 1 (.slice g 0 c) 0 [] ∧ Below w.heap.size w w' := by
  obtain ⟨i0, hi0, hz0, hz1, hz2⟩ := info_parts Tryd.info3'
  have hap := Lib.run_append_nil_zeros (P := Tryd.prog) w 40 3 40 3 i0 (.int .i64 0) .i64 .i64 Tryd.underlying40 Tryd.underlying3 hi0 hz0 n (by omega) (by omega) (by omega) (by rw [hz2]; omega)
  have t1 : (0 : Int) < n := by omega
  go_enter Tryd.func82, Tryd.ntmps82
  go_wp2_with (at_builtin; refine Lib.wpList_append_run _ rfl (.tmp 20) (.tmp 21) 40 3 rfl _ _ rfl rfl _ _ hap ?_)
  have hg1 := grownCap_ge w n 0 3
  have hg2 := grownCap_le_maxLen w n 0 3 (by unfold maxLen; omega)
  have hO : (w.alloc (.cells (Builtin.zeroCells #[.int .i64 0] n ++ Builtin.zeroCells #[.int .i64 0] (grownCap w n 0 3 - n)) 3)).drew.ownsRow w.heap.size 3 1 (.slice (some ⟨w.heap.size, 0, none⟩) 0 (grownCap w n 0 3)) 0 [] :=
    ⟨rfl, .inr ⟨w.heap.size, _, _, rfl, Nat.le_refl _, World.alloc_heap_new w _, Nat.zero_le _, hg2, by simp [size_zeroCells]; omega, rfl⟩⟩
  go_ret
  exact ⟨_, _, rfl, hO, ((Below.refl _ w).alloc (Nat.le_refl _) _).drew⟩

set_option maxRecDepth 100000 in
theorem fixLit_parts : fixLit = List.replicate 144 8 ++ List.replicate 112 9 ++ List.replicate 24 7 ++ List.replicate 8 8 := by decide
end Go.Proofs.YtinbilbgipfemaaDoor
/- slices.Concat of any few slices of ints; the fixed tables whole. -/
namespace Go.Proofs.YtinbilbgipfemaaDoor
open Go.RowKit

/-- What slices hold, one behind the other. -/
def catL (ps : List (Value × List Int)) : List Int := ps.flatMap (·.2)
theorem catL_snoc (ps : List (Value × List Int)) (p : Value × List Int) : catL (ps ++ [p]) = catL ps ++ p.2 := by simp [catL]
theorem catL_take_le (ps : List (Value × List Int)) (k : Nat) : (catL (ps.take k)).length ≤ (catL ps).length := by
  have e : catL ps = catL (ps.take k) ++ catL (ps.drop k) := by
    unfold catL
    rw [← List.flatMap_append, List.take_append_drop]
  rw [e, List.length_append]
  omega
theorem take_snoc' {α : Type} {l : List α} {k : Nat} {r : α} (h : l[k]? = some r) : l.take (k + 1) = l.take k ++ [r] := by
  obtain ⟨hk, rfl⟩ := List.getElem?_eq_some_iff.1 h
  exact List.take_succ_eq_append_getElem hk

set_option maxRecDepth 100000 in
set_option maxHeartbeats 2000000 in
theorem concat_any (S : Nat → Prop) (V c : Nat) (ps : List (Value × List Int)) (w : World) (hS : ∀ k, S k → k < w.heap.size) (hV : Row w V 40 (ps.map (·.1)).toArray) (hI : ∀ p ∈ ps, IntsIn S w p.1 p.2 ∧ ∃ b o c, p.1 = .slice (some ⟨b, o, none⟩) p.2.length c) (h1 : 1 ≤ (catL ps).length) (h2 : (catL ps).length ≤ 1000) (hm : ps.length ≤ 10) :
    Calls Tryd.prog 74 #[.slice (some ⟨V, 0, none⟩) ps.length c] w fun e w' => ∃ g c', e = .returned (.slice g (catL ps).length c') ∧ w'.ownsRow w.heap.size 3 1 (.slice g (catL ps).length c') (catL ps).length ((catL ps).map (Value.int .i64)) ∧ Below w.heap.size w w' := by
  obtain ⟨i0, hi, hz0, hz1, hz2⟩ := info_parts Tryd.info3'
  have HI : Hid (∀ p ∈ ps, IntsIn S w p.1 p.2 ∧ ∃ b o c, p.1 = .slice (some ⟨b, o, none⟩) p.2.length c) := hI
  have HVl := hV.lt
  clear hI
  go_enter Tryd.func74, Tryd.ntmps74
  go_wp2
  go_loopw [3, 11] (fun v3 v11 wr => ∃ k : Nat, k ≤ ps.length ∧ v11 = .int .i64 (k : Int) ∧ v3 = .int .i64 ((catL (ps.take k)).length : Int) ∧ wr = w) (fun _ v11 _ => ps.length - (intOf v11).toNat)
  case atStart => exact ⟨0, by omega, rfl, by simp [catL], rfl⟩
  case round =>
    obtain ⟨k, hk, rfl, rfl, hwr⟩ := hrel
    rw [hwr]
    clear hwr
    by_cases hlt : k < ps.length
    · obtain ⟨⟨pv, pz⟩, hp⟩ : ∃ p, ps[k]? = some p := ⟨_, List.getElem?_eq_getElem hlt⟩
      obtain ⟨hin, b, o, cc, hpv⟩ := HI.out (pv, pz) (List.mem_of_getElem? hp)
      simp only at hin hpv
      subst hpv
      have hc := hV.cell (i := k) (v := .slice (some ⟨b, o, none⟩) pz.length cc) (by simp [hp])
      have HT : Hid ((catL (ps.take (k + 1))).length = (catL (ps.take k)).length + pz.length) := by show _ = _; rw [take_snoc' hp, catL_snoc, List.length_append]
      have hle := catL_take_le ps (k + 1)
      rw [HT.out] at hle
      generalize (catL (ps.take k)).length = n at HT hle
      have t1 : ¬ ((n : Int) + (pz.length : Int) < 0) := by omega
      clear hin hp
      go_wp2
      refine ⟨⟨k + 1, by omega, by go_num, ?_, by first | rfl | trivial⟩, by simp [intOf]; omega⟩
      rw [HT.out]
      go_num
    · obtain rfl : k = ps.length := by omega
      rw [List.take_length]
      have HG : Hid (Calls Tryd.prog 82 #[.slice none 0 0, .int .i64 ((catL ps).length : Int)] w _) := grow_nil (catL ps).length h1 h2 w
      go_wp2_with fail
      refine HG.out.mono ?_
      clear HG
      rintro e w1 ⟨g0, c0, rfl, ho, hb⟩
      go_wp2
      go_loopw [6, 27] (fun v6 v27 wq => ∃ (k : Nat), k ≤ ps.length ∧ v27 = .int .i64 (k : Int) ∧ wq.ownsRow w.heap.size 3 1 v6 (catL (ps.take k)).length ((catL (ps.take k)).map (Value.int .i64)) ∧ Below w.heap.size w wq) (fun _ v27 _ => ps.length - (intOf v27).toNat)
      case atStart => exact ⟨0, by omega, rfl, by simpa [catL] using ho, hb⟩
      case round =>
        clear ho hb
        obtain ⟨k, hk, rfl, ho, hb⟩ := hrel
        by_cases hlt : k < ps.length
        · obtain ⟨⟨pv, pz⟩, hp⟩ : ∃ p, ps[k]? = some p := ⟨_, List.getElem?_eq_getElem hlt⟩
          obtain ⟨hin, b, o, cc, hpv⟩ := HI.out (pv, pz) (List.mem_of_getElem? hp)
          simp only at hin hpv
          subst hpv
          have hc := (hV.below hb HVl).cell (i := k) (v := .slice (some ⟨b, o, none⟩) pz.length cc) (by simp [hp])
          have HT : Hid (catL (ps.take (k + 1)) = catL (ps.take k) ++ pz) := by show _ = _; rw [take_snoc' hp, catL_snoc]
          have hle := catL_take_le ps (k + 1)
          rw [HT.out, List.length_append] at hle
          generalize catL (ps.take k) = xs at HT hle ho
          have HNW : Hid (∀ (j : Nat) (u : Value), (pz.map (Value.int .i64))[j]? = some u → wr.cell? ((⟨b, o, none⟩ : Addr).add j) = some u) := by
            intro j u hu
            have hj : j < pz.length := by simpa using (List.getElem?_eq_some_iff.1 hu).1
            obtain ⟨b', o', e, _, hcc⟩ := (hin.kept (Kept.of_below hb hS)).at j hj
            simp only [Option.some.injEq, Addr.mk.injEq, and_true] at e
            obtain ⟨rfl, rfl⟩ := e
            rw [Go.WideShapes.add_plain, hcc]
            rw [List.getElem?_map, List.getElem?_eq_getElem hj] at hu
            rw [List.getElem?_eq_getElem hj]
            simpa using hu
          have hbs := hb.size
          clear hin hp
          go_wp2_with (at_builtin; refine wpList_append_own2 _ rfl (.tmp 31) (.tmp 32) 40 rfl w.heap.size 3 i0 (.int .i64 0) 1 8 Tryd.underlying40 hi hz0 hz1 hz2 rfl (by decide) _ _ _ rfl ho ⟨b, o, none⟩ pz.length cc (pz.map (Value.int .i64)) rfl (by simp) HNW.out (ints_oneCell .i64 pz) (by unfold maxLen; omega) (by omega) hbs ?_)
          intro v' w3 ho' hg hblk
          have hb' := hb.grown hg hbs (fun q hq => (ho.lt q hq).1)
          clear HNW hblk hg ho hb
          go_wp2
          refine ⟨⟨k + 1, by omega, by go_num, ?_, hb'⟩, by simp [intOf]; omega⟩
          rw [HT.out, List.length_append, List.map_append]
          exact ho'
        · obtain rfl : k = ps.length := by omega
          rw [List.take_length] at ho
          obtain ⟨g', c', hv⟩ := owns_form ho
          subst hv
          have HF : Hid _ := And.intro ho hb
          clear ho hb
          go_wp2
          go_ret
          exact ⟨g', c', rfl, HF.out.1, HF.out.2⟩
end Go.Proofs.YtinbilbgipfemaaDoor
/- Fields in memory; put writes them. -/
namespace Go.Proofs.YtinbilbgipfemaaDoor
open Go.RowKit

/-- Fields, one behind the other, in a block of S. -/
def FldIn (S : Nat → Prop) (W : World) (a : Option Addr) (fs : List Fd) : Prop :=
  fs = [] ∨ ∃ b off, a = some ⟨b, off, none⟩ ∧ S b ∧ ∀ (j : Nat) (f : Fd), fs[j]? = some f → W.cell? ⟨b, off + j * 2, none⟩ = some (.int .u32 (f.1 : Int)) ∧ W.cell? ⟨b, off + j * 2 + 1, none⟩ = some (.int .i64 (f.2 : Int))
theorem FldIn.kept {S : Nat → Prop} {A B : World} (h : Kept S A B) {a : Option Addr} {fs : List Fd} : FldIn S A a fs → FldIn S B a fs
  | .inl e => .inl e
  | .inr ⟨b, off, e, hb, hc⟩ => .inr ⟨b, off, e, hb, fun j f hj => ⟨(h.cell (p := ⟨b, off + j * 2, none⟩) hb).trans (hc j f hj).1, (h.cell (p := ⟨b, off + j * 2 + 1, none⟩) hb).trans (hc j f hj).2⟩⟩
theorem FldIn.mono {S T : Nat → Prop} {A : World} (hT : ∀ k, S k → T k) {a : Option Addr} {fs : List Fd} : FldIn S A a fs → FldIn T A a fs
  | .inl e => .inl e
  | .inr ⟨b, off, e, hb, hc⟩ => .inr ⟨b, off, e, hT _ hb, hc⟩
theorem IsWb.alloc {T : Nat → Prop} {w : World} {R : Nat} {bs : List Bool} (h : IsWb T w R bs) (o : Obj) : IsWb T (w.alloc o) R bs := by
  obtain ⟨ys, ⟨g, c, h1, h2, h3⟩, hp⟩ := h
  exact ⟨ys, ⟨g, c, h1.alloc o, h2.alloc o, h3⟩, hp⟩

/-- The cells of fields. -/
def fcells (fs : List Fd) : List Value := fs.flatMap fun f => [.int .u32 (f.1 : Int), .int .i64 (f.2 : Int)]
theorem fcells_cons (f : Fd) (fs : List Fd) : fcells (f :: fs) = .int .u32 (f.1 : Int) :: .int .i64 (f.2 : Int) :: fcells fs := rfl
theorem fcells_length (fs : List Fd) : (fcells fs).length = fs.length * 2 := by
  induction fs with
  | nil => rfl
  | cons f fs ih => rw [fcells_cons]; simp only [List.length_cons, ih]; omega
theorem fcells_append (fs gs : List Fd) : fcells (fs ++ gs) = fcells fs ++ fcells gs := List.flatMap_append
theorem fcells_at (fs : List Fd) (j : Nat) (f : Fd) (h : fs[j]? = some f) : (fcells fs)[j * 2]? = some (.int .u32 (f.1 : Int)) ∧ (fcells fs)[j * 2 + 1]? = some (.int .i64 (f.2 : Int)) := by
  induction fs generalizing j with
  | nil => simp at h
  | cons g gs ih =>
    cases j with
    | zero =>
      simp only [List.getElem?_cons_zero, Option.some.injEq] at h
      subst h
      exact ⟨rfl, rfl⟩
    | succ j =>
      have := ih j (by simpa using h)
      rw [fcells_cons, show (j + 1) * 2 = j * 2 + 1 + 1 by omega]
      exact this
theorem fcells_set (fs : List Fd) (j : Nat) (f : Fd) : ((fcells fs).set (j * 2) (.int .u32 (f.1 : Int))).set (j * 2 + 1) (.int .i64 (f.2 : Int)) = fcells (fs.set j f) := by
  induction fs generalizing j with
  | nil => rfl
  | cons g gs ih =>
    cases j with
    | zero => rfl
    | succ j =>
      rw [List.set_cons_succ, fcells_cons, fcells_cons, show (j + 1) * 2 = j * 2 + 1 + 1 by omega, List.set_cons_succ, List.set_cons_succ, List.set_cons_succ, List.set_cons_succ, ih]
theorem FldIn.of_row {S : Nat → Prop} {W : World} {G : Nat} {t : TypeId} {fs : List Fd} (h : Row W G t (fcells fs).toArray) (hS : S G) : FldIn S W (some ⟨G, 0, none⟩) fs :=
  .inr ⟨G, 0, rfl, hS, fun j f hj => by
    have := fcells_at fs j f hj
    rw [Nat.zero_add]
    exact ⟨h.cell (by simpa using this.1), h.cell (by simpa using this.2)⟩⟩
theorem fieldsB_take (fs : List Fd) (k : Nat) (f : Fd) (h : fs[k]? = some f) : fieldsB (fs.take (k + 1)) = fieldsB (fs.take k) ++ lowBits f.1 f.2 := by
  obtain ⟨hk, rfl⟩ := List.getElem?_eq_some_iff.1 h
  rw [List.take_succ_eq_append_getElem hk, fieldsB_append]
  simp [fieldsB]
theorem widF_take (fs : List Fd) (k : Nat) : widF (fs.take k) ≤ widF fs := by
  have := widF_append (fs.take k) (fs.drop k)
  rw [List.take_append_drop] at this
  omega

set_option maxRecDepth 100000 in
set_option maxHeartbeats 1000000 in
theorem putF_any (T : Nat → Prop) (R : Nat) (bs : List Bool) (a : Option Addr) (cap : Nat) (fs : List Fd) (w : World) (hF : FldIn T w a fs) (hok : ∀ f ∈ fs, FdOk f) (hlen : fs.length < 140737488355328) (hW : IsWb T w R bs) (hT : ∀ k, T k → k < w.heap.size) (hTR : ¬ T R) (hsz : bs.length + widF fs + 64 < 1125899906842624) :
    Calls Tryd.prog 71 #[.pointer (some ⟨R, 0, none⟩), .slice a fs.length cap] w fun e w' => e = .returned (.tuple #[]) ∧ IsWb T w' R (bs ++ fieldsB fs) ∧ Kept T w w' := by
  have HOK : Hid (∀ f ∈ fs, FdOk f) := hok
  have HW : Hid (bs.length + widF fs + 64 < 1125899906842624) := hsz
  clear hok hsz
  go_enter Tryd.func71, Tryd.ntmps71
  go_wp2
  go_loopw [8] (fun v8 wr => ∃ k : Nat, k ≤ fs.length ∧ v8 = .int .i64 (k : Int) ∧ IsWb T wr R (bs ++ fieldsB (fs.take k)) ∧ Kept T w wr) (fun v8 _ => fs.length - (intOf v8).toNat)
  case atStart => exact ⟨0, by omega, rfl, by simpa [fieldsB] using hW, Kept.refl _ _⟩
  case round =>
    obtain ⟨k, hk, rfl, hI, hK⟩ := hrel
    by_cases hlt : k < fs.length
    · have hFr := hF.kept hK
      rcases hFr with rfl | ⟨b, off, rfl, hb, hc⟩
      · simp at hlt
      · obtain ⟨f, hf⟩ : ∃ f, fs[k]? = some f := ⟨_, List.getElem?_eq_getElem hlt⟩
        obtain ⟨fv, fw⟩ := f
        obtain ⟨c0, c1⟩ := hc k _ hf
        have hok := HOK.out (fv, fw) (List.mem_of_getElem? hf)
        simp only at c0 c1
        have hbl : b < wr.heap.size := Nat.lt_of_lt_of_le (hT b hb) hK.size
        have HP : Hid (Calls Tryd.prog 54 #[.pointer (some ⟨R, 0, none⟩), .int .u32 (fv : Int), .int .i64 (fw : Int)] (wr.alloc (.cells #[.int .u32 (fv : Int), .int .i64 (fw : Int)] 79)) _) := put_bits T R _ fv fw (wr.alloc (.cells #[.int .u32 (fv : Int), .int .i64 (fw : Int)] 79)) (hI.alloc _) (fun j hj => by simp; have := hT j hj; have := hK.size; omega) hTR (by
          have h1 := widF_take fs k
          have h2 := HW.out
          rw [List.length_append, fieldsB_length]
          omega) hok.1 hok.2
        have HE : Hid (fieldsB (fs.take (k + 1)) = fieldsB (fs.take k) ++ lowBits fv fw) := fieldsB_take fs k _ hf
        have HKa : Hid (Kept T w (wr.alloc (.cells #[.int .u32 (fv : Int), .int .i64 (fw : Int)] 79))) := hK.alloc (fun j hj => by have := hT j hj; have := hK.size; omega) _
        clear hc hI hok hf hF
        go_wp2_with fail
        refine HP.out.mono ?_
        clear HP
        rintro e w' ⟨rfl, hI', hK'⟩
        go_wp2
        refine ⟨⟨k + 1, by omega, by go_num, ?_, HKa.out.trans hK'⟩, by simp [intOf]; omega⟩
        rw [HE.out, ← List.append_assoc]
        exact hI'
    · obtain rfl : k = fs.length := by omega
      rw [List.take_length] at hI
      go_wp2
      go_end0
      exact ⟨rfl, hI, hK⟩
end Go.Proofs.YtinbilbgipfemaaDoor
/- The codes of lengths: each symbol's bits, in the order in which they are written. -/
namespace Go.Proofs.YtinbilbgipfemaaDoor
open Go.RowKit

/-- Each symbol's bits and how many they are. -/
def codesF (zs : List Int) : List Fd := (List.range zs.length).map fun i => (revN ((codesOf zs)[i]?.getD 0) (zs[i]?.getD 0).toNat, (zs[i]?.getD 0).toNat)
theorem codesF_length (zs : List Int) : (codesF zs).length = zs.length := by simp [codesF]
theorem codesF_at (zs : List Int) (i : Nat) (h : i < zs.length) : (codesF zs)[i]? = some (revN ((codesOf zs)[i]?.getD 0) (zs[i]?.getD 0).toNat, (zs[i]?.getD 0).toNat) := by simp [codesF, h]
/-- The first k codes, noughts behind them. -/
def codesK (zs : List Int) (k : Nat) : List Fd := (codesF zs).take k ++ List.replicate (zs.length - k) (0, 0)
theorem codesK_length (zs : List Int) (k : Nat) (h : k ≤ zs.length) : (codesK zs k).length = zs.length := by
  simp only [codesK, List.length_append, List.length_take, codesF_length, List.length_replicate]; omega
theorem codesK_next (zs : List Int) (k : Nat) (h : k < zs.length) (f : Fd) (hf : (codesF zs)[k]? = some f) : (codesK zs k).set k f = codesK zs (k + 1) := by
  have hl : ((codesF zs).take k).length = k := by rw [List.length_take, codesF_length]; omega
  have hk : k < (codesF zs).length := by rw [codesF_length]; exact h
  unfold codesK
  rw [List.set_append_right _ _ (by omega), hl, Nat.sub_self, List.take_succ_eq_append_getElem hk, List.append_assoc]
  rw [List.getElem?_eq_getElem hk, Option.some.injEq] at hf
  rw [hf, show zs.length - k = (zs.length - (k + 1)) + 1 by omega, List.replicate_succ, List.set_cons_zero]
  rfl
theorem codesK_all (zs : List Int) : codesK zs zs.length = codesF zs := by
  unfold codesK
  rw [Nat.sub_self, List.replicate_zero, List.append_nil, List.take_of_length_le (by rw [codesF_length]; exact Nat.le_refl _)]
theorem fcells_made (n : Nat) : madeCells #[.int .u32 0, .int .i64 0] (n * 2) = (fcells (List.replicate n (0, 0))).toArray := by
  apply Array.ext_getElem?
  intro i
  by_cases hi : i < n * 2
  · have h1 : (madeCells #[.int .u32 0, .int .i64 0] (n * 2))[i]? = some ((#[.int .u32 0, .int .i64 0] : Array Value)[i % 2]!) := by
      simp [madeCells, hi]
    rw [h1]
    have hf : (List.replicate n ((0, 0) : Fd))[i / 2]? = some (0, 0) := by rw [List.getElem?_replicate, if_pos (by omega)]
    have h2 := fcells_at _ _ _ hf
    rcases Nat.mod_two_eq_zero_or_one i with h | h
    · have e : i / 2 * 2 = i := by omega
      rw [e] at h2
      rw [h]
      simpa using h2.1.symm
    · have e : i / 2 * 2 + 1 = i := by omega
      rw [e] at h2
      rw [h]
      simpa using h2.2.symm
  · rw [Array.getElem?_eq_none (by rw [size_madeCells]; omega), Array.getElem?_eq_none (by simp [fcells_length]; omega)]
theorem Tryd.info79 : (Tryd.prog.info? 79).map (fun i => (i.zero, i.size, i.bytes)) = some (some (.agg #[.int .u32 0, .int .i64 0]), 2, 16) := by kernel_rfl
/-- All numbers of a state are of 32 bits. -/
def Small32 (s : List Nat × Nat) : Prop := s.2 < 4294967296 ∧ ∀ i : Nat, s.1[i]?.getD 0 < 4294967296
theorem cstep_small {s : List Nat × Nat} (h : Small32 s) (i : Nat) : Small32 (cstep s i) := by
  refine ⟨Nat.mod_lt _ (by omega), fun j => ?_⟩
  show (s.1.set i s.2)[j]?.getD 0 < _
  by_cases e : i = j
  · subst e
    by_cases hl : i < s.1.length
    · rw [List.getElem?_set_self hl]
      exact h.1
    · rw [List.getElem?_eq_none (by simp; omega)]
      simp
  · rw [List.getElem?_set_ne e]
    exact h.2 j
theorem cfold_small {α : Type} (f : α → Nat) (l : List α) : ∀ s : List Nat × Nat, Small32 s → Small32 (l.foldl (fun s x => cstep s (f x)) s) := by
  induction l with
  | nil => intro s h; exact h
  | cons x xs ih => intro s h; exact ih _ (cstep_small h _)
theorem cstate_small (zs : List Int) (k : Nat) : Small32 (cstate zs k) := by
  induction k with
  | zero =>
    refine ⟨by simp [cstate], fun i => ?_⟩
    simp only [cstate, List.getElem?_replicate]
    split <;> simp
  | succ k ih =>
    rw [cstate, cpass]
    exact cfold_small _ _ _ ⟨Nat.mod_lt _ (by omega), ih.2⟩
theorem codesOf_lt (zs : List Int) (i : Nat) : (codesOf zs)[i]?.getD 0 < 4294967296 := (cstate_small zs 15).2 i

set_option maxRecDepth 100000 in
set_option maxHeartbeats 2000000 in
theorem newCodes_any (S : Nat → Prop) (a : Option Addr) (cap : Nat) (zs : List Int) (w : World) (hS : ∀ k, S k → k < w.heap.size) (hI : IntsIn S w (.slice a zs.length cap) zs) (he : errOf zs = 0) (hl : zs.length ≤ 1000) (hr : ∀ i : Nat, 0 ≤ zs[i]?.getD 0 ∧ zs[i]?.getD 0 ≤ 15) :
    Calls Tryd.prog 73 #[.slice a zs.length cap] w fun e w' => ∃ G, e = .returned (.slice (some ⟨G, 0, none⟩) zs.length zs.length) ∧ w.heap.size ≤ G ∧ Row w' G 79 (fcells (codesF zs)).toArray ∧ Below w.heap.size w w' := by
  have HC : Hid (Calls Tryd.prog 80 #[.slice a zs.length cap] w fun e w' => Below w.heap.size w w' ∧ ∃ G, e = .returned (.tuple #[.slice (some ⟨G, 0, none⟩) zs.length zs.length, .int .i64 0]) ∧ w.heap.size ≤ G ∧ Row w' G 77 (u32s (codesOf zs))) := (codes_any S a cap zs w hS hI).mono (by
    rintro e w' ⟨hb, h⟩
    rcases h with ⟨h1, _⟩ | ⟨_, h2⟩
    · exact absurd he h1
    · exact ⟨hb, h2⟩)
  obtain ⟨i0, hi, hz0, hz1, hz2⟩ := info_parts Tryd.info79
  have hmk : Hid (∀ W : World, (Instr.makeSlice 120 (.int .i64 (zs.length : Int)) (.int .i64 (zs.length : Int))).run Tryd.prog W = .ok (.slice (some ⟨W.heap.size, 0, none⟩) zs.length zs.length) (W.alloc (.cells (fcells (codesK zs 0)).toArray 79))) := fun W => by
    have := run_make (P := Tryd.prog) W 120 79 i0 _ Tryd.underlying120 hi hz0 .i64 .i64 (zs.length : Int) (zs.length : Int) (by omega) (by omega) (by rw [hz2]; omega) (by omega)
    rw [hz1] at this
    simp only [Int.toNat_natCast] at this
    rw [this]
    have e := fcells_made zs.length
    have e2 : codesK zs 0 = List.replicate zs.length (0, 0) := by simp [codesK]
    rw [e2, ← e]
    rfl
  have hmk' := hmk.out
  have hcl : (codesOf zs).length = zs.length := cstate_length zs 15
  go_enter Tryd.func73, Tryd.ntmps73
  go_wp2_with fail
  refine HC.out.mono ?_
  clear HC
  rintro e w1 ⟨hb1, N, rfl, hN, hRN⟩
  generalize hw2 : w1.alloc (.cells (fcells (codesK zs 0)).toArray 79) = w2
  have hR2 : Row w2 w1.heap.size 79 (fcells (codesK zs 0)).toArray := by subst hw2; exact Row.new w1 79 _
  have hb2 : Below w1.heap.size w1 w2 := by subst hw2; exact (Below.refl _ w1).alloc (Nat.le_refl _) _
  have HI : Hid (IntsIn S w (.slice a zs.length cap) zs) := hI
  clear hI
  go_wp2
  clear hw2
  go_loopw [18] (fun v18 wr => ∃ k : Nat, k ≤ zs.length ∧ v18 = .int .i64 (k : Int) ∧ Row wr w1.heap.size 79 (fcells (codesK zs k)).toArray ∧ Below w1.heap.size w1 wr) (fun v18 _ => zs.length - (intOf v18).toNat)
  case atStart => exact ⟨0, by omega, rfl, hR2, hb2⟩
  case round =>
    clear hR2 hb2 hmk'
    obtain ⟨k, hk, rfl, hR, hB⟩ := hrel
    by_cases hlt : k < zs.length
    · have hw : Below w.heap.size w wr := hb1.trans (hB.mono hb1.size)
      obtain ⟨b, off, rfl, hbS, hcb⟩ := (HI.out.kept (Kept.of_below hw hS)).at k hlt
      obtain ⟨cv, hcv⟩ : ∃ cv, (codesOf zs)[k]?.getD 0 = cv := ⟨_, rfl⟩
      have hcv32 := codesOf_lt zs k
      rw [hcv] at hcv32
      have hcN : wr.cell? ⟨N, k, none⟩ = some (.int .u32 (cv : Int)) := by
        have := (hRN.below hB hRN.lt).cell (i := k) (v := .int .u32 (cv : Int)) (by
          rw [u32s_at _ k (by rw [hcl]; exact hlt)]
          rw [← hcv, List.getElem?_eq_getElem (by rw [hcl]; exact hlt)]
          rfl)
        exact this
      obtain ⟨z, hz⟩ : ∃ z : Nat, zs[k]?.getD 0 = (z : Int) := ⟨(zs[k]?.getD 0).toNat, by have := (hr k).1; omega⟩
      have hz15 : z ≤ 15 := by have := (hr k).2; omega
      rw [hz] at hcb
      have hf : (codesF zs)[k]? = some (revN cv z, z) := by rw [codesF_at zs k hlt, hcv, hz]; rfl
      have HNX : Hid ((codesK zs k).set k (revN cv z, z) = codesK zs (k + 1)) := codesK_next zs k hlt _ hf
      have hlb : b < wr.heap.size := World.block_lt_of_cell? _ _ hcb
      have hbG : b ≠ w1.heap.size := by have := hS b hbS; have := hb1.size; omega
      have HKL : Hid ((codesK zs k).length = zs.length) := codesK_length zs k hk
      have g0 : ∃ v0, wr.cell? ⟨w1.heap.size, k * 2, none⟩ = some v0 ∧ ∃ v1, wr.cell? ⟨w1.heap.size, k * 2 + 1, none⟩ = some v1 := by
        obtain ⟨f, hf⟩ : ∃ f, (codesK zs k)[k]? = some f := ⟨_, List.getElem?_eq_getElem (by rw [HKL.out]; exact hlt)⟩
        have := fcells_at _ _ _ hf
        exact ⟨_, hR.cell (by simpa using this.1), _, hR.cell (by simpa using this.2)⟩
      obtain ⟨v0, g0, v1, g1⟩ := g0
      have f0 := hR.frozen (k * 2)
      have f1 := hR.frozen (k * 2 + 1)
      have HV : Hid (∀ W, Calls Tryd.prog 81 #[.int .u32 (cv : Int), .int .i64 (z : Int)] W fun e w' => e = .returned (.int .u32 ((revN cv z : Nat) : Int)) ∧ w' = W) := fun W => by
        have := rev_any cv z hcv32 (by omega) (by omega) W
        rw [show min (z : Int).toNat 32 = z by omega] at this
        exact this
      have HR2 : Hid (Row ((wr.drew.setCell ⟨w1.heap.size, k * 2, none⟩ (.int .u32 ((revN cv z : Nat) : Int))).setCell ⟨w1.heap.size, k * 2 + 1, none⟩ (.int .i64 (z : Int))) w1.heap.size 79 (fcells (codesK zs (k + 1))).toArray ∧ Below w1.heap.size w1 ((wr.drew.setCell ⟨w1.heap.size, k * 2, none⟩ (.int .u32 ((revN cv z : Nat) : Int))).setCell ⟨w1.heap.size, k * 2 + 1, none⟩ (.int .i64 (z : Int)))) := by
        refine ⟨?_, (((Kept.of_below (S := (· < w1.heap.size)) hB (fun _ h => h)).drew.setCell (p := ⟨w1.heap.size, k * 2, none⟩) (by show ¬ w1.heap.size < w1.heap.size; omega) _).setCell (p := ⟨w1.heap.size, k * 2 + 1, none⟩) (by show ¬ w1.heap.size < w1.heap.size; omega) _).below (fun _ h => h)⟩
        have hR' : Row wr.drew w1.heap.size 79 (fcells (codesK zs k)).toArray := hR
        have := (hR'.set (k * 2) (.int .u32 ((revN cv z : Nat) : Int))).set (k * 2 + 1) (.int .i64 (z : Int))
        rw [← HNX.out, ← fcells_set]
        simpa using this
      generalize revN cv z = rv at HV HR2 HNX
      have HSW : Hid (wr.drew.cell? ⟨b, off + k, none⟩ = some (.int .i64 (z : Int))) := hcb
      clear hcl hr hf hRN hR hB hw HNX HKL hcv
      go_wp2_with fail
      refine wp_region_M (fun wx : World => wx.cell? ⟨b, off + k, none⟩ = some (.int .i64 (z : Int))) (fun j => decide (j < 14)) 15 rfl (by kernel_rfl) ?_
      refine wpM_held 0 (v := ?_) rfl (by kernel_rfl) (by kernel_rfl) rfl (fun _ _ _ h => h) rfl (by intro wx hx; go_simp <;> rfl) HSW.out ?_
      refine wpM_held 1 (v := ?_) rfl (by kernel_rfl) (by kernel_rfl) rfl (fun _ _ _ h => h) rfl (by intro wx hx; go_simp <;> rfl) HSW.out ?_
      refine wpM_held 2 (v := ?_) rfl (by kernel_rfl) (by kernel_rfl) rfl (fun _ _ _ h => h) rfl (by intro wx hx; go_simp <;> rfl) HSW.out ?_
      refine wpM_held 3 (v := ?_) rfl (by kernel_rfl) (by kernel_rfl) rfl (fun _ _ _ h => h) rfl (by intro wx hx; go_simp <;> rfl) HSW.out ?_
      refine wpM_held 4 (v := ?_) rfl (by kernel_rfl) (by kernel_rfl) rfl (fun _ _ _ h => h) rfl (by intro wx hx; go_simp <;> rfl) HSW.out ?_
      refine wpM_held 5 (v := .pointer (some ⟨b, off + k, none⟩)) rfl (by kernel_rfl) (by kernel_rfl) rfl (fun _ _ _ h => h) rfl (by intro wx hx; go_simp <;> rfl) HSW.out ?_
      refine wpM_held 6 (v := .int .i64 (z : Int)) rfl (by kernel_rfl) (by kernel_rfl) rfl (fun _ _ _ h => h) rfl (by intro wx hx; go_simp <;> rfl) HSW.out ?_
      refine wpM_held 8 (v := ?_) rfl (by kernel_rfl) (by kernel_rfl) rfl (fun _ _ _ h => h) rfl (by intro wx hx; go_simp <;> rfl) HSW.out ?_
      refine wpM_held 9 (v := ?_) rfl (by kernel_rfl) (by kernel_rfl) rfl (fun _ _ _ h => h) rfl (by intro wx hx; go_simp <;> rfl) HSW.out ?_
      refine wpM_held 10 (v := .pointer (some ⟨b, off + k, none⟩)) rfl (by kernel_rfl) (by kernel_rfl) rfl (fun _ _ _ h => h) rfl (by intro wx hx; go_simp <;> rfl) HSW.out ?_
      refine wpM_held 11 (v := .int .i64 (z : Int)) rfl (by kernel_rfl) (by kernel_rfl) rfl (fun _ _ _ h => h) rfl (by intro wx hx; go_simp <;> rfl) HSW.out ?_
      refine wpM_one 7 rfl (by kernel_rfl) rfl ?_
      go_wp2_with fail
      refine (HV.out _).mono ?_
      rintro e w' ⟨rfl, rfl⟩
      go_wp2_with fail
      refine ⟨fun _ => HSW.out, ?_⟩
      refine wpM_one 12 rfl (by kernel_rfl) rfl ?_
      go_wp2_with fail
      refine ⟨fun _ => HSW.out, ?_⟩
      refine wpM_one 13 rfl (by kernel_rfl) rfl ?_
      go_wp2_with fail
      refine ⟨fun _ => HSW.out, ?_⟩
      refine wpM_one 14 rfl (by kernel_rfl) rfl ?_
      go_wp2_with fail
      refine ⟨fun h => by simp at h, ?_⟩
      refine wpM_done (by kernel_rfl) ?_
      go_wp2
      exact ⟨⟨k + 1, by omega, by go_num, HR2.out.1, HR2.out.2⟩, by simp [intOf]; omega⟩
    · obtain rfl : k = zs.length := by omega
      rw [codesK_all] at hR
      have HF : Hid (Row wr w1.heap.size 79 (fcells (codesF zs)).toArray ∧ Below w.heap.size w wr) := ⟨hR, hb1.trans (hB.mono hb1.size)⟩
      have hsz := hb1.size
      clear hR hB
      go_wp2
      go_ret
      exact ⟨_, rfl, hsz, HF.out.1, HF.out.2⟩
end Go.Proofs.YtinbilbgipfemaaDoor
