/- The search: the copy of the most bytes among the chain's places. -/
import Derived.Test.YtijfjbpmlcmnmaaDoorChn
import Derived.Test.YtijfjbpmlcmnmaaDoorFit
import Derived.Laws.ResultCell
import Derived.WalkMore
import Derived.Scope
namespace Go.Proofs.YtijfjbpmlcmnmaaDoor
open Go.RowKit Go.Shelf

attribute [local go_sem] Oper.semAt_some

/-- A copy of l bytes from d places back, or none. -/
def BestOk (T : List Int) (p mo : Nat) (l d : Nat) : Prop := (l = 0 ∧ d = 0) ∨ (1 ≤ l ∧ l ≤ mo ∧ 1 ≤ d ∧ d ≤ p ∧ d ≤ 32768 ∧ ∀ i, i < l → T[p - d + i]?.getD 0 = T[p + i]?.getD 0)
/-- Where the byte ahead repeats itself, the copy has three bytes at least. -/
def RunHere (T : List Int) (p : Nat) (hd : Int) : Prop := 1 ≤ p ∧ hd = (p : Int) - 1 ∧ ∀ i, i < 3 → T[p - 1 + i]?.getD 0 = T[p + i]?.getD 0

/-- What has come when the places pre are through. -/
def SeaI (T : List Int) (p mo : Nat) (hd : Int) (B7 : Nat) (wd : World) (pre : List Nat) (W : World) : Prop :=
  ∃ l d : Nat, Kept (fun k => k < wd.heap.size ∧ k ≠ B7) wd W ∧ Row W B7 32 #[.int .i64 0, .int .i64 (l : Int), .int .i64 (d : Int)] ∧ BestOk T p mo l d ∧ l < mo ∧ (pre ≠ [] → RunHere T p hd → 3 ≤ l)
def SeaX (T : List Int) (p mo : Nat) (B7 : Nat) (wd : World) (id : Nat) (W : World) : Prop :=
  id = 0 ∧ ∃ d : Nat, Kept (fun k => k < wd.heap.size ∧ k ≠ B7) wd W ∧ Row W B7 32 #[.int .i64 0, .int .i64 (mo : Int), .int .i64 (d : Int)] ∧ BestOk T p mo mo d

theorem kept_grown7 {B7 : Nat} {wd A B : World} {row : Option Nat} (h : Kept (fun k => k < wd.heap.size ∧ k ≠ B7) wd A) (hg : A.grownBy B row) (hr : ∀ r, row = some r → wd.heap.size ≤ r ∧ ∃ o : Obj, A.heap[r]? = some o ∧ o.isCells = false) : Kept (fun k => k < wd.heap.size ∧ k ≠ B7) wd B :=
  h.grown hg (fun k hk => Nat.lt_of_lt_of_le hk.1 h.size) (fun k e hk => by have := (hr k e).1; omega)
theorem row_grown7 {B7 : Nat} {A B : World} {row : Option Nat} {t : TypeId} {cs : Array Value} (h : Row A B7 t cs) (hg : A.grownBy B row) (hr : ∀ r, row = some r → ∃ o : Obj, A.heap[r]? = some o ∧ o.isCells = false) : Row B B7 t cs := by
  refine (hg.block B7 h.lt ?_).trans h
  intro e
  obtain ⟨o, ho, hc⟩ := hr B7 e.symm
  obtain rfl := Option.some.inj (ho.symm.trans h)
  cases hc

theorem run_ge {T : List Int} {p x i : Nat} {hd : Int} (hR : RunHere T p hd) (hx : (x : Int) = hd) (hne : T[x + i]?.getD 0 ≠ T[p + i]?.getD 0) : 3 ≤ i := by
  by_cases h : 3 ≤ i
  · exact h
  · exfalso
    apply hne
    have h1 := hR.2.2 i (by omega)
    have h2 := hR.1
    have h3 := hR.2.1
    rw [show x = p - 1 by omega]
    exact h1
theorem row_set3 {W : World} {B7 : Nat} {a b c : Value} (h : Row W B7 32 #[a, b, c]) (x y z : Value) : Row (((W.setCell ⟨B7, 0, none⟩ x).setCell ⟨B7, 1, none⟩ y).setCell ⟨B7, 2, none⟩ z) B7 32 #[x, y, z] := by
  have := ((h.set 0 x).set 1 y).set 2 z
  simpa using this
theorem kept_set3 {S : Nat → Prop} {wd W : World} {B7 : Nat} (h : Kept S wd W) (hn : ¬ S B7) (x y z : Value) : Kept S wd (((W.setCell ⟨B7, 0, none⟩ x).setCell ⟨B7, 1, none⟩ y).setCell ⟨B7, 2, none⟩ z) :=
  ((h.setCell (p := ⟨B7, 0, none⟩) hn x).setCell (p := ⟨B7, 1, none⟩) hn y).setCell (p := ⟨B7, 2, none⟩) hn z
theorem from_set3 (B : Nat) (W : World) (B7 : Nat) (x y z : Value) : KeepsFrom B W (((W.setCell ⟨B7, 0, none⟩ x).setCell ⟨B7, 1, none⟩ y).setCell ⟨B7, 2, none⟩ z) :=
  (((KeepsOthers.setCell W _ _).trans (KeepsOthers.setCell _ _ _)).trans (KeepsOthers.setCell _ _ _)).from B
theorem from_drewN (B : Nat) (W : World) (k : Nat) : KeepsFrom B W (W.drewN k) := ⟨Nat.le_refl _, fun _ _ _ h _ => h⟩
theorem al_old {W : World} {k : Nat} {o' : Obj} (h : W.heap[k]? = some o') (o : Obj) : (W.alloc o).heap[k]? = some o' := (Below.heap_alloc W o k (Array.getElem?_eq_some_iff.1 h).1).trans h
theorem al_new (W : World) (o : Obj) (k : Nat) (hk : k = W.heap.size) : (W.alloc o).heap[k]? = some o := hk ▸ World.alloc_heap_new W o
theorem sea_start (w : World) (o3 o4 o5 o6 o7 c1 c2 : Obj) : ∃ wd, ((((((w.alloc o3).alloc o4).alloc o5).alloc o6).alloc o7).alloc c1).alloc c2 = wd ∧ wd.heap[w.heap.size]? = some o3 ∧ wd.heap[w.heap.size + 1]? = some o4 ∧ wd.heap[w.heap.size + 1 + 1]? = some o5 ∧ wd.heap[w.heap.size + 1 + 1 + 1]? = some o6 ∧
    wd.heap[w.heap.size + 1 + 1 + 1 + 1]? = some o7 ∧ wd.heap[w.heap.size + 1 + 1 + 1 + 1 + 1]? = some c1 ∧ wd.heap[w.heap.size + 1 + 1 + 1 + 1 + 1 + 1]? = some c2 ∧ wd.heap.size = w.heap.size + 7 ∧ Below w.heap.size w wd := by
  refine ⟨_, rfl, ?_, ?_, ?_, ?_, ?_, ?_, ?_, ?_, ?_⟩
  · exact al_old (al_old (al_old (al_old (al_old (al_old (al_new _ _ _ (by simp)) _) _) _) _) _) _
  · exact al_old (al_old (al_old (al_old (al_old (al_new _ _ _ (by simp)) _) _) _) _) _
  · exact al_old (al_old (al_old (al_old (al_new _ _ _ (by simp)) _) _) _) _
  · exact al_old (al_old (al_old (al_new _ _ _ (by simp)) _) _) _
  · exact al_old (al_old (al_new _ _ _ (by simp)) _) _
  · exact al_old (al_new _ _ _ (by simp)) _
  · exact al_new _ _ _ (by simp)
  · simp
  · exact (((((((Below.refl _ w).alloc (Nat.le_refl _) _).alloc (by simp) _).alloc (by simp; omega) _).alloc (by simp; omega) _).alloc (by simp; omega) _).alloc (by simp; omega) _).alloc (by simp; omega) _

set_option maxRecDepth 100000 in
set_option maxHeartbeats 8000000 in
theorem search_in (D : Nat → Prop) (F H P : Nat) (a : Option Addr) (cap m : Nat) (T hs bs : List Int) (w : World) (hSw : ∀ k, (D k ∨ k = F ∨ k = H ∨ k = P) → k < w.heap.size) (hF : FindAt D F H P a cap m T hs bs w) (p mo : Nat) (hp : p + mo ≤ T.length) (hmo : 3 ≤ mo ∧ mo ≤ 258) (hm : 1 ≤ m ∧ m ≤ 32768) (hl : T.length ≤ 2000000) (hT : AreBytes T) (hC : ChainOk T m p hs bs) :
    CallsIn Fence.wide 6 Tryd.prog 49 #[.pointer (some ⟨F, 0, none⟩), .int .i64 (p : Int), .int .i64 (mo : Int)] w fun e w' => Below w.heap.size w w' ∧ ∃ l d : Nat, e = .returned (It.val ⟨0, (l : Int), (d : Int)⟩) ∧ BestOk T p mo l d ∧ (RunHere T p (hs[hashN T m p]?.getD 0) → 3 ≤ l) := by
  refine callsIn_of_wp_marks Tryd.func49 rfl trivial ?_ rfl
  simp only [Tryd.ntmps49, List.size_toArray, List.length_cons, List.length_nil, Nat.reduceAdd, Nat.reduceSub, Array.replicate_succ, Array.replicate_zero, List.push_toArray, List.append_toArray, List.nil_append, List.cons_append]
  gi_wp2
  refine wpIn_wide.2 (wp_scope_straight ((wpIn_wide (n := 6)).1 ?_))
  gi_wp2
  refine wpIn_label ?_
  gi_wp2_with (refine ⟨trivial, ?_⟩; gi_at_call 67; refine (callsIn_wide.2 (chain_any _ _ _)).mono ?_; rintro e w' ⟨rfl, rfl⟩)
  obtain ⟨wd, hwd, r3, r4, r5, r6, r7, r8, r9, hsz, hBd⟩ := sea_start w (.cells #[.pointer (some ⟨F, 0, none⟩)] 48) (.cells #[.int .i64 (p : Int)] 3) (.cells #[.int .i64 (mo : Int)] 3) (.cells #[.int .i64 0, .int .i64 0, .int .i64 0] 32) (.cells #[.int .i64 0, .int .i64 0, .int .i64 0] 32) (.cells #[.pointer (some ⟨F, 0, none⟩)] 48) (.cells #[.int .i64 (p : Int)] 3)
  rw [hwd]
  clear hwd
  have r3 : Row wd _ 48 _ := r3
  have r4 : Row wd _ 3 _ := r4
  have r5 : Row wd _ 3 _ := r5
  have r6 : Row wd _ 32 _ := r6
  have r7 : Row wd _ 32 _ := r7
  have r8 : Row wd _ 48 _ := r8
  have r9 : Row wd _ 3 _ := r9
  generalize hC2 : w.heap.size + 1 + 1 + 1 + 1 + 1 + 1 = C2 at r9 ⊢
  generalize hC1 : w.heap.size + 1 + 1 + 1 + 1 + 1 = C1 at r8 ⊢
  generalize hB7 : w.heap.size + 1 + 1 + 1 + 1 = B7 at r7 ⊢
  generalize hB6 : w.heap.size + 1 + 1 + 1 = B6 at r6 ⊢
  generalize hB5 : w.heap.size + 1 + 1 = B5 at r5 ⊢
  generalize hB4 : w.heap.size + 1 = B4 at r4 ⊢
  obtain ⟨hd, HHD⟩ : ∃ hd, Hid (hs[hashN T m p]?.getD 0 = hd) := ⟨_, rfl⟩
  have hFd : FindAt D F H P a cap m T hs bs wd := hF.kept (Kept.of_below hBd hSw) (fun _ h => h)
  have HFd : Hid (FindAt D F H P a cap m T hs bs wd) := hFd
  have HNs : Hid (∀ k, (D k ∨ k = F ∨ k = H ∨ k = P) → k < w.heap.size) := hSw
  have hSwd : ∀ k, ((D k ∨ k = F ∨ k = H ∨ k = P) ∨ k = C1 ∨ k = C2) → k < wd.heap.size := by
    rintro k (h | rfl | rfl)
    · have := hSw k h; omega
    · omega
    · omega
  have hseq := chain_seq 5 D F H P C1 C2 a cap m T hs bs (fun k => (D k ∨ k = F ∨ k = H ∨ k = P) ∨ k = C1 ∨ k = C2) (.inr (.inl rfl)) (.inr (.inr rfl)) (fun k h => .inl h) p (by omega) hm hl hT hC wd hSwd hFd (r8.cell rfl) (r9.cell rfl)
  rw [HHD.out] at hseq
  refine wpIn_range_brk rfl (by omega) (gf := 78) (lb := #[.pointer (some ⟨C1, 0, none⟩), .pointer (some ⟨C2, 0, none⟩)]) rfl trivial (enters_of Tryd.func78 (by kernel_rfl) rfl) hseq
    Kept.trans (keptK_b hSwd) (fun _ => rfl)
    (SeaI T p mo hd B7 wd) (SeaX T p mo B7 wd)
    (fun s A B row hs hg hr => by
      obtain ⟨l, d, h1, h2, h3⟩ := hs
      exact ⟨l, d, kept_grown7 h1 hg hr, row_grown7 h2 hg (fun r e => (hr r e).2), h3⟩)
    (fun s A B row hs hg hr => by
      obtain ⟨h0, d, h1, h2, h3⟩ := hs
      exact ⟨h0, d, kept_grown7 h1 hg hr, row_grown7 h2 hg (fun r e => (hr r e).2), h3⟩)
    ⟨0, 0, Kept.refl _ _, r7, .inl ⟨rfl, rfl⟩, by omega, fun h => absurd rfl h⟩
    (fun x => { tmps := #[.pointer (some ⟨F, 0, none⟩), .int .i64 (p : Int), .int .i64 (mo : Int), .pointer (some ⟨w.heap.size, 0, none⟩), .pointer (some ⟨B4, 0, none⟩), .pointer (some ⟨B5, 0, none⟩), .pointer (some ⟨B6, 0, none⟩), .pointer (some ⟨B7, 0, none⟩), .int .i64 (x : Int), undef, .pointer (some ⟨F, 0, none⟩), .int .i64 (p : Int), .func (.func 78) #[] #[.pointer (some ⟨C1, 0, none⟩), .pointer (some ⟨C2, 0, none⟩)], .int .i64 (x : Int), undef, undef, undef, undef, undef, undef, undef, undef, undef, undef, undef, undef, undef, undef, undef, undef, undef, undef, undef, undef, undef, undef, undef, undef, undef, undef, undef, undef, undef, undef, undef, undef, undef, undef, undef, undef, undef, undef, undef, undef, undef, undef, undef, undef, undef, undef, undef, undef, undef, undef, undef, undef, undef, undef, undef, undef, undef, undef, undef, undef], defers := [] }) ?assign ?body ?done ?stop
  case assign =>
    intro l x W K hK
    gi_wp2
    exact hK
  case body =>
    rintro l pre x W ⟨ln, d, hK, hR7, hBest, hlt, hrun⟩ ⟨hx1, hx2, hx3, hx4⟩
    clear hseq
    have q3 := (hK.cell (p := ⟨w.heap.size, 0, none⟩) ⟨by show w.heap.size < _; omega, by show w.heap.size ≠ _; omega⟩).trans (r3.cell (i := 0) rfl)
    have q4 := (hK.cell (p := ⟨B4, 0, none⟩) ⟨by show B4 < _; omega, by show B4 ≠ _; omega⟩).trans (r4.cell (i := 0) rfl)
    have q5 := (hK.cell (p := ⟨B5, 0, none⟩) ⟨by show B5 < _; omega, by show B5 ≠ _; omega⟩).trans (r5.cell (i := 0) rfl)
    have hFW : FindAt D F H P a cap m T hs bs W := HFd.out.kept hK (fun k h => ⟨by have := HNs.out k h; omega, by have := HNs.out k h; omega⟩)
    have qF := hFW.fin.cell (i := 0) rfl
    obtain ⟨tb, off, rfl, hD, hc⟩ := hFW.txt.at 0 (by omega)
    have HC : Hid (∀ j : Nat, j < T.length → W.cell? ⟨tb, off + j, none⟩ = some (.int .u8 (T[j]?.getD 0))) := hc
    have q7 := hR7.cell (i := 1) rfl
    have c1 := hc (x + ln) (by omega)
    have c2 := hc (p + ln) (by omega)
    have hw1 : IntKind.i64.wrap ((x : Int) + (ln : Int)) = (x : Int) + (ln : Int) := by simp [IntKind.wrap, IntKind.bits, IntKind.signed]; omega
    have hw2 : IntKind.i64.wrap ((p : Int) + (ln : Int)) = (p : Int) + (ln : Int) := by simp [IntKind.wrap, IntKind.bits, IntKind.signed]; omega
    have l1 : (x : Int) + (ln : Int) < (T.length : Int) := by omega
    have l2 : (p : Int) + (ln : Int) < (T.length : Int) := by omega
    obtain ⟨bx, HBX⟩ : ∃ bx, Hid (T[x + ln]?.getD 0 = bx) := ⟨_, rfl⟩
    obtain ⟨bp, HBP⟩ : ∃ bp, Hid (T[p + ln]?.getD 0 = bp) := ⟨_, rfl⟩
    rw [HBX.out] at c1
    rw [HBP.out] at c2
    have HST : Hid (Kept (fun k => k < wd.heap.size ∧ k ≠ B7) wd W ∧ Row W B7 32 #[.int .i64 0, .int .i64 (ln : Int), .int .i64 (d : Int)] ∧ BestOk T p mo ln d ∧ ln < mo ∧ (pre ≠ [] → RunHere T p hd → 3 ≤ ln)) := ⟨hK, hR7, hBest, hlt, hrun⟩
    have HPL : Hid (x < p ∧ p - x ≤ 32768 ∧ x + 3 ≤ T.length ∧ (pre = [] → (x : Int) = hd)) := ⟨hx1, hx2, hx3, hx4⟩
    clear hK hR7 hBest hrun hx1 hx2 hx3 hx4 hFW hc hT hC hF hFd hSw r3 r4 r5 r6 r7 r8 r9
    gi_wp2_with fail
    refine wpIn_quiet_round (by kernel_rfl) (by kernel_rfl) (by kernel_rfl) ?_
    repeat (gi_big_quiet_step (fail))
    refine wpQuietIn_nil ?_
    rintro _ ⟨nq, rfl⟩
    by_cases heq : bx = bp
    rotate_left
    · have e1 : (bx == bp) = false := by simpa using heq
      have HNE : Hid (T[x + ln]?.getD 0 ≠ T[p + ln]?.getD 0) := by rw [HBX.out, HBP.out]; exact heq
      gi_wp2
      obtain ⟨hK, hR7, hBest, hlt, hrun⟩ := HST.out
      obtain ⟨hx1, hx2, hx3, hx4⟩ := HPL.out
      exact ⟨⟨Nat.le_refl _, fun _ _ _ h _ => h⟩, kept_drewN _ _ _, ln, d, hK.trans (kept_drewN _ _ _), hR7, hBest, hlt, fun _ hRun => by
        by_cases h0 : pre = []
        · exact run_ge hRun (hx4 h0) HNE.out
        · exact hrun h0 hRun⟩
    · have e1 : (bx == bp) = true := by simpa using heq
      gi_wp2
      gi_loopw [36] (fun v36 wr => ∃ i k : Nat, v36 = .int .i64 (i : Int) ∧ i ≤ mo ∧ Hid (∀ j, j < i → T[x + j]?.getD 0 = T[p + j]?.getD 0) ∧ wr = W.drewN k) (fun v36 _ => mo - (intOf v36).toNat)
      case atStart => exact ⟨0, nq, rfl, by omega, (fun j h => by omega), rfl⟩
      case round =>
        obtain ⟨i, k, rfl, hile, HA, rfl⟩ := hrel
        clear c1 c2 e1 hw1 hw2 l1 l2 heq HBX HBP
        have q70 := HST.out.2.1.cell (i := 0) rfl
        have q72 := HST.out.2.1.cell (i := 2) rfl
        have f70 := HST.out.2.1.frozen 0
        have f71 := HST.out.2.1.frozen 1
        have f72 := HST.out.2.1.frozen 2
        have hws : IntKind.i64.wrap ((p : Int) - (x : Int)) = (p : Int) - (x : Int) := by have := HPL.out; simp [IntKind.wrap, IntKind.bits, IntKind.signed]; omega
        have hwi : IntKind.i64.wrap ((i : Int) + 1) = (i : Int) + 1 := by simp [IntKind.wrap, IntKind.bits, IntKind.signed]; omega
        by_cases hlti : i < mo
        rotate_left
        · have t1 : ¬ ((i : Int) < (mo : Int)) := by omega
          gi_wp2
          obtain ⟨hK, hR7, hBest, hlt, hrun⟩ := HST.out
          obtain ⟨hx1, hx2, hx3, hx4⟩ := HPL.out
          obtain rfl : i = mo := by omega
          refine ⟨(from_drewN _ _ _).trans (from_set3 _ _ _ _ _ _), rfl, p - x, kept_set3 (hK.trans (kept_drewN _ _ _)) (fun h => h.2 rfl) _ _ _, ?_, ?_⟩
          · have := row_set3 (W := W.drewN k) hR7 (.int .i64 0) (.int .i64 (i : Int)) (.int .i64 ((p : Int) - (x : Int)))
            rw [show ((p - x : Nat) : Int) = (p : Int) - (x : Int) by omega]
            exact this
          · refine .inr ⟨by omega, by omega, by omega, by omega, by omega, fun j hj => ?_⟩
            rw [show p - (p - x) = x by omega]
            exact HA.out j hj
        · have t1 : (i : Int) < (mo : Int) := by omega
          have HPX := HPL.out
          have c1 := HC.out (x + i) (by omega)
          have c2 := HC.out (p + i) (by omega)
          have hw1 : IntKind.i64.wrap ((x : Int) + (i : Int)) = (x : Int) + (i : Int) := by simp [IntKind.wrap, IntKind.bits, IntKind.signed]; omega
          have hw2 : IntKind.i64.wrap ((p : Int) + (i : Int)) = (p : Int) + (i : Int) := by simp [IntKind.wrap, IntKind.bits, IntKind.signed]; omega
          have l1 : (x : Int) + (i : Int) < (T.length : Int) := by omega
          have l2 : (p : Int) + (i : Int) < (T.length : Int) := by omega
          obtain ⟨bx, HBX⟩ : ∃ bx, Hid (T[x + i]?.getD 0 = bx) := ⟨_, rfl⟩
          obtain ⟨bp, HBP⟩ : ∃ bp, Hid (T[p + i]?.getD 0 = bp) := ⟨_, rfl⟩
          rw [HBX.out] at c1
          rw [HBP.out] at c2
          clear HPX
          gi_wp2_with fail
          refine wpIn_quiet_round (by kernel_rfl) (by kernel_rfl) (by kernel_rfl) ?_
          repeat (gi_big_quiet_step (fail))
          refine wpQuietIn_nil ?_
          rintro _ ⟨nq2, rfl⟩
          rw [World.drewN_drewN]
          by_cases heq : bx = bp
          · have e1 : (bx == bp) = true := by simpa using heq
            have HA2 : Hid (∀ j, j < i + 1 → T[x + j]?.getD 0 = T[p + j]?.getD 0) := by
              intro j hj
              by_cases h : j = i
              · subst h; rw [HBX.out, HBP.out]; exact heq
              · exact HA.out j (by omega)
            clear heq HBX HBP HA c1 c2
            gi_wp2
            exact ⟨⟨i + 1, k + nq2, by go_num, by omega, HA2, rfl⟩, by simp [intOf]; omega⟩
          · have e1 : (bx == bp) = false := by simpa using heq
            have HNE : Hid (T[x + i]?.getD 0 ≠ T[p + i]?.getD 0) := by rw [HBX.out, HBP.out]; exact heq
            clear heq HBX HBP c1 c2
            by_cases hgt : ln < i
            · have t2 : (ln : Int) < (i : Int) := by omega
              gi_wp2
              obtain ⟨hK, hR7, hBest, hlt, hrun⟩ := HST.out
              obtain ⟨hx1, hx2, hx3, hx4⟩ := HPL.out
              refine ⟨(from_drewN _ _ _).trans (from_set3 _ _ _ _ _ _), kept_set3 (kept_drewN _ _ _) ?_ _ _ _, i, p - x, kept_set3 (hK.trans (kept_drewN _ _ _)) (fun h => h.2 rfl) _ _ _, ?_, ?_, hlti, fun _ hRun => ?_⟩
              · rintro (h | h | h)
                · have := HNs.out B7 h; omega
                · omega
                · omega
              · have := row_set3 (W := W.drewN (k + nq2)) hR7 (.int .i64 0) (.int .i64 (i : Int)) (.int .i64 ((p : Int) - (x : Int)))
                rw [show ((p - x : Nat) : Int) = (p : Int) - (x : Int) by omega]
                exact this
              · refine .inr ⟨by omega, by omega, by omega, by omega, by omega, fun j hj => ?_⟩
                rw [show p - (p - x) = x by omega]
                exact HA.out j hj
              · by_cases h0 : pre = []
                · exact run_ge hRun (hx4 h0) HNE.out
                · have := hrun h0 hRun; omega
            · have t2 : ¬ ((ln : Int) < (i : Int)) := by omega
              gi_wp2
              obtain ⟨hK, hR7, hBest, hlt, hrun⟩ := HST.out
              obtain ⟨hx1, hx2, hx3, hx4⟩ := HPL.out
              exact ⟨⟨Nat.le_refl _, fun _ _ _ h _ => h⟩, kept_drewN _ _ _, ln, d, hK.trans (kept_drewN _ _ _), hR7, hBest, hlt, fun _ hRun => by
                by_cases h0 : pre = []
                · have := run_ge hRun (hx4 h0) HNE.out; omega
                · exact hrun h0 hRun⟩
  case done =>
    rintro Dd xs W hDd hE ⟨ln, d, hK, hR7, hBest, hlt, hrun⟩ hDf
    have q70 := hR7.cell (i := 0) rfl
    have q71 := hR7.cell (i := 1) rfl
    have q72 := hR7.cell (i := 2) rfl
    have hR6 := r6.kept hK ⟨by omega, by omega⟩
    have p60 := hR6.cell (i := 0) rfl
    have p61 := hR6.cell (i := 1) rfl
    have p62 := hR6.cell (i := 2) rfl
    have f60 := hR6.frozen 0
    have f61 := hR6.frozen 1
    have f62 := hR6.frozen 2
    have hR6' := row_set3 hR6 (.int .i64 0) (.int .i64 (ln : Int)) (.int .i64 (d : Int))
    have hD6 : (((W.setCell ⟨B6, 0, none⟩ (.int .i64 0)).setCell ⟨B6, 1, none⟩ (.int .i64 (ln : Int))).setCell ⟨B6, 2, none⟩ (.int .i64 (d : Int))).heap[Dd]? = some (.deferred (some [])) := ((kept_set3 (S := fun k => k = Dd) (Kept.refl _ W) (by show ¬ B6 = Dd; omega) _ _ _).block Dd rfl).trans hDf
    have hBl : Below w.heap.size w (((W.setCell ⟨B6, 0, none⟩ (.int .i64 0)).setCell ⟨B6, 1, none⟩ (.int .i64 (ln : Int))).setCell ⟨B6, 2, none⟩ (.int .i64 (d : Int))) := hBd.trans ((kept_set3 (S := fun k => k < w.heap.size) (hK.mono (fun k h => ⟨by omega, by omega⟩)) (by show ¬ B6 < _; omega) _ _ _).below (fun _ h => h))
    gi_wp2
    generalize ((W.setCell ⟨B6, 0, none⟩ (.int .i64 0)).setCell ⟨B6, 1, none⟩ (.int .i64 (ln : Int))).setCell ⟨B6, 2, none⟩ (.int .i64 (d : Int)) = W6 at hR6' hD6 hBl ⊢
    have hR9 : Row (W6.putObj Dd (.deferred none)) B6 32 #[.int .i64 0, .int .i64 (ln : Int), .int .i64 (d : Int)] := hR6'.kept (Kept.putObj (S := fun k => k ≠ Dd) W6 Dd (.deferred none) (fun h => h rfl)) (by show B6 ≠ Dd; omega)
    refine ⟨by simp, .inl ⟨_, _, rfl, run_takeDeferred hD6, ?_⟩⟩
    refine ⟨It.val ⟨0, (ln : Int), (d : Int)⟩, results_cell_row rfl _ _ B6 32 _ (0, 0) _ rfl hR9 Tryd.underlying32 rfl (by kernel_rfl), hBl.trans ((Kept.putObj (S := fun k => k < w.heap.size) W6 Dd (.deferred none) (by show ¬ Dd < _; omega)).below (fun _ h => h)), ln, d, rfl, hBest, ?_⟩
    rw [HHD.out]
    intro hRun
    by_cases h0 : xs = []
    · exfalso
      rcases hE h0 with h | h
      · have := hRun.2.1; have := hRun.1; omega
      · have := hRun.2.1; omega
    · exact hrun h0 hRun
  case stop =>
    rintro Dd id W hDd ⟨rfl, d, hK, hR7, hBest⟩ hDf
    have q70 := hR7.cell (i := 0) rfl
    have q71 := hR7.cell (i := 1) rfl
    have q72 := hR7.cell (i := 2) rfl
    have hR6 := r6.kept hK ⟨by omega, by omega⟩
    have p60 := hR6.cell (i := 0) rfl
    have p61 := hR6.cell (i := 1) rfl
    have p62 := hR6.cell (i := 2) rfl
    have f60 := hR6.frozen 0
    have f61 := hR6.frozen 1
    have f62 := hR6.frozen 2
    have hR6' := row_set3 hR6 (.int .i64 0) (.int .i64 (mo : Int)) (.int .i64 (d : Int))
    have hD6 : (((W.setCell ⟨B6, 0, none⟩ (.int .i64 0)).setCell ⟨B6, 1, none⟩ (.int .i64 (mo : Int))).setCell ⟨B6, 2, none⟩ (.int .i64 (d : Int))).heap[Dd]? = some (.deferred (some [])) := ((kept_set3 (S := fun k => k = Dd) (Kept.refl _ W) (by show ¬ B6 = Dd; omega) _ _ _).block Dd rfl).trans hDf
    have hBl : Below w.heap.size w (((W.setCell ⟨B6, 0, none⟩ (.int .i64 0)).setCell ⟨B6, 1, none⟩ (.int .i64 (mo : Int))).setCell ⟨B6, 2, none⟩ (.int .i64 (d : Int))) := hBd.trans ((kept_set3 (S := fun k => k < w.heap.size) (hK.mono (fun k h => ⟨by omega, by omega⟩)) (by show ¬ B6 < _; omega) _ _ _).below (fun _ h => h))
    refine wpIn_exit ?_
    simp only [Exit.inBlock, if_true, Exit.then]
    gi_wp2
    generalize ((W.setCell ⟨B6, 0, none⟩ (.int .i64 0)).setCell ⟨B6, 1, none⟩ (.int .i64 (mo : Int))).setCell ⟨B6, 2, none⟩ (.int .i64 (d : Int)) = W6 at hR6' hD6 hBl ⊢
    have hR9 : Row (W6.putObj Dd (.deferred none)) B6 32 #[.int .i64 0, .int .i64 (mo : Int), .int .i64 (d : Int)] := hR6'.kept (Kept.putObj (S := fun k => k ≠ Dd) W6 Dd (.deferred none) (fun h => h rfl)) (by show B6 ≠ Dd; omega)
    refine ⟨by simp, .inl ⟨_, _, rfl, run_takeDeferred hD6, ?_⟩⟩
    refine ⟨It.val ⟨0, (mo : Int), (d : Int)⟩, results_cell_row rfl _ _ B6 32 _ (0, 0) _ rfl hR9 Tryd.underlying32 rfl (by kernel_rfl), hBl.trans ((Kept.putObj (S := fun k => k < w.heap.size) W6 Dd (.deferred none) (by show ¬ Dd < _; omega)).below (fun _ h => h)), mo, d, rfl, hBest, ?_⟩
    exact fun _ => hmo.1
end Go.Proofs.YtijfjbpmlcmnmaaDoor
