/- The item that stands at a place: the longest copy, or the byte. -/
import Derived.Test.YtijfjbpmlcmnmaaDoorSea
namespace Go.Proofs.YtijfjbpmlcmnmaaDoor
open Go.RowKit

/-- An item that tells what stands at p, within q. -/
def ItemOk (T : List Int) (p q : Nat) (r : It) : Prop :=
  (r.l = 0 ∧ r.d = 0 ∧ r.b = T[p]?.getD 0) ∨ (r.b = 0 ∧ ∃ l d : Nat, r.l = (l : Int) ∧ r.d = (d : Int) ∧ 3 ≤ l ∧ l ≤ 258 ∧ p + l ≤ q ∧ 1 ≤ d ∧ d ≤ p ∧ d ≤ 32768 ∧ ∀ i, i < l → T[p - d + i]?.getD 0 = T[p + i]?.getD 0)

theorem wrap_u8_int (b : Int) (h : 0 ≤ b ∧ b ≤ 255) : IntKind.i64.wrap b = b := by simp [IntKind.wrap, IntKind.bits, IntKind.signed]; omega

set_option maxRecDepth 100000 in
set_option maxHeartbeats 4000000 in
theorem item_any (D : Nat → Prop) (F H P : Nat) (a : Option Addr) (cap m : Nat) (T hs bs : List Int) (w : World) (hSw : ∀ k, (D k ∨ k = F ∨ k = H ∨ k = P) → k < w.heap.size) (hF : FindAt D F H P a cap m T hs bs w) (p q : Nat) (hp : p < q) (hq : q ≤ T.length) (hm : 1 ≤ m ∧ m ≤ 32768) (hl : T.length ≤ 2000000) (hT : AreBytes T) (hC : ChainOk T m p hs bs) :
    Calls Tryd.prog 33 #[.pointer (some ⟨F, 0, none⟩), .int .i64 (p : Int), .int .i64 (q : Int)] w fun e w' => Below w.heap.size w w' ∧ ∃ r : It, e = .returned r.val ∧ ItemOk T p q r ∧ (r.l = 0 → p + 3 ≤ q → ¬ RunHere T p (hs[hashN T m p]?.getD 0)) := by
  have hws : IntKind.i64.wrap ((q : Int) - (p : Int)) = (q : Int) - (p : Int) := by simp [IntKind.wrap, IntKind.bits, IntKind.signed]; omega
  have r6 := Row.new w 32 #[.int .i64 0, .int .i64 0, .int .i64 0]
  have hB1 : Below w.heap.size w (w.alloc (.cells #[.int .i64 0, .int .i64 0, .int .i64 0] 32)) := (Below.refl _ w).alloc (Nat.le_refl _) _
  have hs1 : (w.alloc (.cells #[.int .i64 0, .int .i64 0, .int .i64 0] 32)).heap.size = w.heap.size + 1 := by simp
  have hF1 := hF.kept (Kept.of_below hB1 hSw) (fun _ h => h)
  by_cases h258 : 258 ≤ q - p
  · have t1 : ¬ ((q : Int) - (p : Int) < 258) := by omega
    have HS : Hid (Calls Tryd.prog 49 #[.pointer (some ⟨F, 0, none⟩), .int .i64 (p : Int), .int .i64 258] (w.alloc (.cells #[.int .i64 0, .int .i64 0, .int .i64 0] 32)) fun e w' => Below (w.heap.size + 1) (w.alloc (.cells #[.int .i64 0, .int .i64 0, .int .i64 0] 32)) w' ∧ ∃ l d : Nat, e = .returned (It.val ⟨0, (l : Int), (d : Int)⟩) ∧ BestOk T p 258 l d ∧ (RunHere T p (hs[hashN T m p]?.getD 0) → 3 ≤ l)) := by
      have := search_in D F H P a cap m T hs bs _ (fun k h => by have := hSw k h; rw [hs1]; omega) hF1 p 258 (by omega) ⟨by omega, by omega⟩ hm hl hT hC
      rw [hs1] at this
      have := callsIn_wide.1 this
      skip
      exact this
    clear hC
    go_enter Tryd.func33, Tryd.ntmps33
    go_wp2_with fail
    refine HS.out.mono ?_
    clear HS
    rintro e w2 ⟨hb2, l, d, rfl, hBest, hRun⟩
    have hr6 := (r6.below hb2 (by omega)).alloc (.cells #[.int .i64 0, .int .i64 (l : Int), .int .i64 (d : Int)] 32)
    have hF3 : FindAt D F H P a cap m T hs bs (w2.alloc (.cells #[.int .i64 0, .int .i64 (l : Int), .int .i64 (d : Int)] 32)) := hF1.kept ((Kept.of_below (S := fun k => D k ∨ k = F ∨ k = H ∨ k = P) hb2 (fun k h => by have := hSw k h; omega)).alloc (fun k h => by have := hSw k h; have := hb2.size; omega) _) (fun _ h => h)
    have hz2 : w.heap.size + 1 ≤ w2.heap.size := by have := hb2.size; omega
    have hB3 : Below w.heap.size w (w2.alloc (.cells #[.int .i64 0, .int .i64 (l : Int), .int .i64 (d : Int)] 32)) := (hB1.trans (hb2.mono (by omega))).alloc (by omega) _
    have f60 := hr6.frozen 0
    have f61 := hr6.frozen 1
    have f62 := hr6.frozen 2
    have c60 := hr6.cell (i := 0) rfl
    have c61 := hr6.cell (i := 1) rfl
    have c62 := hr6.cell (i := 2) rfl
    simp only [It.val]
    by_cases h3 : 3 ≤ l
    · have t3 : (3 : Int) ≤ (l : Int) := by omega
      have hB9 : Below w.heap.size w ((((w2.alloc (.cells #[.int .i64 0, .int .i64 (l : Int), .int .i64 (d : Int)] 32)).setCell ⟨w.heap.size, 0, none⟩ (.int .i64 0)).setCell ⟨w.heap.size, 1, none⟩ (.int .i64 (l : Int))).setCell ⟨w.heap.size, 2, none⟩ (.int .i64 (d : Int))) := hB3.trans ((kept_set3 (S := fun k => k < w.heap.size) (Kept.refl _ _) (by show ¬ w.heap.size < _; omega) _ _ _).below (fun _ h => h))
      clear hF1 hB1 hs1 r6 hF hT hF3
      go_wp2
      refine bodyPost_ret (v := It.val ⟨0, (l : Int), (d : Int)⟩) (results_cell_row rfl _ _ w.heap.size 32 _ (0, 0) _ rfl (row_set3 hr6 _ _ _) Tryd.underlying32 rfl (by kernel_rfl)) rfl ⟨hB9, ⟨0, (l : Int), (d : Int)⟩, rfl, ?_, fun h => by simp only at h; omega⟩
      rcases hBest with h | ⟨b1, b2, b3, b4, b5, b6⟩
      · omega
      · exact .inr ⟨rfl, l, d, rfl, rfl, h3, by omega, by omega, b3, b4, b5, b6⟩
    · have t3 : ¬ ((3 : Int) ≤ (l : Int)) := by omega
      have qF := hF3.fin.cell (i := 0) rfl
      obtain ⟨tb, off, rfl, hD, hc⟩ := hF3.txt.at 0 (by omega)
      have cp := hc p (by omega)
      have HBD := hT p
      obtain ⟨bp, HBP⟩ : ∃ bp, Hid (T[p]?.getD 0 = bp) := ⟨_, rfl⟩
      rw [HBP.out] at cp HBD
      have hwb : IntKind.i64.wrap bp = bp := wrap_u8_int bp HBD
      have l1 : (p : Int) < (T.length : Int) := by omega
      clear hc hF3
      have hB9 : Below w.heap.size w ((((w2.alloc (.cells #[.int .i64 0, .int .i64 (l : Int), .int .i64 (d : Int)] 32)).setCell ⟨w.heap.size, 0, none⟩ (.int .i64 bp)).setCell ⟨w.heap.size, 1, none⟩ (.int .i64 0)).setCell ⟨w.heap.size, 2, none⟩ (.int .i64 0)) := hB3.trans ((kept_set3 (S := fun k => k < w.heap.size) (Kept.refl _ _) (by show ¬ w.heap.size < _; omega) _ _ _).below (fun _ h => h))
      clear hF1 hB1 hs1 r6 hF hT
      go_wp2
      refine bodyPost_ret (v := It.val ⟨bp, 0, 0⟩) (results_cell_row rfl _ _ w.heap.size 32 _ (0, 0) _ rfl (row_set3 hr6 _ _ _) Tryd.underlying32 rfl (by kernel_rfl)) rfl ⟨hB9, ⟨bp, 0, 0⟩, rfl, .inl ⟨rfl, rfl, HBP.out.symm⟩, fun _ _ h => h3 (hRun h)⟩
  · by_cases hq3 : 3 ≤ q - p
    · have t1 : (q : Int) - (p : Int) < 258 := by omega
      have t2 : (3 : Int) ≤ (q : Int) - (p : Int) := by omega
      have HS : Hid (Calls Tryd.prog 49 #[.pointer (some ⟨F, 0, none⟩), .int .i64 (p : Int), .int .i64 ((q : Int) - (p : Int))] (w.alloc (.cells #[.int .i64 0, .int .i64 0, .int .i64 0] 32)) fun e w' => Below (w.heap.size + 1) (w.alloc (.cells #[.int .i64 0, .int .i64 0, .int .i64 0] 32)) w' ∧ ∃ l d : Nat, e = .returned (It.val ⟨0, (l : Int), (d : Int)⟩) ∧ BestOk T p (q - p) l d ∧ (RunHere T p (hs[hashN T m p]?.getD 0) → 3 ≤ l)) := by
        have := search_in D F H P a cap m T hs bs _ (fun k h => by have := hSw k h; rw [hs1]; omega) hF1 p (q - p) (by omega) ⟨by omega, by omega⟩ hm hl hT hC
        rw [hs1] at this
        have := callsIn_wide.1 this
        rw [show (((q - p) : Nat) : Int) = (q : Int) - (p : Int) by omega] at this
        exact this
      clear hC
      go_enter Tryd.func33, Tryd.ntmps33
      go_wp2_with fail
      refine HS.out.mono ?_
      clear HS
      rintro e w2 ⟨hb2, l, d, rfl, hBest, hRun⟩
      have hr6 := (r6.below hb2 (by omega)).alloc (.cells #[.int .i64 0, .int .i64 (l : Int), .int .i64 (d : Int)] 32)
      have hF3 : FindAt D F H P a cap m T hs bs (w2.alloc (.cells #[.int .i64 0, .int .i64 (l : Int), .int .i64 (d : Int)] 32)) := hF1.kept ((Kept.of_below (S := fun k => D k ∨ k = F ∨ k = H ∨ k = P) hb2 (fun k h => by have := hSw k h; omega)).alloc (fun k h => by have := hSw k h; have := hb2.size; omega) _) (fun _ h => h)
      have hz2 : w.heap.size + 1 ≤ w2.heap.size := by have := hb2.size; omega
      have hB3 : Below w.heap.size w (w2.alloc (.cells #[.int .i64 0, .int .i64 (l : Int), .int .i64 (d : Int)] 32)) := (hB1.trans (hb2.mono (by omega))).alloc (by omega) _
      have f60 := hr6.frozen 0
      have f61 := hr6.frozen 1
      have f62 := hr6.frozen 2
      have c60 := hr6.cell (i := 0) rfl
      have c61 := hr6.cell (i := 1) rfl
      have c62 := hr6.cell (i := 2) rfl
      simp only [It.val]
      by_cases h3 : 3 ≤ l
      · have t3 : (3 : Int) ≤ (l : Int) := by omega
        have hB9 : Below w.heap.size w ((((w2.alloc (.cells #[.int .i64 0, .int .i64 (l : Int), .int .i64 (d : Int)] 32)).setCell ⟨w.heap.size, 0, none⟩ (.int .i64 0)).setCell ⟨w.heap.size, 1, none⟩ (.int .i64 (l : Int))).setCell ⟨w.heap.size, 2, none⟩ (.int .i64 (d : Int))) := hB3.trans ((kept_set3 (S := fun k => k < w.heap.size) (Kept.refl _ _) (by show ¬ w.heap.size < _; omega) _ _ _).below (fun _ h => h))
        clear hF1 hB1 hs1 r6 hF hT hF3
        go_wp2
        refine bodyPost_ret (v := It.val ⟨0, (l : Int), (d : Int)⟩) (results_cell_row rfl _ _ w.heap.size 32 _ (0, 0) _ rfl (row_set3 hr6 _ _ _) Tryd.underlying32 rfl (by kernel_rfl)) rfl ⟨hB9, ⟨0, (l : Int), (d : Int)⟩, rfl, ?_, fun h => by simp only at h; omega⟩
        rcases hBest with h | ⟨b1, b2, b3, b4, b5, b6⟩
        · omega
        · exact .inr ⟨rfl, l, d, rfl, rfl, h3, by omega, by omega, b3, b4, b5, b6⟩
      · have t3 : ¬ ((3 : Int) ≤ (l : Int)) := by omega
        have qF := hF3.fin.cell (i := 0) rfl
        obtain ⟨tb, off, rfl, hD, hc⟩ := hF3.txt.at 0 (by omega)
        have cp := hc p (by omega)
        have HBD := hT p
        obtain ⟨bp, HBP⟩ : ∃ bp, Hid (T[p]?.getD 0 = bp) := ⟨_, rfl⟩
        rw [HBP.out] at cp HBD
        have hwb : IntKind.i64.wrap bp = bp := wrap_u8_int bp HBD
        have l1 : (p : Int) < (T.length : Int) := by omega
        clear hc hF3
        have hB9 : Below w.heap.size w ((((w2.alloc (.cells #[.int .i64 0, .int .i64 (l : Int), .int .i64 (d : Int)] 32)).setCell ⟨w.heap.size, 0, none⟩ (.int .i64 bp)).setCell ⟨w.heap.size, 1, none⟩ (.int .i64 0)).setCell ⟨w.heap.size, 2, none⟩ (.int .i64 0)) := hB3.trans ((kept_set3 (S := fun k => k < w.heap.size) (Kept.refl _ _) (by show ¬ w.heap.size < _; omega) _ _ _).below (fun _ h => h))
        clear hF1 hB1 hs1 r6 hF hT
        go_wp2
        refine bodyPost_ret (v := It.val ⟨bp, 0, 0⟩) (results_cell_row rfl _ _ w.heap.size 32 _ (0, 0) _ rfl (row_set3 hr6 _ _ _) Tryd.underlying32 rfl (by kernel_rfl)) rfl ⟨hB9, ⟨bp, 0, 0⟩, rfl, .inl ⟨rfl, rfl, HBP.out.symm⟩, fun _ _ h => h3 (hRun h)⟩
    · have t1 : (q : Int) - (p : Int) < 258 := by omega
      have t2 : ¬ ((3 : Int) ≤ (q : Int) - (p : Int)) := by omega
      have hr6 := r6
      have hF3 := hF1
      have f60 := hr6.frozen 0
      have f61 := hr6.frozen 1
      have f62 := hr6.frozen 2
      have c60 := hr6.cell (i := 0) rfl
      have c61 := hr6.cell (i := 1) rfl
      have c62 := hr6.cell (i := 2) rfl
      have qF := hF3.fin.cell (i := 0) rfl
      obtain ⟨tb, off, rfl, hD, hc⟩ := hF3.txt.at 0 (by omega)
      have cp := hc p (by omega)
      have HBD := hT p
      obtain ⟨bp, HBP⟩ : ∃ bp, Hid (T[p]?.getD 0 = bp) := ⟨_, rfl⟩
      rw [HBP.out] at cp HBD
      have hwb : IntKind.i64.wrap bp = bp := wrap_u8_int bp HBD
      have l1 : (p : Int) < (T.length : Int) := by omega
      clear hc hF3
      go_enter Tryd.func33, Tryd.ntmps33
      clear hF1 hB1 hs1 r6 hF hT hr6
      go_wp2
      refine bodyPost_ret (v := It.val ⟨bp, 0, 0⟩) (results_cell_row rfl _ _ w.heap.size 32 _ (0, 0) _ rfl (Row.new w 32 _) Tryd.underlying32 rfl (by kernel_rfl)) rfl ⟨(Below.refl _ w).alloc (Nat.le_refl _) _, ⟨bp, 0, 0⟩, rfl, .inl ⟨rfl, rfl, HBP.out.symm⟩, fun _ h => by omega⟩
end Go.Proofs.YtijfjbpmlcmnmaaDoor
