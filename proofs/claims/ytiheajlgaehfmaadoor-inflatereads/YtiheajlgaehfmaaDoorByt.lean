import Derived.Test.YtiheajlgaehfmaaDoorRef
import Derived.Test.YtiheajlgaehfmaaDoorApp
/- Bytes of both readers. -/
namespace Go.Proofs.YtiheajlgaehfmaaDoor
open Go.RowKit

set_option maxHeartbeats 400000 in
theorem bytes_arg (R : Nat) (n : Int) (w : World) (hn : n < 0) : Calls Tryd.prog 50 #[.pointer (some ⟨R, 0, none⟩), .int .i64 n] w fun e w' => e = .returned (.tuple #[.slice none 0 0, .int .i64 1]) ∧ w' = w := by
  go_enter Tryd.func50, Tryd.ntmps50
  go_wp2
  go_ret2
  exact ⟨rfl, rfl⟩
set_option maxHeartbeats 400000 in
theorem refBytes_arg (R : Nat) (n : Int) (w : World) (hn : n < 0) : Calls Tryd.prog 58 #[.pointer (some ⟨R, 0, none⟩), .int .i64 n] w fun e w' => e = .returned (.tuple #[.slice none 0 0, .int .i64 1]) ∧ w' = w := by
  go_enter Tryd.func58, Tryd.ntmps58
  go_wp2
  go_ret2
  exact ⟨rfl, rfl⟩

theorem Kept.drewN {S : Nat → Prop} {a w : World} (h : Kept S a w) (n : Nat) : Kept S a (w.drewN n) := h.trans ⟨rfl, rfl, rfl, Nat.le_refl _, fun _ _ => rfl⟩

theorem sub_cells {W : World} {b off q n : Nat} {zs : List Int} (hc : ∀ j : Nat, j < zs.length → W.cell? ⟨b, off + j, none⟩ = some (.int .u8 (zs[j]?.getD 0))) (hn : q + n ≤ zs.length) :
    ∀ j : Nat, j < n → W.cell? ((⟨b, off + q, none⟩ : Addr).add j) = some (.int .u8 (((zs.drop q).take n)[j]?.getD 0)) := by
  intro j hj
  rw [Go.WideShapes.add_plain, Nat.add_assoc, hc (q + j) (by omega)]
  rw [List.getElem?_take_of_lt hj, List.getElem?_drop]

set_option maxHeartbeats 1000000 in
theorem bytes_some (D : Nat → Prop) (R b off c pos q n : Nat) (zs : List Int) (hq : (pos + 7) / 8 = q) (hl : zs.length ≤ 140737488351232) (hcl : zs.length ≤ c) (w : World) (hD : ∀ k, D k → k < w.heap.size) (hDR : ¬ D R) (h2 : Two w R 63 (.slice (some ⟨b, off, none⟩) zs.length c) (.int .i64 pos))
    (hb : D b) (hc : ∀ j : Nat, j < zs.length → w.cell? ⟨b, off + j, none⟩ = some (.int .u8 (zs[j]?.getD 0))) (hp : pos ≤ 8 * zs.length) (hn : q + n ≤ zs.length) :
    Calls Tryd.prog 50 #[.pointer (some ⟨R, 0, none⟩), .int .i64 n] w fun e W' => ∃ g' c', e = .returned (.tuple #[.slice g' n c', .int .i64 0]) ∧ W'.ownsRow w.heap.size 5 1 (.slice g' n c') n (((zs.drop q).take n).map (Value.int .u8)) ∧
      Two W' R 63 (.slice (some ⟨b, off, none⟩) zs.length c) (.int .i64 ((q * 8 + 8 * n : Nat) : Int)) ∧ Kept D w W' := by
  have t1 : ¬ (n : Int) < 0 := by omega
  have hal := align_any R pos _ w (by omega) h2
  rw [hq] at hal
  have HQ : Hid ((pos + 7) / 8 = q) := hq
  clear hq
  go_enter Tryd.func50, Tryd.ntmps50
  go_wp2_with fail
  refine hal.mono ?_
  rintro e wq ⟨rfl, hwq⟩
  have hT : Two wq R 63 (.slice (some ⟨b, off, none⟩) zs.length c) (.int .i64 (q * 8)) := by rw [hwq]; exact h2.set1 _
  have hKq : Kept D w wq := hwq ▸ (Kept.refl D w).setCell (p := ⟨R, 1, none⟩) hDR _
  have HW : Hid (w.heap.size = wq.heap.size) := by show _ = _; rw [hwq]; simp [World.setCell]
  clear hwq
  have c0 := hT.cell0
  have c1 := hT.cell1
  have f1 := hT.frozen 1
  have hlen : ((zs.drop q).take n).length = n := by simp; omega
  have hcw : ∀ nq : Nat, ∀ j : Nat, j < zs.length → ((wq.drewN nq).setCell ⟨R, 1, none⟩ (.int .i64 ((q : Int) * 8 + 8 * n))).cell? ⟨b, off + j, none⟩ = some (.int .u8 (zs[j]?.getD 0)) := fun nq j hj =>
    (((hKq.drewN nq).setCell (p := ⟨R, 1, none⟩) hDR _).cell (p := ⟨b, off + j, none⟩) hb).trans (hc j hj)
  have HC := hcw
  have HL : Hid (((zs.drop q).take n).length = n) := hlen
  clear hc hcw hlen
  by_cases hcq : c = q
  · obtain rfl : n = 0 := by omega
    obtain rfl : q = zs.length := by omega
    subst hcq
    go_wp2
    go_quiet (fail)
    go_wp2_with fail
    refine (clone_some ⟨b, off, none⟩ 0 0 [] _ rfl (by omega) (fun j hj => by omega)).mono ?_
    rintro e w5 ⟨v, rfl, hv, hB5⟩
    obtain ⟨g5, c5, rfl⟩ := owns_form hv
    go_wp2
    go_ret2
    have hsz : ((wq.drewN nq).setCell ⟨R, 1, none⟩ (.int .i64 ((zs.length : Int) * 8))).heap.size = w.heap.size := by rw [HW.out]; simp [World.setCell]
    rw [hsz] at hv hB5
    refine ⟨g5, c5, rfl, by simpa using hv, ?_, ?_⟩
    · exact (hB5.block R h2.lt).trans ((hT.drewN nq).set1 _)
    · exact ((hKq.drewN nq).setCell (p := ⟨R, 1, none⟩) hDR _).trans (Kept.of_below hB5 hD)
  · go_wp2
    go_quiet (fail)
    go_wp2_with fail
    refine (clone_some ⟨b, off + q, none⟩ n (c - q) ((zs.drop q).take n) _ HL.out (by omega) (sub_cells (HC _) hn)).mono ?_
    rintro e w5 ⟨v, rfl, hv, hB5⟩
    obtain ⟨g5, c5, rfl⟩ := owns_form hv
    go_wp2
    go_ret2
    have hsz : ((wq.drewN nq).setCell ⟨R, 1, none⟩ (.int .i64 ((q : Int) * 8 + 8 * n))).heap.size = w.heap.size := by rw [HW.out]; simp [World.setCell]
    rw [hsz] at hv hB5
    refine ⟨g5, c5, rfl, hv, ?_, ?_⟩
    · exact (hB5.block R h2.lt).trans ((hT.drewN nq).set1 _)
    · exact ((hKq.drewN nq).setCell (p := ⟨R, 1, none⟩) hDR _).trans (Kept.of_below hB5 hD)

set_option maxHeartbeats 1000000 in
theorem bytes_none (D : Nat → Prop) (R c : Nat) (g : Option Addr) (w : World) (hg : g = none → c = 0) (hD : ∀ k, D k → k < w.heap.size) (hDR : ¬ D R) (h2 : Two w R 63 (.slice g 0 c) (.int .i64 0)) :
    Calls Tryd.prog 50 #[.pointer (some ⟨R, 0, none⟩), .int .i64 0] w fun e W' => ∃ g' c', e = .returned (.tuple #[.slice g' 0 c', .int .i64 0]) ∧ W'.ownsRow w.heap.size 5 1 (.slice g' 0 c') 0 [] ∧
      Two W' R 63 (.slice g 0 c) (.int .i64 0) ∧ Kept D w W' := by
  have hal := align_any R 0 _ w (by omega) h2
  go_enter Tryd.func50, Tryd.ntmps50
  go_wp2_with fail
  refine hal.mono ?_
  rintro e wq ⟨rfl, hwq⟩
  have hT : Two wq R 63 (.slice g 0 c) (.int .i64 0) := by rw [hwq]; exact h2.set1 _
  have hKq : Kept D w wq := hwq ▸ (Kept.refl D w).setCell (p := ⟨R, 1, none⟩) hDR _
  have HW : Hid (w.heap.size = wq.heap.size) := by show _ = _; rw [hwq]; simp [World.setCell]
  clear hwq
  have c0 := hT.cell0
  have c1 := hT.cell1
  have f1 := hT.frozen 1
  cases g with
  | none =>
    obtain rfl := hg rfl
    go_wp2
    go_quiet (fail)
    go_wp2_with fail
    refine (clone_nil 0 0 _).mono ?_
    rintro e w5 ⟨rfl, rfl⟩
    go_wp2
    go_ret2
    refine ⟨none, 0, rfl, World.ownsRow_nil _ _ _ _, ?_, ?_⟩
    · exact (hT.drewN nq).set1 _
    · exact (hKq.drewN nq).setCell (p := ⟨R, 1, none⟩) hDR _
  | some A =>
    clear hg
    go_wp2
    go_quiet (fail)
    go_wp2_with fail
    refine (clone_some A 0 c [] _ rfl (by omega) (fun j hj => by omega)).mono ?_
    rintro e w5 ⟨v, rfl, hv, hB5⟩
    obtain ⟨g5, c5, rfl⟩ := owns_form hv
    go_wp2
    go_ret2
    have hsz : ((wq.drewN nq).setCell ⟨R, 1, none⟩ (.int .i64 0)).heap.size = w.heap.size := by rw [HW.out]; simp [World.setCell]
    rw [hsz] at hv hB5
    refine ⟨g5, c5, rfl, by simpa using hv, ?_, ?_⟩
    · exact (hB5.block R h2.lt).trans ((hT.drewN nq).set1 _)
    · exact ((hKq.drewN nq).setCell (p := ⟨R, 1, none⟩) hDR _).trans (Kept.of_below hB5 hD)

/-- Bytes, where there are as many. -/
theorem bytes_any (D : Nat → Prop) (R : Nat) (g : Option Addr) (c pos n : Nat) (zs : List Int) (hl : zs.length ≤ 140737488351232) (hcl : zs.length ≤ c) (hg : g = none → c = 0) (w : World) (hD : ∀ k, D k → k < w.heap.size) (hDR : ¬ D R)
    (h2 : Two w R 63 (.slice g zs.length c) (.int .i64 pos)) (hI : BytesIn D w (.slice g zs.length c) zs) (hp : pos ≤ 8 * zs.length) (hn : (pos + 7) / 8 + n ≤ zs.length) :
    Calls Tryd.prog 50 #[.pointer (some ⟨R, 0, none⟩), .int .i64 n] w fun e W' => ∃ g' c', e = .returned (.tuple #[.slice g' n c', .int .i64 0]) ∧ W'.ownsRow w.heap.size 5 1 (.slice g' n c') n (((zs.drop ((pos + 7) / 8)).take n).map (Value.int .u8)) ∧
      Two W' R 63 (.slice g zs.length c) (.int .i64 (((pos + 7) / 8 * 8 + 8 * n : Nat) : Int)) ∧ Kept D w W' := by
  rcases hI with ⟨rfl, a', cap', e⟩ | ⟨b, off, cap', e, hb, hc⟩
  · simp only [List.length_nil] at hp hn h2
    obtain rfl : pos = 0 := by omega
    obtain rfl : n = 0 := by omega
    simpa using bytes_none D R c g w hg hD hDR h2
  · simp only [Value.slice.injEq, true_and] at e
    obtain ⟨rfl, rfl⟩ := e
    exact bytes_some D R b off c pos _ n zs rfl hl hcl w hD hDR h2 hb hc hp hn

set_option maxHeartbeats 1000000 in
/-- Bytes, where there are not as many: only the aligning is done. -/
theorem bytes_end (D : Nat → Prop) (R : Nat) (g : Option Addr) (len c pos q : Nat) (n : Int) (hq : (pos + 7) / 8 = q) (hl : len ≤ 140737488351232) (hcl : len ≤ c) (hg : g = none → c = 0) (w : World) (hDR : ¬ D R)
    (h2 : Two w R 63 (.slice g len c) (.int .i64 pos)) (hp : pos ≤ 8 * len) (h0 : 0 ≤ n) (hn : ((len - q : Nat) : Int) < n) :
    Calls Tryd.prog 50 #[.pointer (some ⟨R, 0, none⟩), .int .i64 n] w fun e W' => e = .returned (.tuple #[.slice none 0 0, .int .i64 10]) ∧ Two W' R 63 (.slice g len c) (.int .i64 ((q * 8 : Nat) : Int)) ∧ Kept D w W' := by
  have t1 : ¬ n < 0 := by omega
  have hal := align_any R pos _ w (by omega) h2
  rw [hq] at hal
  have HQ : Hid ((pos + 7) / 8 = q) := hq
  have hql : q ≤ len := by omega
  clear hq
  go_enter Tryd.func50, Tryd.ntmps50
  go_wp2_with fail
  refine hal.mono ?_
  rintro e wq ⟨rfl, hwq⟩
  have hT : Two wq R 63 (.slice g len c) (.int .i64 (q * 8)) := by rw [hwq]; exact h2.set1 _
  have hKq : Kept D w wq := hwq ▸ (Kept.refl D w).setCell (p := ⟨R, 1, none⟩) hDR _
  clear hwq
  have c0 := hT.cell0
  have c1 := hT.cell1
  cases g with
  | none =>
    obtain rfl := hg rfl
    obtain rfl : len = 0 := by omega
    obtain rfl : q = 0 := by omega
    go_wp2
    go_quiet (fail)
    go_wp2
    go_ret2
    exact ⟨rfl, hT.drewN nq, hKq.drewN nq⟩
  | some A =>
    clear hg
    by_cases hcq : c = q
    all_goals
      go_wp2
      go_quiet (fail)
      go_wp2
      go_ret2
      exact ⟨rfl, hT.drewN nq, hKq.drewN nq⟩
end Go.Proofs.YtiheajlgaehfmaaDoor
