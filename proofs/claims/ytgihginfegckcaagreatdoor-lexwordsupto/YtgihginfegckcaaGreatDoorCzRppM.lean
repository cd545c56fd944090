import Derived.Test.YtgihginfegckcaaGreatDoorCzWpcM
import Derived.Test.YtgihginfegckcaaGreatDoorCzWthpM
import Derived.Test.YtgihginfegckcaaGreatDoorCzRcg
/- The document's Parse, if its cell keeps its contract. -/
namespace Go.Proofs.YtgihginfegckcaaGreatDoor
open Go.RowKit

def parseV (nm : List UInt8) (x : Rf) (f k t : Bool) : Value :=
  .tuple #[if f && k && t then .agg #[.string (bs nm), .int .i64 x.c, .int .i64 x.r, .bool x.ac, .bool x.ar] else .agg #[.string .empty, .int .i64 0, .int .i64 0, .bool false, .bool false], .int .i64 (if f && k then (if t then 0 else 41) else 40)]
set_option maxRecDepth 100000 in
set_option maxHeartbeats 2000000 in
theorem rpp_a (hc : CellC) (l : List UInt8) (hl : l.length ≤ 140737488351232) (w : World) :
    Calls Tryz.prog 65 #[.string (bs l)] w fun e w' => (∃ nm rs, ((sheetC l).2.2 = true → nm = (sheetC l).1 ∧ rs = (sheetC l).2.1) ∧ e = .returned (parseV nm (cellR rs) (sheetC l).2.2 (placeP rs).ok (cellT rs))) ∧ Below w.heap.size w w' := by
  have HS : ∀ W, Hid (Calls Tryz.prog 102 #[.string (bs l)] W fun e w' => ShOk l e ∧ Below W.heap.size W w') := fun W => refSheet_any l hl W
  have HC : Hid CellC := hc
  clear hc
  go_enter Tryz.func65, Tryz.ntmps65
  go_wp2_with fail
  refine Calls.mono (HS _).out ?_
  rintro _ w1 ⟨⟨nm, rs, rfl, hsame, hlen⟩, b1⟩
  have HK : ∀ W, Hid _ := fun W => HC.out rs (Nat.le_trans hlen hl) W
  obtain ⟨x, hx⟩ : ∃ x, cellR rs = x := ⟨_, rfl⟩
  obtain ⟨k, hk0⟩ : ∃ k, (placeP rs).ok = k := ⟨_, rfl⟩
  obtain ⟨t, ht0⟩ : ∃ t, cellT rs = t := ⟨_, rfl⟩
  rw [hx, hk0, ht0] at HK
  obtain ⟨f, ef⟩ : ∃ f, (sheetC l).2.2 = f := ⟨_, rfl⟩
  obtain ⟨s, c, r, ac, ar⟩ := x
  unfold Rf.v at HK
  simp only at HK
  rw [ef]
  have HE : Hid (((sheetC l).2.2 = true → nm = (sheetC l).1 ∧ rs = (sheetC l).2.1) ∧ .returned (parseV nm (⟨s, c, r, ac, ar⟩ : Rf) f k t) = Ending.returned (parseV nm (cellR rs) (sheetC l).2.2 (placeP rs).ok (cellT rs))) := ⟨hsame, by rw [hx, hk0, ht0, ef]⟩
  clear hsame hx hk0 ht0 ef hlen hl HC
  go_wp2_with fail
  refine Calls.mono (HK _).out ?_
  rintro _ w2 ⟨rfl, b2⟩
  obtain ⟨hZ0, hB0⟩ := one_row w w2 _ _ (b1.trans (b2.mono b1.size))
  have hZ := hZ0.alloc (.cells #[.string s, .int .i64 c, .int .i64 r, .bool ac, .bool ar] 32)
  have hR := Row.new w2 32 #[.string s, .int .i64 c, .int .i64 r, .bool ac, .bool ar]
  have hB := below_allocS hB0 (.cells #[.string s, .int .i64 c, .int .i64 r, .bool ac, .bool ar] 32)
  have hne : w.heap.size ≠ w2.heap.size := by
    have h1 := b1.size
    have h2 := b2.size
    simp at h1
    omega
  have hle : w.heap.size ≤ w2.heap.size := by
    have h1 := b1.size
    have h2 := b2.size
    simp at h1
    omega
  clear b1 b2 HS HK
  have hlt := hZ.lt
  obtain ⟨e0, e1, e2, e3, e4⟩ := hZ.five
  have z2 := hZ.frozen
  obtain ⟨r0, r1, r2, r3, r4⟩ := hR.five
  have z3 := hR.frozen
  by_cases hk : (f && k) = true
  · simp only [Bool.and_eq_true] at hk
    obtain ⟨rfl, rfl⟩ := hk
    cases t
    · go_wp2
      refine bodyPost_ret (ret_two (u := 3) rfl (g := w.heap.size) rfl rfl (load23 (Row.set5 hZ _ _ _ _ _) rfl)) rfl ⟨⟨nm, rs, HE.out.1, by exact HE.out.2⟩, ?_⟩
      exact below_set5 hB (Nat.le_refl _) _ _ _ _ _
    · have hN := hZ0.alloc (.cells #[.string (bs nm), .int .i64 c, .int .i64 r, .bool ac, .bool ar] 32)
      have hC := below_allocS hB0 (.cells #[.string (bs nm), .int .i64 c, .int .i64 r, .bool ac, .bool ar] 32)
      obtain ⟨n0, n1, n2, n3, n4⟩ := hN.five
      have z4 := hN.frozen
      go_wp2
      refine bodyPost_ret (ret_two (u := 3) rfl (g := w.heap.size) rfl rfl (load23 (Row.set5 hN _ _ _ _ _) rfl)) rfl ⟨⟨nm, rs, HE.out.1, by exact HE.out.2⟩, ?_⟩
      exact below_set5 hC (Nat.le_refl _) _ _ _ _ _
  · have ek : (f && k) = false := by simpa using hk
    cases f
    · go_wp2
      refine bodyPost_ret (ret_two (u := 3) rfl (g := w.heap.size) rfl rfl (load23 (Row.set5 hZ _ _ _ _ _) rfl)) rfl ⟨⟨nm, rs, HE.out.1, by exact HE.out.2⟩, ?_⟩
      exact below_set5 hB (Nat.le_refl _) _ _ _ _ _
    · cases k
      · go_wp2
        refine bodyPost_ret (ret_two (u := 3) rfl (g := w.heap.size) rfl rfl (load23 (Row.set5 hZ _ _ _ _ _) rfl)) rfl ⟨⟨nm, rs, HE.out.1, by exact HE.out.2⟩, ?_⟩
        exact below_set5 hB (Nat.le_refl _) _ _ _ _ _
      · exact absurd rfl hk
/-- The document's Parse. -/
theorem refParse_any (hc : CellC) (l : List UInt8) (hl : l.length ≤ 140737488351232) (w : World) :
    Calls Tryz.prog 65 #[.string (bs l)] w fun e w' => e = .returned (.tuple #[(parseR l).1.v, .int .i64 (parseR l).2]) ∧ Below w.heap.size w w' := by
  refine Calls.mono (rpp_a hc l hl w) ?_
  rintro e w' ⟨⟨nm, rs, h1, rfl⟩, hb⟩
  refine ⟨?_, hb⟩
  unfold parseR readOk parseV
  cases hf : (sheetC l).2.2
  · rfl
  · obtain ⟨rfl, rfl⟩ := h1 hf
    cases hk : (placeP (sheetC l).2.1).ok
    · rfl
    · unfold cellT cellR
      rw [hk, found_sheet (bs (sheetC l).1)]
      cases ht : foundR .empty (placeP (sheetC l).2.1) with
      | none => rfl
      | some r =>
        have e : r = ⟨.empty, ((colOf (placeP (sheetC l).2.1).letters).getD 0 : Nat), (rowN (placeP (sheetC l).2.1).digits : Nat), (placeP (sheetC l).2.1).ac, (placeP (sheetC l).2.1).ar⟩ := by
          unfold foundR at ht
          split at ht
          · exact (Option.some.inj ht).symm
          · cases ht
        rw [e]
        rfl
end Go.Proofs.YtgihginfegckcaaGreatDoor
/- The document's Parse, whole. -/
namespace Go.Proofs.YtgihginfegckcaaGreatDoor
open Go.RowKit
theorem refParse_all (l : List UInt8) (hl : l.length ≤ 140737488351232) (w : World) : Calls Tryz.prog 65 #[.string (bs l)] w fun e w' => e = .returned (.tuple #[.agg #[.string (parseR l).1.s, .int .i64 (parseR l).1.c, .int .i64 (parseR l).1.r, .bool (parseR l).1.ac, .bool (parseR l).1.ar], .int .i64 (parseR l).2]) ∧ Below w.heap.size w w' := refParse_any cell_keeps l hl w
end Go.Proofs.YtgihginfegckcaaGreatDoor
