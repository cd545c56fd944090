import Derived.Test.YtnblbakjfpfipaaGreatDoorRpp
/- The document's ParseRange, if its cell keeps its contract. -/
namespace Go.Proofs.YtnblbakjfpfipaaGreatDoor
open Go.RowKit

def rangeE (nm : List UInt8) (x y : Rf) (k1 k2 t1 t2 : Bool) : Rf × Rf × Int :=
  if k1 && k2 then (if t1 && t2 then (⟨bs nm, x.c, x.r, x.ac, x.ar⟩, ⟨bs nm, y.c, y.r, y.ac, y.ar⟩, 0) else (Rf.zero, Rf.zero, 41)) else (Rf.zero, Rf.zero, 40)
def rangeF (nm rs : List UInt8) (f : Bool) : Rf × Rf × Int :=
  if f && (cutB rs 58).2.2 then rangeE nm (cellR (cutB rs 58).1) (cellR (cutB rs 58).2.1) (placeP (cutB rs 58).1).ok (placeP (cutB rs 58).2.1).ok (cellT (cutB rs 58).1) (cellT (cutB rs 58).2.1) else (Rf.zero, Rf.zero, 40)
def threeV (p : Rf × Rf × Int) : Value := .tuple #[p.1.v, p.2.1.v, .int .i64 p.2.2]
/-- The four rows behind both cells. -/
def Four (w : World) (B2 B3 : Nat) (nm : ByteArray) (xc xr yc yr : Int) (xa xb ya yb : Bool) (W : World) : Prop := Row W w.heap.size 23 #[.string .empty, .int .i64 0, .int .i64 0, .bool false, .bool false] ∧ Row W (w.heap.size + 1) 23 #[.string .empty, .int .i64 0, .int .i64 0, .bool false, .bool false] ∧ Row W B2 23 #[.string nm, .int .i64 xc, .int .i64 xr, .bool xa, .bool xb] ∧ Row W B3 23 #[.string nm, .int .i64 yc, .int .i64 yr, .bool ya, .bool yb] ∧ Below w.heap.size w W
theorem four_of {w w3 : World} {B2 : Nat} {nm xs : ByteArray} {xc xr yc yr : Int} {xa xb ya yb : Bool} (hZ : Row w3 w.heap.size 23 #[.string .empty, .int .i64 0, .int .i64 0, .bool false, .bool false]) (hY : Row w3 (w.heap.size + 1) 23 #[.string .empty, .int .i64 0, .int .i64 0, .bool false, .bool false]) (hX : Row w3 B2 23 #[.string xs, .int .i64 xc, .int .i64 xr, .bool xa, .bool xb]) (hB : Below w.heap.size w w3) (h1 : w.heap.size + 1 < B2) :
    Four w B2 w3.heap.size nm xc xr yc yr xa xb ya yb ((w3.setCell ⟨B2, 0, none⟩ (.string nm)).alloc (.cells #[.string nm, .int .i64 yc, .int .i64 yr, .bool ya, .bool yb] 23)).drew := by
  refine ⟨((Row.off hZ 0 (.string nm) (by omega)).alloc _).drewR, ((Row.off hY 0 (.string nm) (by omega)).alloc _).drewR, ((hX.set 0 (.string nm)).alloc _).drewR, ?_, (below_allocS (below_set hB 0 (.string nm) (by omega)) _).drew⟩
  have := (Row.new (w3.setCell ⟨B2, 0, none⟩ (.string nm)) 23 #[.string nm, .int .i64 yc, .int .i64 yr, .bool ya, .bool yb]).drewR
  simpa using this
set_option maxRecDepth 100000 in
set_option maxHeartbeats 4000000 in
theorem rpq_a (hc : CellC) (l : List UInt8) (hl : l.length ≤ 140737488351232) (w : World) :
    Calls Tryz.prog 24 #[.string (bs l)] w fun e w' => (∃ nm rs, ((sheetC l).2.2 = true → nm = (sheetC l).1 ∧ rs = (sheetC l).2.1) ∧ e = .returned (threeV (rangeF nm rs (sheetC l).2.2))) ∧ Below w.heap.size w w' := by
  have HS : ∀ W, Hid (Calls Tryz.prog 43 #[.string (bs l)] W fun e w' => ShOk l e ∧ Below W.heap.size W w') := fun W => refSheet_any l hl W
  have HC : Hid CellC := hc
  clear hc
  go_enter Tryz.func24, Tryz.ntmps24
  go_wp2_with fail
  refine Calls.mono (HS _).out ?_
  rintro _ w1 ⟨⟨nm, rs, rfl, hsame, hlen⟩, b1⟩
  obtain ⟨hZ, hY, hB⟩ := two_rows w w1 _ _ _ _ b1
  clear b1 HS
  obtain ⟨f, ef⟩ : ∃ f, (sheetC l).2.2 = f := ⟨_, rfl⟩
  rw [ef]
  have HE : Hid (((sheetC l).2.2 = true → nm = (sheetC l).1 ∧ rs = (sheetC l).2.1) ∧ (sheetC l).2.2 = f) := ⟨hsame, ef⟩
  have HL : Hid (rs.length ≤ 140737488351232) := Nat.le_trans hlen hl
  have hsz : (bs rs).size ≤ 140737488351232 := by rw [bs_size]; exact HL.out
  have HSz : Hid ((bs rs).size = rs.length) := bs_size rs
  clear hsame ef hlen hl
  cases f
  · have hzl := hZ.lt
    have hyl := hY.lt
    obtain ⟨z0, z1, z2, z3, z4⟩ := hZ.five
    obtain ⟨y0, y1, y2, y3, y4⟩ := hY.five
    have fz := hZ.frozen
    have fy := hY.frozen
    go_wp2
    have hZ4 := (hZ.set5 (.string .empty) (.int .i64 0) (.int .i64 0) (.bool false) (.bool false)).off5 (B' := w.heap.size + 1) (by omega) (.string .empty) (.int .i64 0) (.int .i64 0) (.bool false) (.bool false)
    have hY4 := (hY.off5 (B' := w.heap.size) (by omega) (.string .empty) (.int .i64 0) (.int .i64 0) (.bool false) (.bool false)).set5 (.string .empty) (.int .i64 0) (.int .i64 0) (.bool false) (.bool false)
    have hB4 := below_set5 (below_set5 hB (B' := w.heap.size) (Nat.le_refl _) (.string .empty) (.int .i64 0) (.int .i64 0) (.bool false) (.bool false)) (B' := w.heap.size + 1) (by omega) (.string .empty) (.int .i64 0) (.int .i64 0) (.bool false) (.bool false)
    refine bodyPost_ret (ret_three (u := 4) rfl (g := w.heap.size) (g2 := w.heap.size + 1) rfl rfl rfl (load23 hZ4 rfl) (load23 hY4 rfl)) rfl ⟨⟨nm, rs, HE.out.1, ?_⟩, hB4⟩
    rw [HE.out.2]; rfl
  · have HZ : Hid (Row w1 w.heap.size 23 #[.string .empty, .int .i64 0, .int .i64 0, .bool false, .bool false]) := hZ
    have HY : Hid (Row w1 (w.heap.size + 1) 23 #[.string .empty, .int .i64 0, .int .i64 0, .bool false, .bool false]) := hY
    have HB : Hid (Below w.heap.size w w1) := hB
    clear hZ hY hB
    go_wp2
    go_loopw [8] (fun v8 wr => ∃ k : Nat, k ≤ (bs rs).size ∧ v8 = .int .i64 (k : Int) ∧ Hid (∀ b ∈ rs.take k, b ≠ 58) ∧ Hid (Row wr w.heap.size 23 #[.string .empty, .int .i64 0, .int .i64 0, .bool false, .bool false]) ∧ Hid (Row wr (w.heap.size + 1) 23 #[.string .empty, .int .i64 0, .int .i64 0, .bool false, .bool false]) ∧ Hid (Below w.heap.size w wr)) (fun v8 _ => (bs rs).size - (intOf v8).toNat)
    case atStart => exact ⟨0, by omega, rfl, (fun b hb => by simp at hb), HZ, HY, HB⟩
    case round =>
      clear HZ HY HB
      obtain ⟨k, hk, rfl, HT, HZ, HY, HB⟩ := hrel
      by_cases hlt : k < (bs rs).size
      · have HK1 : Hid (k + 1 ≤ (bs rs).size) := hlt
        have hlt := hlt
        by_cases c1 : (bs rs)[k].toNat = 58
        · have d1 : (((bs rs)[k].toNat : Int) == 58) = true := by rw [c1]; rfl
          have hcut : cutB rs 58 = (rs.take k, rs.drop (k + 1), true) := by
            have e58 : (bs rs)[k] = 58 := UInt8.toNat_inj.1 c1
            have hs : rs = rs.take k ++ 58 :: rs.drop (k + 1) := by
              conv => lhs; rw [← List.take_append_drop k rs, drop_step rs k hlt, e58]
            conv => lhs; rw [hs]
            exact cut_first _ _ 58 HT.out
          have HU : Hid ((bs rs).extract 0 k = bs (rs.take k)) := bs_take rs k
          have HV : Hid ((bs rs).extract (k + 1) (bs rs).size = bs (rs.drop (k + 1))) := bs_drop rs (k + 1)
          have HA : ∀ W, Hid (Calls Tryz.prog 44 #[.string ((bs rs).extract 0 k)] W fun e w' => e = .returned (.tuple #[(cellR (rs.take k)).v, .bool (placeP (rs.take k)).ok, .bool (cellT (rs.take k))]) ∧ Below W.heap.size W w') := fun W => by rw [HU.out]; exact HC.out (rs.take k) (by have := HL.out; simp; omega) W
          have HD : ∀ W, Hid (Calls Tryz.prog 44 #[.string ((bs rs).extract (k + 1) (bs rs).size)] W fun e w' => e = .returned (.tuple #[(cellR (rs.drop (k + 1))).v, .bool (placeP (rs.drop (k + 1))).ok, .bool (cellT (rs.drop (k + 1)))]) ∧ Below W.heap.size W w') := fun W => by rw [HV.out]; exact HC.out (rs.drop (k + 1)) (by have := HL.out; simp; omega) W
          have hf : rangeF nm rs (sheetC l).2.2 = rangeE nm (cellR (rs.take k)) (cellR (rs.drop (k + 1))) (placeP (rs.take k)).ok (placeP (rs.drop (k + 1))).ok (cellT (rs.take k)) (cellT (rs.drop (k + 1))) := by
            unfold rangeF; rw [HE.out.2, hcut]; rfl
          generalize cellR (rs.take k) = x, (placeP (rs.take k)).ok = k1, cellT (rs.take k) = t1 at HA hf
          generalize cellR (rs.drop (k + 1)) = y, (placeP (rs.drop (k + 1))).ok = k2, cellT (rs.drop (k + 1)) = t2 at HD hf
          obtain ⟨xs, xc, xr, xa, xb⟩ := x
          obtain ⟨ys, yc, yr, ya, yb⟩ := y
          unfold Rf.v at HA HD
          simp only at HA HD
          have HF : Hid _ := hf
          have HW : Hid (IntKind.i64.wrap ((k : Int) + 1) = (k : Int) + 1) := by show IntKind.i64.wrap _ = _; simp [IntKind.wrap, IntKind.bits, IntKind.signed]; omega
          have hw1 := HW.out
          clear hf hcut c1 HT HU HV HC HL
          go_wp2_with fail
          refine Calls.mono (HA _).out ?_
          rintro _ w2 ⟨rfl, b2⟩
          have b2' : Below wr.heap.size wr w2 := b2
          have hZ2 := (HZ.out.below b2' HZ.out.lt).alloc (.cells #[.string xs, .int .i64 xc, .int .i64 xr, .bool xa, .bool xb] 23)
          have hY2 := (HY.out.below b2' HY.out.lt).alloc (.cells #[.string xs, .int .i64 xc, .int .i64 xr, .bool xa, .bool xb] 23)
          have hX2 := Row.new w2 23 #[.string xs, .int .i64 xc, .int .i64 xr, .bool xa, .bool xb]
          have hB2 := below_allocS (HB.out.trans (b2'.mono HB.out.size)) (.cells #[.string xs, .int .i64 xc, .int .i64 xr, .bool xa, .bool xb] 23)
          have hx1 : w.heap.size + 1 < w2.heap.size := Nat.lt_of_lt_of_le HY.out.lt b2'.size
          clear b2 b2' HA HZ HY HB
          go_wp2_with fail
          refine Calls.mono (HD _).out ?_
          rintro _ w3 ⟨rfl, b3⟩
          have hy1 : w2.heap.size < w3.heap.size := by
            have := b3.size
            simp at this
            omega
          have hZ3 := (hZ2.below b3 hZ2.lt).alloc (.cells #[.string ys, .int .i64 yc, .int .i64 yr, .bool ya, .bool yb] 23)
          have hY3 := (hY2.below b3 hY2.lt).alloc (.cells #[.string ys, .int .i64 yc, .int .i64 yr, .bool ya, .bool yb] 23)
          have hX3 := (hX2.below b3 hX2.lt).alloc (.cells #[.string ys, .int .i64 yc, .int .i64 yr, .bool ya, .bool yb] 23)
          have hW3 := Row.new w3 23 #[.string ys, .int .i64 yc, .int .i64 yr, .bool ya, .bool yb]
          have hB3 := below_allocS (hB2.trans (b3.mono hB2.size)) (.cells #[.string ys, .int .i64 yc, .int .i64 yr, .bool ya, .bool yb] 23)
          have HW4 : Hid (Four w w2.heap.size w3.heap.size (bs nm) xc xr yc yr xa xb ya yb ((w3.setCell ⟨w2.heap.size, 0, none⟩ (.string (bs nm))).alloc (.cells #[.string (bs nm), .int .i64 yc, .int .i64 yr, .bool ya, .bool yb] 23)).drew) := four_of (hZ2.below b3 hZ2.lt) (hY2.below b3 hY2.lt) (hX2.below b3 hX2.lt) (hB2.trans (b3.mono hB2.size)) hx1
          clear b3 HD hZ2 hY2 hX2 hB2
          have hzl := hZ3.lt
          have hyl := hY3.lt
          have hxl := hX3.lt
          obtain ⟨z0, z1, z2, z3, z4⟩ := hZ3.five
          obtain ⟨y0, y1, y2, y3, y4⟩ := hY3.five
          obtain ⟨x0, x1, x2, x3, x4⟩ := hX3.five
          have fz := hZ3.frozen
          have fy := hY3.frozen
          have fx := hX3.frozen
          cases k1
          · go_wp2
            have hZ4 := (hZ3.set5 (.string .empty) (.int .i64 0) (.int .i64 0) (.bool false) (.bool false)).off5 (B' := w.heap.size + 1) (by omega) (.string .empty) (.int .i64 0) (.int .i64 0) (.bool false) (.bool false)
            have hY4 := (hY3.off5 (B' := w.heap.size) (by omega) (.string .empty) (.int .i64 0) (.int .i64 0) (.bool false) (.bool false)).set5 (.string .empty) (.int .i64 0) (.int .i64 0) (.bool false) (.bool false)
            have hB4 := below_set5 (below_set5 hB3 (B' := w.heap.size) (Nat.le_refl _) (.string .empty) (.int .i64 0) (.int .i64 0) (.bool false) (.bool false)) (B' := w.heap.size + 1) (by omega) (.string .empty) (.int .i64 0) (.int .i64 0) (.bool false) (.bool false)
            refine bodyPost_ret (ret_three (u := 4) rfl (g := w.heap.size) (g2 := w.heap.size + 1) rfl rfl rfl (load23 hZ4 rfl) (load23 hY4 rfl)) rfl ⟨⟨nm, rs, HE.out.1, ?_⟩, hB4⟩
            rw [HF.out]; rfl
          · cases k2
            · go_wp2
              have hZ4 := (hZ3.set5 (.string .empty) (.int .i64 0) (.int .i64 0) (.bool false) (.bool false)).off5 (B' := w.heap.size + 1) (by omega) (.string .empty) (.int .i64 0) (.int .i64 0) (.bool false) (.bool false)
              have hY4 := (hY3.off5 (B' := w.heap.size) (by omega) (.string .empty) (.int .i64 0) (.int .i64 0) (.bool false) (.bool false)).set5 (.string .empty) (.int .i64 0) (.int .i64 0) (.bool false) (.bool false)
              have hB4 := below_set5 (below_set5 hB3 (B' := w.heap.size) (Nat.le_refl _) (.string .empty) (.int .i64 0) (.int .i64 0) (.bool false) (.bool false)) (B' := w.heap.size + 1) (by omega) (.string .empty) (.int .i64 0) (.int .i64 0) (.bool false) (.bool false)
              refine bodyPost_ret (ret_three (u := 4) rfl (g := w.heap.size) (g2 := w.heap.size + 1) rfl rfl rfl (load23 hZ4 rfl) (load23 hY4 rfl)) rfl ⟨⟨nm, rs, HE.out.1, ?_⟩, hB4⟩
              rw [HF.out]; rfl
            · cases t1
              · go_wp2
                have hZ4 := (hZ3.set5 (.string .empty) (.int .i64 0) (.int .i64 0) (.bool false) (.bool false)).off5 (B' := w.heap.size + 1) (by omega) (.string .empty) (.int .i64 0) (.int .i64 0) (.bool false) (.bool false)
                have hY4 := (hY3.off5 (B' := w.heap.size) (by omega) (.string .empty) (.int .i64 0) (.int .i64 0) (.bool false) (.bool false)).set5 (.string .empty) (.int .i64 0) (.int .i64 0) (.bool false) (.bool false)
                have hB4 := below_set5 (below_set5 hB3 (B' := w.heap.size) (Nat.le_refl _) (.string .empty) (.int .i64 0) (.int .i64 0) (.bool false) (.bool false)) (B' := w.heap.size + 1) (by omega) (.string .empty) (.int .i64 0) (.int .i64 0) (.bool false) (.bool false)
                refine bodyPost_ret (ret_three (u := 4) rfl (g := w.heap.size) (g2 := w.heap.size + 1) rfl rfl rfl (load23 hZ4 rfl) (load23 hY4 rfl)) rfl ⟨⟨nm, rs, HE.out.1, ?_⟩, hB4⟩
                rw [HF.out]; rfl
              · cases t2
                · go_wp2
                  have hZ4 := (hZ3.set5 (.string .empty) (.int .i64 0) (.int .i64 0) (.bool false) (.bool false)).off5 (B' := w.heap.size + 1) (by omega) (.string .empty) (.int .i64 0) (.int .i64 0) (.bool false) (.bool false)
                  have hY4 := (hY3.off5 (B' := w.heap.size) (by omega) (.string .empty) (.int .i64 0) (.int .i64 0) (.bool false) (.bool false)).set5 (.string .empty) (.int .i64 0) (.int .i64 0) (.bool false) (.bool false)
                  have hB4 := below_set5 (below_set5 hB3 (B' := w.heap.size) (Nat.le_refl _) (.string .empty) (.int .i64 0) (.int .i64 0) (.bool false) (.bool false)) (B' := w.heap.size + 1) (by omega) (.string .empty) (.int .i64 0) (.int .i64 0) (.bool false) (.bool false)
                  refine bodyPost_ret (ret_three (u := 4) rfl (g := w.heap.size) (g2 := w.heap.size + 1) rfl rfl rfl (load23 hZ4 rfl) (load23 hY4 rfl)) rfl ⟨⟨nm, rs, HE.out.1, ?_⟩, hB4⟩
                  rw [HF.out]; rfl
                · go_wp2
                  refine wp_region_M (fun W => Row W w2.heap.size 23 #[.string (bs nm), .int .i64 xc, .int .i64 xr, .bool xa, .bool xb] ∧ Row W w3.heap.size 23 #[.string (bs nm), .int .i64 yc, .int .i64 yr, .bool ya, .bool yb]) (fun _ => true) 5 rfl (by kernel_rfl) ?_
                  generalize ((w3.setCell ⟨w2.heap.size, 0, none⟩ (.string (bs nm))).alloc (.cells #[.string (bs nm), .int .i64 yc, .int .i64 yr, .bool ya, .bool yb] 23)).drew = W at HW4 ⊢
                  obtain ⟨hZ5, hY5, hX5, hW5, hB5⟩ := HW4.out
                  clear HW4 hZ3 hY3 hX3 hW3 hB3 z0 z1 z2 z3 z4 y0 y1 y2 y3 y4 x0 x1 x2 x3 x4 fz fy fx hzl hyl hxl
                  refine wpM_held 0 (v := .agg #[.string (bs nm), .int .i64 xc, .int .i64 xr, .bool xa, .bool xb]) rfl (by kernel_rfl) (by kernel_rfl) rfl (fun _ _ _ h => h) rfl (by intro wx hx; obtain ⟨g0, g1, g2, g3, g4⟩ := hx.1.five; go_simp <;> rfl) ⟨hX5, hW5⟩ ?_
                  refine wpM_held 1 (v := .agg #[.string (bs nm), .int .i64 yc, .int .i64 yr, .bool ya, .bool yb]) rfl (by kernel_rfl) (by kernel_rfl) rfl (fun _ _ _ h => h) rfl (by intro wx hx; obtain ⟨g0, g1, g2, g3, g4⟩ := hx.2.five; go_simp <;> rfl) ⟨hX5, hW5⟩ ?_
                  have hzl := hZ5.lt
                  obtain ⟨z0, z1, z2, z3, z4⟩ := hZ5.five
                  have fz := hZ5.frozen
                  refine wpM_one 2 rfl (by kernel_rfl) rfl ?_
                  go_wp2_with fail
                  have hZ6 := hZ5.set5 (.string (bs nm)) (.int .i64 xc) (.int .i64 xr) (.bool xa) (.bool xb)
                  have hY6 := hY5.off5 (B' := w.heap.size) (by omega) (.string (bs nm)) (.int .i64 xc) (.int .i64 xr) (.bool xa) (.bool xb)
                  have hX6 := hX5.off5 (B' := w.heap.size) (by omega) (.string (bs nm)) (.int .i64 xc) (.int .i64 xr) (.bool xa) (.bool xb)
                  have hW6 := hW5.off5 (B' := w.heap.size) (by omega) (.string (bs nm)) (.int .i64 xc) (.int .i64 xr) (.bool xa) (.bool xb)
                  have hB6 := below_set5 hB5 (B' := w.heap.size) (Nat.le_refl _) (.string (bs nm)) (.int .i64 xc) (.int .i64 xr) (.bool xa) (.bool xb)
                  refine ⟨fun _ => ⟨hX6, hW6⟩, ?_⟩
                  generalize (((((W.setCell ⟨w.heap.size, 0, none⟩ (.string (bs nm))).setCell ⟨w.heap.size, 1, none⟩ (.int .i64 xc)).setCell ⟨w.heap.size, 2, none⟩ (.int .i64 xr)).setCell ⟨w.heap.size, 3, none⟩ (.bool xa)).setCell ⟨w.heap.size, 4, none⟩ (.bool xb)) = V at hZ6 hY6 hX6 hW6 hB6 ⊢
                  clear hZ5 hY5 hX5 hW5 hB5 z0 z1 z2 z3 z4 fz hzl
                  have hyl := hY6.lt
                  obtain ⟨y0, y1, y2, y3, y4⟩ := hY6.five
                  have fy := hY6.frozen
                  refine wpM_one 3 rfl (by kernel_rfl) rfl ?_
                  go_wp2_with fail
                  have hZ7 := hZ6.off5 (B' := w.heap.size + 1) (by omega) (.string (bs nm)) (.int .i64 yc) (.int .i64 yr) (.bool ya) (.bool yb)
                  have hY7 := hY6.set5 (.string (bs nm)) (.int .i64 yc) (.int .i64 yr) (.bool ya) (.bool yb)
                  have hX7 := hX6.off5 (B' := w.heap.size + 1) (by omega) (.string (bs nm)) (.int .i64 yc) (.int .i64 yr) (.bool ya) (.bool yb)
                  have hW7 := hW6.off5 (B' := w.heap.size + 1) (by omega) (.string (bs nm)) (.int .i64 yc) (.int .i64 yr) (.bool ya) (.bool yb)
                  have hB7 := below_set5 hB6 (B' := w.heap.size + 1) (by omega) (.string (bs nm)) (.int .i64 yc) (.int .i64 yr) (.bool ya) (.bool yb)
                  refine ⟨fun _ => ⟨hX7, hW7⟩, ?_⟩
                  refine wpM_one 4 rfl (by kernel_rfl) rfl ?_
                  go_wp2_with fail
                  refine ⟨(fun _ => ⟨hX7, hW7⟩), ?_⟩
                  refine wpM_done (by kernel_rfl) ?_
                  go_wp2
                  refine bodyPost_ret (ret_three (u := 4) rfl (g := w.heap.size) (g2 := w.heap.size + 1) rfl rfl rfl (load23 hZ7 rfl) (load23 hY7 rfl)) rfl ⟨⟨nm, rs, HE.out.1, ?_⟩, hB7⟩
                  rw [HF.out]; rfl
        · have d1 : (((bs rs)[k].toNat : Int) == 58) = false := beq_eq_false_iff_ne.2 (by omega)
          have HT1 : Hid (∀ b ∈ rs.take (k + 1), b ≠ 58) := by
            intro b hb
            have hl1 : k < rs.length := by have := HSz.out; omega
            rw [List.take_succ_eq_append_getElem hl1] at hb
            rcases List.mem_append.1 hb with hb | hb
            · exact HT.out b hb
            · simp at hb
              intro e
              apply c1
              rw [e] at hb
              show rs[k].toNat = 58
              rw [← hb]; rfl
          clear HT c1
          go_wp2
          go_roundw
          case rel => exact ⟨k + 1, HK1.out, by go_num, HT1, HZ, HY, HB⟩
          case measure => have := HK1.out; simp [intOf]; omega
      · obtain rfl : k = (bs rs).size := by omega
        have hcut : cutB rs 58 = (rs, [], false) := cut_none rs 58 (fun b hb => HT.out b (by rw [HSz.out, List.take_length]; exact hb))
        have HF : Hid (rangeF nm rs (sheetC l).2.2 = (Rf.zero, Rf.zero, 40)) := by
          show _ = _
          unfold rangeF; rw [hcut, HE.out.2]; rfl
        clear hcut
        have hZ := HZ.out
        have hY := HY.out
        have hzl := hZ.lt
        have hyl := hY.lt
        obtain ⟨z0, z1, z2, z3, z4⟩ := hZ.five
        obtain ⟨y0, y1, y2, y3, y4⟩ := hY.five
        have fz := hZ.frozen
        have fy := hY.frozen
        go_wp2
        have hZ4 := (HZ.out.set5 (.string .empty) (.int .i64 0) (.int .i64 0) (.bool false) (.bool false)).off5 (B' := w.heap.size + 1) (by omega) (.string .empty) (.int .i64 0) (.int .i64 0) (.bool false) (.bool false)
        have hY4 := (HY.out.off5 (B' := w.heap.size) (by omega) (.string .empty) (.int .i64 0) (.int .i64 0) (.bool false) (.bool false)).set5 (.string .empty) (.int .i64 0) (.int .i64 0) (.bool false) (.bool false)
        have hB4 := below_set5 (below_set5 HB.out (B' := w.heap.size) (Nat.le_refl _) (.string .empty) (.int .i64 0) (.int .i64 0) (.bool false) (.bool false)) (B' := w.heap.size + 1) (by omega) (.string .empty) (.int .i64 0) (.int .i64 0) (.bool false) (.bool false)
        refine bodyPost_ret (ret_three (u := 4) rfl (g := w.heap.size) (g2 := w.heap.size + 1) rfl rfl rfl (load23 hZ4 rfl) (load23 hY4 rfl)) rfl ⟨⟨nm, rs, HE.out.1, ?_⟩, hB4⟩
        rw [HF.out]; rfl
/-- The document's ParseRange. -/
theorem refRange_any (hc : CellC) (l : List UInt8) (hl : l.length ≤ 140737488351232) (w : World) :
    Calls Tryz.prog 24 #[.string (bs l)] w fun e w' => e = .returned (threeV (parseRangeR l)) ∧ Below w.heap.size w w' := by
  refine Calls.mono (rpq_a hc l hl w) ?_
  rintro e w' ⟨⟨nm, rs, h1, rfl⟩, hb⟩
  refine ⟨?_, hb⟩
  have hne : (placeP []).ok = false := by decide
  rw [range_same]
  refine congrArg (fun p => Ending.returned (threeV p)) ?_
  unfold rangeD rangeF
  cases hf : (sheetC l).2.2
  · rfl
  · obtain ⟨rfl, rfl⟩ := h1 hf
    generalize (sheetC l).2.1 = r
    cases hq : (cutB r 58).2.2
    · have : (cutB r 58).2.1 = [] := by
        unfold cutB at hq ⊢
        split at hq
        · cases hq
        · rename_i h; rw [if_neg h]
      rw [this, hne]
      simp
    · simp only [Bool.true_and, if_true]
      unfold rangeE
      cases hk : (placeP (cutB r 58).1).ok
      · rfl
      · cases hk2 : (placeP (cutB r 58).2.1).ok
        · rfl
        · rw [found_sheet (bs (sheetC l).1) (placeP (cutB r 58).1), found_sheet (bs (sheetC l).1) (placeP (cutB r 58).2.1)]
          unfold cellT cellR
          rw [hk, hk2]
          unfold foundR
          cases (colOf (placeP (cutB r 58).1).letters).isSome && rowB (rowN (placeP (cutB r 58).1).digits) <;> cases (colOf (placeP (cutB r 58).2.1).letters).isSome && rowB (rowN (placeP (cutB r 58).2.1).digits) <;> rfl
end Go.Proofs.YtnblbakjfpfipaaGreatDoor
