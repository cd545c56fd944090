/- next: a stored file is read. -/
import Derived.Test.YtibnafngkcpafaaGreatDoorZop
import Derived.Test.YtibnafngkcpafaaGreatDoorZrf
import Derived.Deep.QuietTactic
import Derived.BigQuiet
namespace Go.Proofs.YtibnafngkcpafaaGreatDoor
open Go.RowKit

set_option maxRecDepth 100000 in
set_option maxHeartbeats 1000000 in
theorem stored_any' (S : Nat → Prop) (s : ByteArray) (crc : Nat) (a : Option Addr) (cap : Nat) (ds : List Int) (w : World) (hS : ∀ k, S k → k < w.heap.size) (hl : ds.length ≤ 1048576) (hI : BytesIn S w (.slice a ds.length cap) ds) :
    Calls Tryz.prog 73 #[.agg #[.string s, .int .i64 0, .int .i64 (crc : Int), .int .i64 (ds.length : Int), .int .i64 (ds.length : Int), .int .i64 0], .slice a ds.length cap] w fun e w' => ∃ g c, e = .returned (.tuple #[.slice g ds.length c, .int .i64 0]) ∧ w'.ownsRow w.heap.size 5 1 (.slice g ds.length c) ds.length (ds.map (Value.int .u8)) ∧ Below w.heap.size w w' := by
  have hb0 : Below w.heap.size w (w.alloc (.cells #[.string s, .int .i64 0, .int .i64 (crc : Int), .int .i64 (ds.length : Int), .int .i64 (ds.length : Int), .int .i64 0] 48)) := (Below.refl _ w).alloc (Nat.le_refl _) _
  have H := clone_any S a cap ds (w.alloc (.cells #[.string s, .int .i64 0, .int .i64 (crc : Int), .int .i64 (ds.length : Int), .int .i64 (ds.length : Int), .int .i64 0] 48)) (by omega) (hI.kept (Kept.of_below hb0 hS))
  have HC : Hid (Calls Tryz.prog 42 #[.slice a ds.length cap] (w.alloc (.cells #[.string s, .int .i64 0, .int .i64 (crc : Int), .int .i64 (ds.length : Int), .int .i64 (ds.length : Int), .int .i64 0] 48)) _) := H
  clear H
  go_enter Tryz.func73, Tryz.ntmps73
  go_wp2_with fail
  refine Calls.mono HC.out ?_
  clear HC
  rintro e w1 ⟨g, c, rfl, ho, hb1⟩
  have hs : w.heap.size ≤ (w.alloc (.cells #[.string s, .int .i64 0, .int .i64 (crc : Int), .int .i64 (ds.length : Int), .int .i64 (ds.length : Int), .int .i64 0] 48)).heap.size := by simp
  go_wp2
  go_ret2
  exact ⟨g, c, rfl, owns_mono ho hs, hb0.trans (hb1.mono hs)⟩

set_option maxRecDepth 100000 in
set_option maxHeartbeats 1000000 in
theorem unpack0_any (S : Nat → Prop) (s : ByteArray) (crc : Nat) (a : Option Addr) (cap : Nat) (ds : List Int) (w : World) (hS : ∀ k, S k → k < w.heap.size) (hl : ds.length ≤ 1048576) (hI : BytesIn S w (.slice a ds.length cap) ds) :
    Calls Tryz.prog 60 #[.agg #[.string s, .int .i64 0, .int .i64 (crc : Int), .int .i64 (ds.length : Int), .int .i64 (ds.length : Int), .int .i64 0], .slice a ds.length cap] w fun e w' => ∃ g c, e = .returned (.tuple #[.slice g ds.length c, .int .i64 0]) ∧ w'.ownsRow w.heap.size 5 1 (.slice g ds.length c) ds.length (ds.map (Value.int .u8)) ∧ Below w.heap.size w w' := by
  have hb0 : Below w.heap.size w (w.alloc (.cells #[.string s, .int .i64 0, .int .i64 (crc : Int), .int .i64 (ds.length : Int), .int .i64 (ds.length : Int), .int .i64 0] 48)) := (Below.refl _ w).alloc (Nat.le_refl _) _
  have hX := Row.new w 48 #[.string s, .int .i64 0, .int .i64 (crc : Int), .int .i64 (ds.length : Int), .int .i64 (ds.length : Int), .int .i64 0]
  have HC : Hid (Calls Tryz.prog 73 #[.agg #[.string s, .int .i64 0, .int .i64 (crc : Int), .int .i64 (ds.length : Int), .int .i64 (ds.length : Int), .int .i64 0], .slice a ds.length cap] (w.alloc (.cells #[.string s, .int .i64 0, .int .i64 (crc : Int), .int .i64 (ds.length : Int), .int .i64 (ds.length : Int), .int .i64 0] 48)) _) := stored_any' S s crc a cap ds _ (fun k h => by have := hS k h; simp; omega) hl (hI.kept (Kept.of_below hb0 hS))
  have hs : w.heap.size ≤ (w.alloc (.cells #[.string s, .int .i64 0, .int .i64 (crc : Int), .int .i64 (ds.length : Int), .int .i64 (ds.length : Int), .int .i64 0] 48)).heap.size := by simp
  go_enter Tryz.func60, Tryz.ntmps60
  go_wp2_with fail
  refine Calls.mono HC.out ?_
  clear HC
  rintro e w1 ⟨g, c, rfl, ho, hb1⟩
  go_wp2
  go_ret2
  exact ⟨g, c, rfl, owns_mono ho hs, hb0.trans (hb1.mono hs)⟩

set_option maxRecDepth 100000 in
set_option maxHeartbeats 2000000 in
theorem next_any (S : Nat → Prop) (A b off cap left : Nat) (zs : List Int) (ents : Value) (frm : Nat) (s : ByteArray) (crc L : Nat) (w : World) (hS : ∀ k, S k → k < w.heap.size) (hz : AreBytes zs) (hl : zs.length ≤ 1048576) (hcap : zs.length ≤ cap) (hI : BytesIn S w (.slice (some ⟨b, off, none⟩) zs.length cap) zs) (hA : Row w A 55 #[(.slice (some ⟨b, off, none⟩) zs.length cap), ents, .int .i64 (frm : Int), .int .i64 0, .int .i64 (left : Int)]) (hcr : crc < 4294967296) (hsm : s.size ≤ 65535)
    (hL1 : L ≤ left) (hl9 : left < 262144) (hto : 30 + s.size + L ≤ frm) (hfl : frm ≤ zs.length) (hL0 : 0 < L) (hpre : Lib.hasPrefix (Lib.bytesOf zs) (Lib.bytesOf (localB s 0 crc L L)) = true) :
    Calls Tryz.prog 47 #[.pointer (some ⟨A, 0, none⟩), .agg #[.string s, .int .i64 0, .int .i64 (crc : Int), .int .i64 (L : Int), .int .i64 (L : Int), .int .i64 0]] w fun e w' =>
      (crcN ((zs.drop (30 + s.size)).take L) = crc ∧ ∃ g c, e = .returned (.tuple #[.slice g L c, .int .i64 0]) ∧ w'.ownsRow w.heap.size 5 1 (.slice g L c) L (((zs.drop (30 + s.size)).take L).map (Value.int .u8)) ∧ Row w' A 55 #[(.slice (some ⟨b, off, none⟩) zs.length cap), ents, .int .i64 (frm : Int), .int .i64 ((30 + s.size + L : Nat) : Int), .int .i64 ((left - L : Nat) : Int)] ∧ Kept (fun k => k < w.heap.size ∧ k ≠ A) w w') ∨
      (crcN ((zs.drop (30 + s.size)).take L) ≠ crc ∧ e = .returned (.tuple #[.slice none 0 0, .int .i64 13]) ∧ Below w.heap.size w w') := by
  have hAl := hA.lt
  have hX0 := Row.new w 48 #[.string s, .int .i64 0, .int .i64 (crc : Int), .int .i64 (L : Int), .int .i64 (L : Int), .int .i64 0]
  have hb0 : Below w.heap.size w (w.alloc (.cells #[.string s, .int .i64 0, .int .i64 (crc : Int), .int .i64 (L : Int), .int .i64 (L : Int), .int .i64 0] 48)) := (Below.refl _ w).alloc (Nat.le_refl _) _
  have hs0 : (w.alloc (.cells #[.string s, .int .i64 0, .int .i64 (crc : Int), .int .i64 (L : Int), .int .i64 (L : Int), .int .i64 0] 48)).heap.size = w.heap.size + 1 := by simp
  go_enter Tryz.func47, Tryz.ntmps47
  go_wp2_with fail
  generalize w.alloc (.cells #[.string s, .int .i64 0, .int .i64 (crc : Int), .int .i64 (L : Int), .int .i64 (L : Int), .int .i64 0] 48) = w0 at hX0 hb0 hs0 ⊢
  have HLO : Hid (Calls Tryz.prog 19 #[.agg #[.string s, .int .i64 0, .int .i64 (crc : Int), .int .i64 (L : Int), .int .i64 (L : Int), .int .i64 0]] w0 (Fresh w0 (localB s 0 crc L L))) := local_any s 0 crc L L 0 w0 (by omega) hcr (by omega) (by omega) (by omega)
  refine Calls.mono HLO.out ?_
  clear HLO
  rintro e w1 hfr
  obtain ⟨gl, cl, rfl, hnil, hbi, hbl⟩ := hfr.bytes
  clear hfr
  have HS0 : Hid (w0.heap.size = w.heap.size + 1) := hs0
  have hb1 : Below w.heap.size w w1 := hb0.trans (hbl.mono hb0.size)
  have hX1 := hX0.below hbl hX0.lt
  have hA1 := hA.below hb1 hAl
  have hI1 := hI.kept (Kept.of_below hb1 hS)
  clear hs0
  have hhp := fun (n : Nat) => Tryz.bytes_HasPrefix_all (some ⟨b, off, none⟩) gl zs.length cap (localB s 0 crc L L).length cl zs (localB s 0 crc L L) (w1.drewN n) rfl rfl hcap (libBytes (S := S) hI1) (libBytes hbi)
  rw [hpre] at hhp
  have HHP : Hid _ := hhp
  clear hhp
  have x0 := hX1.cell (i := 0) rfl
  have x1 := hX1.cell (i := 1) rfl
  have x2 := hX1.cell (i := 2) rfl
  have x3 := hX1.cell (i := 3) rfl
  have x4 := hX1.cell (i := 4) rfl
  have x5 := hX1.cell (i := 5) rfl
  have a0 := hA1.cell (i := 0) rfl
  have a2 := hA1.cell (i := 2) rfl
  have a3 := hA1.cell (i := 3) rfl
  have a4 := hA1.cell (i := 4) rfl
  go_wp2
  go_quiet (first | (go_at_call 30; exact Calls.quiet_of_same (known0_any _)) | (go_at_call 59; exact Calls.quiet_of_same (HHP.out _)))
  clear HHP
  have t4 : ¬ ((left : Int) < (L : Int)) := by omega
  have t5 : (left : Int) < 262144 := by omega
  have hX2 : Row (w1.drewN nq) w.heap.size 48 #[.string s, .int .i64 0, .int .i64 (crc : Int), .int .i64 (L : Int), .int .i64 (L : Int), .int .i64 0] := hX1
  have hA2 : Row (w1.drewN nq) A 55 #[(.slice (some ⟨b, off, none⟩) zs.length cap), ents, .int .i64 (frm : Int), .int .i64 0, .int .i64 (left : Int)] := hA1
  have hI2 : BytesIn S (w1.drewN nq) (.slice (some ⟨b, off, none⟩) zs.length cap) zs := hI1
  have hb2 : Below w.heap.size w (w1.drewN nq) := hb1.trans ⟨rfl, rfl, rfl, Nat.le_refl _, fun _ _ => rfl⟩
  clear x0 x1 x2 x3 x4 x5 a0 a2 a3 a4
  go_wp2_with fail
  generalize w1.drewN nq = w2 at hX2 hA2 hI2 hb2 ⊢
  have x3 := hX2.cell (i := 3) rfl
  have x4 := hX2.cell (i := 4) rfl
  have a0 := hA2.cell (i := 0) rfl
  have a2 := hA2.cell (i := 2) rfl
  have a3 := hA2.cell (i := 3) rfl
  have a4 := hA2.cell (i := 4) rfl
  have HPRE : Hid (Lib.hasPrefix (Lib.bytesOf zs) (Lib.bytesOf (localB s 0 crc L L)) = true) := hpre
  clear hX1 hA1 hI1 hb1 hbi hbl hnil hpre
  have hmin : min (262144 : Int) (left : Int) = (left : Int) := by omega
  refine wp_region_M (fun wx : World => wx.cell? ⟨w.heap.size, 4, none⟩ = some (.int .i64 (L : Int)) ∧ wx.cell? ⟨A, 4, none⟩ = some (.int .i64 (left : Int))) (fun _ => true) 8 rfl (by kernel_rfl) ?_
  have HX4 : Hid ((fun wx : World => wx.cell? ⟨w.heap.size, 4, none⟩ = some (.int .i64 (L : Int)) ∧ wx.cell? ⟨A, 4, none⟩ = some (.int .i64 (left : Int))) w2.drew) := ⟨x4, a4⟩
  refine wpM_held 0 (v := ?_) rfl (by kernel_rfl) (by kernel_rfl) rfl (fun _ _ _ h => h) rfl (by rintro wx ⟨hx0, hx1⟩; go_simp <;> rfl) HX4.out ?_
  refine wpM_held 1 (v := ?_) rfl (by kernel_rfl) (by kernel_rfl) rfl (fun _ _ _ h => h) rfl (by rintro wx ⟨hx0, hx1⟩; go_simp <;> rfl) HX4.out ?_
  refine wpM_held 2 (v := ?_) rfl (by kernel_rfl) (by kernel_rfl) rfl (fun _ _ _ h => h) rfl (by rintro wx ⟨hx0, hx1⟩; go_simp <;> rfl) HX4.out ?_
  refine wpM_held 3 (v := ?_) rfl (by kernel_rfl) (by kernel_rfl) rfl (fun _ _ _ h => h) rfl (by rintro wx ⟨hx0, hx1⟩; go_simp <;> rfl) HX4.out ?_
  refine wpM_held 4 (v := ?_) rfl (by kernel_rfl) (by kernel_rfl) rfl (fun _ _ _ h => h) rfl (by rintro wx ⟨hx0, hx1⟩; go_simp <;> rfl) HX4.out ?_
  refine wpM_held 5 (v := ?_) rfl (by kernel_rfl) (by kernel_rfl) rfl (fun _ _ _ h => h) rfl (by rintro wx ⟨hx0, hx1⟩; go_simp <;> rfl) HX4.out ?_
  refine wpM_one 6 rfl (by kernel_rfl) rfl ?_
  go_wp2_with fail
  refine ⟨fun _ => HX4.out, ?_⟩
  refine wpM_one 7 rfl (by kernel_rfl) rfl ?_
  go_wp2_with fail
  refine ⟨fun _ => HX4.out, ?_⟩
  refine wpM_done (by kernel_rfl) ?_
  clear HX4 hmin t4 t5
  obtain ⟨Hn, hHn⟩ : ∃ Hn, (localB s 0 crc L L).length = Hn := ⟨_, rfl⟩
  have HHN : Hid (Hn = 30 + s.size) := by show _ = _; rw [← hHn, localB_length]
  rw [hHn]
  clear hHn
  have t7 : Hn ≤ 70000 := by have := HHN.out; omega
  have t6 : L ≤ 262144 := by omega
  have t8 : ¬ ((frm : Int) < (Hn : Int) + (L : Int)) := by have := HHN.out; omega
  have t9 : Hn + L ≤ frm := by have := HHN.out; omega
  have hb3 : frm ≤ 1048576 := by omega
  go_wp2_with fail
  have x0 := hX2.cell (i := 0) rfl
  have x1 := hX2.cell (i := 1) rfl
  have x2 := hX2.cell (i := 2) rfl
  have x5 := hX2.cell (i := 5) rfl
  have HX5 : Hid ((fun wx : World => wx.cell? ⟨w.heap.size, 0, none⟩ = some (.string s) ∧ wx.cell? ⟨w.heap.size, 1, none⟩ = some (.int .i64 0) ∧ wx.cell? ⟨w.heap.size, 2, none⟩ = some (.int .i64 (crc : Int)) ∧ wx.cell? ⟨w.heap.size, 3, none⟩ = some (.int .i64 (L : Int)) ∧ wx.cell? ⟨w.heap.size, 4, none⟩ = some (.int .i64 (L : Int)) ∧ wx.cell? ⟨w.heap.size, 5, none⟩ = some (.int .i64 0) ∧ wx.cell? ⟨A, 0, none⟩ = some (.slice (some ⟨b, off, none⟩) zs.length cap) ∧ wx.cell? ⟨A, 4, none⟩ = some (.int .i64 (left : Int))) w2.drew.drew) := ⟨x0, x1, x2, x3, x4, x5, a0, a4⟩
  have hcapL : Hn + L ≤ cap := by omega
  have HTO : Hid (((Hn : Int) + (L : Int)).toNat - Hn = L) := by show _ = _; omega
  obtain ⟨ds, hds⟩ : ∃ ds, (zs.drop Hn).take L = ds := ⟨_, rfl⟩
  have HDS : Hid ((zs.drop (30 + s.size)).take L = ds) := by show _ = _; rw [← HHN.out]; exact hds
  have hdl : ds.length = L := by rw [← hds]; simp; omega
  have hda : AreBytes ds := by
    intro j
    rw [← hds]
    by_cases hj : j < L
    · have := hz (Hn + j); simpa [hj] using this
    · rw [List.getElem?_eq_none (by simp; omega)]; simp
  have hbs := bytesIn_sub hI2 Hn L (cap - Hn) (by omega)
  rw [hds] at hbs
  have hS2 : ∀ k, S k → k < w2.heap.size := fun k h => by have := hS k h; have := hb2.size; omega
  have HU : Hid (Calls Tryz.prog 60 #[.agg #[.string s, .int .i64 0, .int .i64 (crc : Int), .int .i64 (L : Int), .int .i64 (L : Int), .int .i64 0], (.slice (some ⟨b, off + Hn, none⟩) L (cap - Hn))] w2.drew.drew fun e w' => ∃ g c, e = .returned (.tuple #[.slice g L c, .int .i64 0]) ∧ w'.ownsRow w2.heap.size 5 1 (.slice g L c) L (ds.map (Value.int .u8)) ∧ Below w2.heap.size w2.drew.drew w') := by have h := unpack0_any S s crc (some ⟨b, off + Hn, none⟩) (cap - Hn) ds w2.drew.drew hS2 (by omega) hbs; rw [hdl] at h; exact h
  have HDL : Hid (ds.length = L) := hdl
  have HDA : Hid (AreBytes ds) := hda
  clear hbs hds hdl hda
  refine wp_region_M (fun wx : World => wx.cell? ⟨w.heap.size, 0, none⟩ = some (.string s) ∧ wx.cell? ⟨w.heap.size, 1, none⟩ = some (.int .i64 0) ∧ wx.cell? ⟨w.heap.size, 2, none⟩ = some (.int .i64 (crc : Int)) ∧ wx.cell? ⟨w.heap.size, 3, none⟩ = some (.int .i64 (L : Int)) ∧ wx.cell? ⟨w.heap.size, 4, none⟩ = some (.int .i64 (L : Int)) ∧ wx.cell? ⟨w.heap.size, 5, none⟩ = some (.int .i64 0) ∧ wx.cell? ⟨A, 0, none⟩ = some (.slice (some ⟨b, off, none⟩) zs.length cap) ∧ wx.cell? ⟨A, 4, none⟩ = some (.int .i64 (left : Int))) (fun _ => true) 14 rfl (by kernel_rfl) ?_
  refine wpM_held 0 (v := ?_) rfl (by kernel_rfl) (by kernel_rfl) rfl (fun _ _ _ h => h) rfl (by rintro wx ⟨hx0, hx1, hx2, hx3, hx4, hx5, hx6, hx7⟩; go_simp <;> rfl) HX5.out ?_
  refine wpM_held 1 (v := ?_) rfl (by kernel_rfl) (by kernel_rfl) rfl (fun _ _ _ h => h) rfl (by rintro wx ⟨hx0, hx1, hx2, hx3, hx4, hx5, hx6, hx7⟩; go_simp <;> rfl) HX5.out ?_
  refine wpM_held 2 (v := ?_) rfl (by kernel_rfl) (by kernel_rfl) rfl (fun _ _ _ h => h) rfl (by rintro wx ⟨hx0, hx1, hx2, hx3, hx4, hx5, hx6, hx7⟩; go_simp <;> rfl) HX5.out ?_
  refine wpM_held 3 (v := ?_) rfl (by kernel_rfl) (by kernel_rfl) rfl (fun _ _ _ h => h) rfl (by rintro wx ⟨hx0, hx1, hx2, hx3, hx4, hx5, hx6, hx7⟩; go_simp <;> rfl) HX5.out ?_
  refine wpM_held 4 (v := ?_) rfl (by kernel_rfl) (by kernel_rfl) rfl (fun _ _ _ h => h) rfl (by rintro wx ⟨hx0, hx1, hx2, hx3, hx4, hx5, hx6, hx7⟩; go_simp <;> rfl) HX5.out ?_
  refine wpM_held 5 (v := ?_) rfl (by kernel_rfl) (by kernel_rfl) rfl (fun _ _ _ h => h) rfl (by rintro wx ⟨hx0, hx1, hx2, hx3, hx4, hx5, hx6, hx7⟩; go_simp <;> rfl) HX5.out ?_
  refine wpM_held 6 (v := ?_) rfl (by kernel_rfl) (by kernel_rfl) rfl (fun _ _ _ h => h) rfl (by rintro wx ⟨hx0, hx1, hx2, hx3, hx4, hx5, hx6, hx7⟩; go_simp <;> rfl) HX5.out ?_
  refine wpM_held 7 (v := (.slice (some ⟨b, off + Hn, none⟩) L (cap - Hn))) rfl (by kernel_rfl) (by kernel_rfl) rfl (fun _ _ _ h => h) rfl (by rintro wx ⟨hx0, hx1, hx2, hx3, hx4, hx5, hx6, hx7⟩; go_simp; rw [if_pos ⟨by omega, by omega⟩, if_pos (by omega), if_neg (by omega), HTO.out]) HX5.out ?_
  refine wpM_one 8 rfl (by kernel_rfl) rfl ?_
  go_wp2_with fail
  refine Calls.mono HU.out ?_
  clear HU
  rintro e w4 ⟨g, c, rfl, ho, hb4⟩
  have hb24 : Below w2.heap.size w2 w4 := ((Below.drew (Below.drew (Below.refl _ w2)))).trans hb4
  have hX4 := hX2.below hb24 hX2.lt
  have hA4 := hA2.below hb24 hA2.lt
  have hbw4 : Below w.heap.size w w4 := hb2.trans (hb24.mono hb2.size)
  have HX6 : Hid ((fun wx : World => wx.cell? ⟨w.heap.size, 0, none⟩ = some (.string s) ∧ wx.cell? ⟨w.heap.size, 1, none⟩ = some (.int .i64 0) ∧ wx.cell? ⟨w.heap.size, 2, none⟩ = some (.int .i64 (crc : Int)) ∧ wx.cell? ⟨w.heap.size, 3, none⟩ = some (.int .i64 (L : Int)) ∧ wx.cell? ⟨w.heap.size, 4, none⟩ = some (.int .i64 (L : Int)) ∧ wx.cell? ⟨w.heap.size, 5, none⟩ = some (.int .i64 0) ∧ wx.cell? ⟨A, 0, none⟩ = some (.slice (some ⟨b, off, none⟩) zs.length cap) ∧ wx.cell? ⟨A, 4, none⟩ = some (.int .i64 (left : Int))) w4) := ⟨hX4.cell rfl, hX4.cell rfl, hX4.cell rfl, hX4.cell rfl, hX4.cell rfl, hX4.cell rfl, hA4.cell rfl, hA4.cell rfl⟩
  go_wp2_with fail
  refine ⟨fun _ => HX6.out, ?_⟩
  refine wpM_one 9 rfl (by kernel_rfl) rfl ?_
  go_wp2_with fail
  refine ⟨fun _ => HX6.out, ?_⟩
  refine wpM_held 10 (v := ?_) rfl (by kernel_rfl) (by kernel_rfl) rfl (fun _ _ _ h => h) rfl (by rintro wx ⟨hx0, hx1, hx2, hx3, hx4, hx5, hx6, hx7⟩; go_simp <;> rfl) HX6.out ?_
  refine wpM_held 11 (v := ?_) rfl (by kernel_rfl) (by kernel_rfl) rfl (fun _ _ _ h => h) rfl (by rintro wx ⟨hx0, hx1, hx2, hx3, hx4, hx5, hx6, hx7⟩; go_simp <;> rfl) HX6.out ?_
  refine wpM_one 12 rfl (by kernel_rfl) rfl ?_
  go_wp2_with fail
  refine ⟨fun _ => HX6.out, ?_⟩
  refine wpM_one 13 rfl (by kernel_rfl) rfl ?_
  go_wp2_with fail
  refine ⟨fun _ => HX6.out, ?_⟩
  refine wpM_done (by kernel_rfl) ?_
  have HBI : Hid (BytesIn (fun _ => True) w4 (.slice g L c) ds) := bytesIn_of_owns (zs := ds) _ (by rw [HDL.out]; exact ho) (fun _ _ => trivial)
  have HCR : Hid (Calls Tryz.prog 38 #[.slice g L c] w4.drew fun e w' => e = .returned (.int .u32 ((crcN ds : Nat) : Int)) ∧ Below w4.heap.size w4.drew w') := by have h := crc_any (fun _ => True) g c ds w4.drew HDA.out (by have := HDL.out; omega) (by rw [HDL.out]; exact HBI.out); rw [HDL.out] at h; exact h
  have HWC : Hid (IntKind.i64.wrap (crcN ds : Int) = (crcN ds : Int)) := by have := crcN_lt ds; show _ = _; simp [IntKind.wrap, IntKind.bits, IntKind.signed]; omega
  have HO : Hid (w4.ownsRow w2.heap.size 5 1 (.slice g L c) L (ds.map (Value.int .u8))) := ho
  clear ho
  go_wp2
  refine wp_region_M (fun wx : World => wx.cell? ⟨w.heap.size, 0, none⟩ = some (.string s) ∧ wx.cell? ⟨w.heap.size, 1, none⟩ = some (.int .i64 0) ∧ wx.cell? ⟨w.heap.size, 2, none⟩ = some (.int .i64 (crc : Int)) ∧ wx.cell? ⟨w.heap.size, 3, none⟩ = some (.int .i64 (L : Int)) ∧ wx.cell? ⟨w.heap.size, 4, none⟩ = some (.int .i64 (L : Int)) ∧ wx.cell? ⟨w.heap.size, 5, none⟩ = some (.int .i64 0) ∧ wx.cell? ⟨A, 0, none⟩ = some (.slice (some ⟨b, off, none⟩) zs.length cap) ∧ wx.cell? ⟨A, 4, none⟩ = some (.int .i64 (left : Int))) (fun _ => true) 6 rfl (by kernel_rfl) ?_
  have HX7 : Hid ((fun wx : World => wx.cell? ⟨w.heap.size, 0, none⟩ = some (.string s) ∧ wx.cell? ⟨w.heap.size, 1, none⟩ = some (.int .i64 0) ∧ wx.cell? ⟨w.heap.size, 2, none⟩ = some (.int .i64 (crc : Int)) ∧ wx.cell? ⟨w.heap.size, 3, none⟩ = some (.int .i64 (L : Int)) ∧ wx.cell? ⟨w.heap.size, 4, none⟩ = some (.int .i64 (L : Int)) ∧ wx.cell? ⟨w.heap.size, 5, none⟩ = some (.int .i64 0) ∧ wx.cell? ⟨A, 0, none⟩ = some (.slice (some ⟨b, off, none⟩) zs.length cap) ∧ wx.cell? ⟨A, 4, none⟩ = some (.int .i64 (left : Int))) w4.drew) := HX6.out
  refine wpM_held 0 (v := ?_) rfl (by kernel_rfl) (by kernel_rfl) rfl (fun _ _ _ h => h) rfl (by rintro wx ⟨hx0, hx1, hx2, hx3, hx4, hx5, hx6, hx7⟩; go_simp <;> rfl) HX7.out ?_
  refine wpM_held 3 (v := ?_) rfl (by kernel_rfl) (by kernel_rfl) rfl (fun _ _ _ h => h) rfl (by rintro wx ⟨hx0, hx1, hx2, hx3, hx4, hx5, hx6, hx7⟩; go_simp <;> rfl) HX7.out ?_
  refine wpM_held 4 (v := ?_) rfl (by kernel_rfl) (by kernel_rfl) rfl (fun _ _ _ h => h) rfl (by rintro wx ⟨hx0, hx1, hx2, hx3, hx4, hx5, hx6, hx7⟩; go_simp <;> rfl) HX7.out ?_
  refine wpM_one 1 rfl (by kernel_rfl) rfl ?_
  go_wp2_with fail
  refine Calls.mono HCR.out ?_
  clear HCR
  rintro e w5 ⟨rfl, hb5⟩
  have hb45 : Below w4.heap.size w4 w5 := (Below.drew (Below.refl _ w4)).trans hb5
  have hX5 := hX4.below hb45 hX4.lt
  have hA5 := hA4.below hb45 hA4.lt
  have hbw5 : Below w.heap.size w w5 := hbw4.trans (hb45.mono hbw4.size)
  have HX8 : Hid ((fun wx : World => wx.cell? ⟨w.heap.size, 0, none⟩ = some (.string s) ∧ wx.cell? ⟨w.heap.size, 1, none⟩ = some (.int .i64 0) ∧ wx.cell? ⟨w.heap.size, 2, none⟩ = some (.int .i64 (crc : Int)) ∧ wx.cell? ⟨w.heap.size, 3, none⟩ = some (.int .i64 (L : Int)) ∧ wx.cell? ⟨w.heap.size, 4, none⟩ = some (.int .i64 (L : Int)) ∧ wx.cell? ⟨w.heap.size, 5, none⟩ = some (.int .i64 0) ∧ wx.cell? ⟨A, 0, none⟩ = some (.slice (some ⟨b, off, none⟩) zs.length cap) ∧ wx.cell? ⟨A, 4, none⟩ = some (.int .i64 (left : Int))) w5) := ⟨hX5.cell rfl, hX5.cell rfl, hX5.cell rfl, hX5.cell rfl, hX5.cell rfl, hX5.cell rfl, hA5.cell rfl, hA5.cell rfl⟩
  have HO5 : Hid (w5.ownsRow w2.heap.size 5 1 (.slice g L c) L (ds.map (Value.int .u8))) := owns_kept HO.out (Kept.of_below hb45 (S := fun k => k < w4.heap.size) (fun _ h => h)) (fun k hk => (HO.out.lt k hk).2)
  go_wp2_with fail
  refine ⟨fun _ => HX8.out, ?_⟩
  refine wpM_held 2 (v := .int .i64 (crcN ds : Int)) rfl (by kernel_rfl) (by kernel_rfl) rfl (fun _ _ _ h => h) rfl (by rintro wx ⟨hx0, hx1, hx2, hx3, hx4, hx5, hx6, hx7⟩; go_simp; rw [HWC.out]) HX8.out ?_
  have hcl := crcN_lt ds
  by_cases hcq : crcN ds = crc
  rotate_left
  · have tq : ((crcN ds : Int) != (crc : Int)) = true := by rw [bne_iff_ne]; omega
    refine wpM_one 5 rfl (by kernel_rfl) rfl ?_
    go_wp2_with fail
    refine ⟨fun _ => HX8.out, ?_⟩
    refine wpM_done (by kernel_rfl) ?_
    go_wp2
    go_ret2
    exact .inr ⟨by rw [HDS.out]; exact hcq, rfl, hbw5⟩
  · have tq : ((crcN ds : Int) != (crc : Int)) = false := by rw [bne_eq_false_iff_eq]; omega
    refine wpM_one 5 rfl (by kernel_rfl) rfl ?_
    go_wp2_with fail
    refine ⟨fun _ => HX8.out, ?_⟩
    refine wpM_done (by kernel_rfl) ?_
    have HCQ : Hid (crcN ds = crc) := hcq
    clear hcq tq hcl
    have HWL : Hid (IntKind.i64.wrap ((left : Int) - (L : Int)) = ((left - L : Nat) : Int)) := by show _ = _; simp [IntKind.wrap, IntKind.bits, IntKind.signed]; omega
    go_wp2
    refine wp_region_M (fun wx : World => wx.cell? ⟨w.heap.size, 4, none⟩ = some (.int .i64 (L : Int)) ∧ wx.cell? ⟨A, 4, none⟩ = some (.int .i64 (left : Int))) (fun j => decide (j ≤ 14)) 16 rfl (by kernel_rfl) ?_
    have HX9 : Hid ((fun wx : World => wx.cell? ⟨w.heap.size, 4, none⟩ = some (.int .i64 (L : Int)) ∧ wx.cell? ⟨A, 4, none⟩ = some (.int .i64 (left : Int))) w5.drew) := ⟨hX5.cell rfl, hA5.cell rfl⟩
    refine wpM_held 0 (v := ?_) rfl (by kernel_rfl) (by kernel_rfl) rfl (fun _ _ _ h => h) rfl (by rintro wx ⟨hx0, hx1⟩; go_simp <;> rfl) HX9.out ?_
    refine wpM_held 1 (v := ?_) rfl (by kernel_rfl) (by kernel_rfl) rfl (fun _ _ _ h => h) rfl (by rintro wx ⟨hx0, hx1⟩; go_simp <;> rfl) HX9.out ?_
    refine wpM_held 2 (v := ?_) rfl (by kernel_rfl) (by kernel_rfl) rfl (fun _ _ _ h => h) rfl (by rintro wx ⟨hx0, hx1⟩; go_simp <;> rfl) HX9.out ?_
    refine wpM_held 3 (v := ?_) rfl (by kernel_rfl) (by kernel_rfl) rfl (fun _ _ _ h => h) rfl (by rintro wx ⟨hx0, hx1⟩; go_simp <;> rfl) HX9.out ?_
    refine wpM_held 4 (v := ?_) rfl (by kernel_rfl) (by kernel_rfl) rfl (fun _ _ _ h => h) rfl (by rintro wx ⟨hx0, hx1⟩; go_simp <;> rfl) HX9.out ?_
    refine wpM_held 5 (v := ?_) rfl (by kernel_rfl) (by kernel_rfl) rfl (fun _ _ _ h => h) rfl (by rintro wx ⟨hx0, hx1⟩; go_simp <;> rfl) HX9.out ?_
    refine wpM_held 6 (v := ?_) rfl (by kernel_rfl) (by kernel_rfl) rfl (fun _ _ _ h => h) rfl (by rintro wx ⟨hx0, hx1⟩; go_simp <;> rfl) HX9.out ?_
    refine wpM_held 7 (v := ?_) rfl (by kernel_rfl) (by kernel_rfl) rfl (fun _ _ _ h => h) rfl (by rintro wx ⟨hx0, hx1⟩; go_simp <;> rfl) HX9.out ?_
    refine wpM_held 8 (v := ?_) rfl (by kernel_rfl) (by kernel_rfl) rfl (fun _ _ _ h => h) rfl (by rintro wx ⟨hx0, hx1⟩; go_simp <;> rfl) HX9.out ?_
    refine wpM_held 9 (v := .int .i64 ((left - L : Nat) : Int)) rfl (by kernel_rfl) (by kernel_rfl) rfl (fun _ _ _ h => h) rfl (by rintro wx ⟨hx0, hx1⟩; go_simp; rw [HWL.out]) HX9.out ?_
    have hA6 : Row w5.drew A 55 #[(.slice (some ⟨b, off, none⟩) zs.length cap), ents, .int .i64 (frm : Int), .int .i64 0, .int .i64 (left : Int)] := hA5
    have z3 := hA6.cell (i := 3) rfl
    have z4 := hA6.cell (i := 4) rfl
    have f3 := hA6.frozen 3
    have f4 := hA6.frozen 4
    have hA7 := hA6.set 3 (.int .i64 ((Hn : Int) + (L : Int)))
    have hk7 : Kept (fun k => k ≠ A) w5.drew (w5.drew.setCell ⟨A, 3, none⟩ (.int .i64 ((Hn : Int) + (L : Int)))) := (Kept.refl _ _).setCell (p := ⟨A, 3, none⟩) (fun h => h rfl) _
    have hXn : w.heap.size ≠ A := by omega
    have hX7 : Row (w5.drew.setCell ⟨A, 3, none⟩ (.int .i64 ((Hn : Int) + (L : Int)))) w.heap.size 48 #[.string s, .int .i64 0, .int .i64 (crc : Int), .int .i64 (L : Int), .int .i64 (L : Int), .int .i64 0] := Row.kept (W := w5.drew) hX5 hk7 hXn
    have HX10 : Hid ((fun wx : World => wx.cell? ⟨w.heap.size, 4, none⟩ = some (.int .i64 (L : Int)) ∧ wx.cell? ⟨A, 4, none⟩ = some (.int .i64 (left : Int))) (w5.drew.setCell ⟨A, 3, none⟩ (.int .i64 ((Hn : Int) + (L : Int))))) := ⟨hX7.cell rfl, hA7.cell rfl⟩
    have hA8 := hA5.set 3 (.int .i64 ((Hn : Int) + (L : Int)))
    have z48 := hA8.cell (i := 4) rfl
    have f48 := hA8.frozen 4
    have hA9 := hA8.set 4 (.int .i64 ((left - L : Nat) : Int))
    refine wpM_one 10 rfl (by kernel_rfl) rfl ?_
    go_wp2_with fail
    refine ⟨fun _ => HX9.out, ?_⟩
    refine wpM_one 11 rfl (by kernel_rfl) rfl ?_
    go_wp2_with fail
    refine ⟨fun _ => HX9.out, ?_⟩
    refine wpM_one 12 rfl (by kernel_rfl) rfl ?_
    go_wp2_with fail
    refine ⟨fun _ => HX10.out, ?_⟩
    refine wpM_one 13 rfl (by kernel_rfl) rfl ?_
    go_wp2_with fail
    refine ⟨fun _ => HX10.out, ?_⟩
    refine wpM_one 14 rfl (by kernel_rfl) rfl ?_
    go_wp2_with fail
    refine ⟨fun _ => HX10.out, ?_⟩
    refine wpM_one 15 rfl (by kernel_rfl) rfl ?_
    go_wp2_with fail
    refine ⟨fun h => (by cases h), ?_⟩
    refine wpM_done (by kernel_rfl) ?_
    go_wp2
    have hkE : Kept (fun k => k ≠ A) w5 ((w5.setCell ⟨A, 3, none⟩ (.int .i64 ((Hn : Int) + (L : Int)))).setCell ⟨A, 4, none⟩ (.int .i64 ((left - L : Nat) : Int))).drew := (((Kept.refl _ w5).setCell (p := ⟨A, 3, none⟩) (fun h => h rfl) _).setCell (p := ⟨A, 4, none⟩) (fun h => h rfl) _).drew
    have hgA : ∀ k, (Value.slice g L c).ownBlock = some k → k ≠ A := fun k hk => by have := (HO5.out.lt k hk).1; have := hb2.size; omega
    go_ret2
    refine .inl ⟨by rw [HDS.out]; exact HCQ.out, g, c, rfl, ?_, ?_, ?_⟩
    · rw [HDS.out]; exact owns_kept (owns_mono HO5.out hb2.size) hkE hgA
    · have e : ((30 + s.size + L : Nat) : Int) = (Hn : Int) + (L : Int) := by have := HHN.out; omega
      rw [e]; exact hA9
    · exact ((Kept.of_below hbw5 (S := fun k => k < w.heap.size ∧ k ≠ A) (fun _ h => h.1)).trans (hkE.mono (fun _ h => h.2)))
end Go.Proofs.YtibnafngkcpafaaGreatDoor
