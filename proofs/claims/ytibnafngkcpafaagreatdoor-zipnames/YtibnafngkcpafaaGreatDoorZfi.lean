/- files: the one file of an archive is read. -/
import Derived.Test.YtibnafngkcpafaaGreatDoorZnx
namespace Go.Proofs.YtibnafngkcpafaaGreatDoor
open Go.RowKit

theorem Tryz.info33 : (Tryz.prog.info? 33).map (fun i => (i.zero, i.size, i.bytes)) = some (some (.agg #[.string .empty, .slice none 0 0]), 2, 40) := by kernel_rfl

theorem row6 {W : World} {base G c : Nat} {s : ByteArray} {crc L : Nat} (h : W.ownsRow base 48 6 (.slice (some ⟨G, 0, none⟩) 1 c) 1 [.string s, .int .i64 0, .int .i64 (crc : Int), .int .i64 (L : Int), .int .i64 (L : Int), .int .i64 0]) : base ≤ G ∧ G < W.heap.size ∧ W.cell? ⟨G, 0, none⟩ = some (.string s) ∧ W.cell? ⟨G, 1, none⟩ = some (.int .i64 0) ∧ W.cell? ⟨G, 2, none⟩ = some (.int .i64 (crc : Int)) ∧ W.cell? ⟨G, 3, none⟩ = some (.int .i64 (L : Int)) ∧ W.cell? ⟨G, 4, none⟩ = some (.int .i64 (L : Int)) ∧ W.cell? ⟨G, 5, none⟩ = some (.int .i64 0) := by
  have hlt := h.lt G rfl
  have hc : ∀ (j : Nat) u, ([.string s, .int .i64 0, .int .i64 (crc : Int), .int .i64 (L : Int), .int .i64 (L : Int), .int .i64 0] : List Value)[j]? = some u → W.cell? ⟨G, j, none⟩ = some u := fun j u hu => by
    have := h.cells (g := G) rfl j u hu
    rwa [Go.WideShapes.add_plain, Nat.zero_add] at this
  exact ⟨hlt.1, hlt.2, hc 0 _ rfl, hc 1 _ rfl, hc 2 _ rfl, hc 3 _ rfl, hc 4 _ rfl, hc 5 _ rfl⟩

set_option maxRecDepth 100000 in
set_option maxHeartbeats 1000000 in
theorem names1_any (A G c base : Nat) (s : ByteArray) (crc L : Nat) (w : World) (hA : w.cell? ⟨A, 1, none⟩ = some (.slice (some ⟨G, 0, none⟩) 1 c)) (hG : w.ownsRow base 48 6 (.slice (some ⟨G, 0, none⟩) 1 c) 1 [.string s, .int .i64 0, .int .i64 (crc : Int), .int .i64 (L : Int), .int .i64 (L : Int), .int .i64 0]) :
    Calls Tryz.prog 46 #[.pointer (some ⟨A, 0, none⟩)] w fun e w' => ∃ g c', e = .returned (.slice g 1 c') ∧ w'.ownsRow w.heap.size 9 1 (.slice g 1 c') 1 ([s].map Value.string) ∧ Below w.heap.size w w' := by
  obtain ⟨i0, hi, hz0, hz1, hz2⟩ := info_parts Tryz.info9
  obtain ⟨hGb, hGl, g0, g1, g2, g3, g4, g5⟩ := row6 hG
  go_enter Tryz.func46, Tryz.ntmps46
  go_wp2
  go_loopw [3, 11] (fun v3 v11 wr => (v11 = .int .i64 0 ∧ v3 = .slice none 0 0 ∧ wr = w) ∨ (v11 = .int .i64 1 ∧ ∃ g c', v3 = .slice g 1 c' ∧ Hid (wr.ownsRow w.heap.size 9 1 (.slice g 1 c') 1 ([s].map Value.string)) ∧ Hid (Below w.heap.size w wr))) (fun _ v11 _ => 1 - (intOf v11).toNat)
  case atStart => exact .inl ⟨rfl, rfl, rfl⟩
  case round =>
    rcases hrel with ⟨rfl, rfl, rfl⟩ | ⟨rfl, g, c', rfl, HO, HB⟩
    · go_wp2_with (at_builtin; refine wpList_append_own2 _ rfl (.tmp 15) (.tmp 18) 26 rfl wr.heap.size 9 i0 (.string .empty) 1 16 Tryz.underlying26 hi hz0 hz1 hz2 rfl (by decide) (.slice none 0 0) 0 [] rfl (World.ownsRow_nil _ _ _ _) ⟨(wr.alloc (.cells #[.string s, .int .i64 0, .int .i64 (crc : Int), .int .i64 (L : Int), .int .i64 (L : Int), .int .i64 0] 48)).heap.size, 0, none⟩ 1 1 [.string s] (by simp [go_sem]) rfl (cell_one_new _ _ _) (by simp [Value.oneCell']) (by unfold maxLen; omega) (by omega) (by simp; omega) ?_)
      intro v' w1 hown' hgrow hblk
      obtain ⟨g', c', rfl⟩ := owns_form hown'
      have HB1 : Hid (Below wr.heap.size wr w1) := (((Below.refl _ wr).alloc (Nat.le_refl _) _).alloc (by simp) _).grown hgrow (by simp; omega) (fun r e => by simp [Value.ownBlock] at e)
      have HO1 : Hid (w1.ownsRow wr.heap.size 9 1 (.slice g' 1 c') 1 ([s].map Value.string)) := hown'
      clear hown' hgrow hblk
      go_wp2
      exact ⟨.inr ⟨rfl, g', c', rfl, HO1, HB1⟩, by simp [intOf]⟩
    · go_wp2
      go_ret
      exact ⟨g, c', rfl, HO.out, HB.out⟩

/-- What files leaves when it has read the one file. -/
def FileEnd (A frm left L : Nat) (dat ents : Value) (s : ByteArray) (ds : List Int) (w : World) (v : Value) (wr : World) : Prop :=
  ∃ F cF g cg, v = .slice (some ⟨F, 0, none⟩) 1 cF ∧ wr.cell? ⟨F, 0, none⟩ = some (.string s) ∧ wr.cell? ⟨F, 1, none⟩ = some (.slice g L cg) ∧ BytesIn (fun _ => True) wr (.slice g L cg) ds ∧ Row wr A 55 #[dat, ents, .int .i64 (frm : Int), .int .i64 (frm : Int), .int .i64 ((left - L : Nat) : Int)] ∧ Kept (fun k => k < w.heap.size ∧ k ≠ A) w wr

set_option maxRecDepth 100000 in
set_option maxHeartbeats 2000000 in
theorem files1_any (S : Nat → Prop) (A b off cap left : Nat) (zs : List Int) (G c base frm : Nat) (s : ByteArray) (crc L : Nat) (mx : Int) (w : World) (hS : ∀ k, S k → k < w.heap.size) (hz : AreBytes zs) (hl : zs.length ≤ 1048576) (hcap : zs.length ≤ cap) (hI : BytesIn S w (.slice (some ⟨b, off, none⟩) zs.length cap) zs) (hA : Row w A 55 #[(.slice (some ⟨b, off, none⟩) zs.length cap), .slice (some ⟨G, 0, none⟩) 1 c, .int .i64 (frm : Int), .int .i64 0, .int .i64 (left : Int)]) (hG : w.ownsRow base 48 6 (.slice (some ⟨G, 0, none⟩) 1 c) 1 [.string s, .int .i64 0, .int .i64 (crc : Int), .int .i64 (L : Int), .int .i64 (L : Int), .int .i64 0]) (hcr : crc < 4294967296) (hsm : s.size ≤ 65535)
    (hL1 : L ≤ left) (hl9 : left < 262144) (hto : 30 + s.size + L = frm) (hfl : frm ≤ zs.length) (hL0 : 0 < L) (hpre : Lib.hasPrefix (Lib.bytesOf zs) (Lib.bytesOf (localB s 0 crc L L)) = true) (hr : rightS s = true) (h0 : 0 < w.heap.size) (hm : w.cell? ⟨0, 0, none⟩ = some (.int .i64 mx)) :
    Calls Tryz.prog 25 #[.pointer (some ⟨A, 0, none⟩)] w fun e w' =>
      (crcN ((zs.drop (30 + s.size)).take L) = crc ∧ ∃ v, e = .returned (.tuple #[v, .int .i64 0]) ∧ FileEnd A frm left L (.slice (some ⟨b, off, none⟩) zs.length cap) (.slice (some ⟨G, 0, none⟩) 1 c) s ((zs.drop (30 + s.size)).take L) w v w') ∨
      (crcN ((zs.drop (30 + s.size)).take L) ≠ crc ∧ e = .returned (.tuple #[.slice none 0 0, .int .i64 13]) ∧ Below w.heap.size w w') := by
  have hAl := hA.lt
  obtain ⟨i0, hi, hz0, hz1, hz2⟩ := info_parts Tryz.info33
  obtain ⟨hGb, hGl, g0, g1, g2, g3, g4, g5⟩ := row6 hG
  have a1 := hA.cell (i := 1) rfl
  have HNA : Hid (Calls Tryz.prog 46 #[.pointer (some ⟨A, 0, none⟩)] w _) := names1_any A G c base s crc L w a1 hG
  clear g0 g1 g2 g3 g4 g5
  go_enter Tryz.func25, Tryz.ntmps25
  go_wp2_with fail
  refine Calls.mono HNA.out ?_
  clear HNA
  rintro e w1 ⟨gn, cn, rfl, hon, hb1⟩
  obtain ⟨bn, rfl, hbn, hbnl, hIn⟩ := owns_strs hon (by omega)
  have HTW : Hid _ := twice1_any bn cn s w1 (hIn 0 (by simp))
  clear hon
  go_wp2_with fail
  refine Calls.mono HTW.out ?_
  clear HTW
  rintro e w1' ⟨rfl, rfl⟩
  have hA1 := hA.below hb1 hAl
  have hG1 := owns_kept hG (Kept.of_below hb1 (S := fun k => k < w.heap.size) (fun _ h => h)) (fun k hk => (hG.lt k hk).2)
  have hI1 := hI.kept (Kept.of_below hb1 hS)
  have hm1 := (hb1.cell (p := ⟨0, 0, none⟩) h0).trans hm
  have hs1 := hb1.size
  have a1' := hA1.cell (i := 1) rfl
  obtain ⟨_, hGl1, g0, g1, g2, g3, g4, g5⟩ := row6 hG1
  have HB1 : Hid (Below w.heap.size w w1') := hb1
  clear hb1 a1 hm
  go_wp2
  go_loopw [4, 18] (fun v4 v18 wr => (v18 = .int .i64 0 ∧ v4 = .slice none 0 0 ∧ wr = w1') ∨ (v18 = .int .i64 1 ∧ (∃ F cF, v4 = .slice (some ⟨F, 0, none⟩) 1 cF) ∧ Hid (crcN ((zs.drop (30 + s.size)).take L) = crc) ∧ Hid (FileEnd A frm left L (.slice (some ⟨b, off, none⟩) zs.length cap) (.slice (some ⟨G, 0, none⟩) 1 c) s ((zs.drop (30 + s.size)).take L) w v4 wr))) (fun _ v18 _ => 1 - (intOf v18).toNat)
  case atStart => exact .inl ⟨rfl, rfl, rfl⟩
  case round =>
    rcases hrel with ⟨rfl, rfl, rfl⟩ | ⟨rfl, ⟨F, cF, rfl⟩, HC, HF⟩
    · have hb2 : Below wr.heap.size wr (wr.alloc (.cells #[.string s, .int .i64 0, .int .i64 (crc : Int), .int .i64 (L : Int), .int .i64 (L : Int), .int .i64 0] 48)) := (Below.refl _ wr).alloc (Nat.le_refl _) _
      have hX2 := Row.new wr 48 #[.string s, .int .i64 0, .int .i64 (crc : Int), .int .i64 (L : Int), .int .i64 (L : Int), .int .i64 0]
      have hs2 : (wr.alloc (.cells #[.string s, .int .i64 0, .int .i64 (crc : Int), .int .i64 (L : Int), .int .i64 (L : Int), .int .i64 0] 48)).heap.size = wr.heap.size + 1 := by simp
      go_wp2_with fail
      generalize wr.alloc (.cells #[.string s, .int .i64 0, .int .i64 (crc : Int), .int .i64 (L : Int), .int .i64 (L : Int), .int .i64 0] 48) = w2 at hb2 hX2 hs2 ⊢
      have HS2 : Hid (w2.heap.size = wr.heap.size + 1) := hs2
      clear hs2
      have HRI : Hid (Calls Tryz.prog 4 #[.string s] w2 fun e w' => e = .returned (.bool true) ∧ Below w2.heap.size w2 w') := by
        have h := right_any s mx w2 (by unfold maxLen; omega) ((hb2.cell (p := ⟨0, 0, none⟩) (by show 0 < _; omega)).trans hm1)
        rw [hr] at h
        exact h
      refine Calls.mono HRI.out ?_
      clear HRI
      rintro e w3 ⟨rfl, hb3⟩
      have hb13 : Below wr.heap.size wr w3 := hb2.trans (hb3.mono (by have := HS2.out; omega))
      have hX3 := hX2.below hb3 hX2.lt
      have hA3 := hA1.below hb13 hA1.lt
      have hI3 := hI1.kept (Kept.of_below hb13 (fun k h => by have := hS k h; omega))
      have hbw3 : Below w.heap.size w w3 := HB1.out.trans (hb13.mono hs1)
      have HNX : Hid (Calls Tryz.prog 47 #[.pointer (some ⟨A, 0, none⟩), .agg #[.string s, .int .i64 0, .int .i64 (crc : Int), .int .i64 (L : Int), .int .i64 (L : Int), .int .i64 0]] w3 _) := next_any S A b off cap left zs (.slice (some ⟨G, 0, none⟩) 1 c) frm s crc L w3 (fun k h => by have := hS k h; have := hbw3.size; omega) hz hl hcap hI3 hA3 hcr hsm hL1 hl9 (by omega) hfl hL0 hpre
      have x0 := hX3.cell (i := 0) rfl
      have x1 := hX3.cell (i := 1) rfl
      have x2 := hX3.cell (i := 2) rfl
      have x3 := hX3.cell (i := 3) rfl
      have x4 := hX3.cell (i := 4) rfl
      have x5 := hX3.cell (i := 5) rfl
      have HTO : Hid (30 + s.size + L = frm) := hto
      have hXA : wr.heap.size ≠ A := by have := HB1.out.size; omega
      clear hpre hto
      go_wp2_with fail
      refine Calls.mono HNX.out ?_
      clear HNX x0 x1 x2 x3 x4 x5
      rintro e w4 (⟨hcq, g, cg, rfl, ho4, hA4, hk4⟩ | ⟨hcq, rfl, hb4⟩)
      rotate_left
      · have HQ : Hid ((crcN ((zs.drop (30 + s.size)).take L) ≠ crc) ∧ Below w.heap.size w w4) := ⟨hcq, hbw3.trans (hb4.mono hbw3.size)⟩
        clear hcq hb4
        go_wp2
        go_ret2
        exact .inr ⟨HQ.out.1, rfl, HQ.out.2⟩
      · rw [HTO.out] at hA4
        have hX4 := hX3.kept hk4 ⟨hX3.lt, hXA⟩
        have x0 := hX4.cell (i := 0) rfl
        have HCQ : Hid (crcN ((zs.drop (30 + s.size)).take L) = crc) := hcq
        have HDL : Hid (((zs.drop (30 + s.size)).take L).length = L) := by have := HTO.out; show _ = _; simp; omega
        have HO4 : Hid (w4.ownsRow w3.heap.size 5 1 (.slice g L cg) L (((zs.drop (30 + s.size)).take L).map (Value.int .u8))) := ho4
        have HKW : Hid (Kept (fun k => k < w.heap.size ∧ k ≠ A) w w4) := (Kept.of_below hbw3 (S := fun k => k < w.heap.size ∧ k ≠ A) (fun _ h => h.1)).trans (hk4.mono (fun k h => ⟨Nat.lt_of_lt_of_le h.1 hbw3.size, h.2⟩))
        have hs4 := HKW.out.size
        have hFn := Row.new w4 33 #[.string s, .slice g L cg]
        clear hcq ho4
        go_wp2_with (at_builtin; refine wpList_append_own2 _ rfl (.tmp 39) (.tmp 44) 34 rfl w.heap.size 33 i0 (.agg #[.string .empty, .slice none 0 0]) 2 40 Tryz.underlying34 hi hz0 hz1 hz2 rfl (by decide) (.slice none 0 0) 0 [] rfl (World.ownsRow_nil _ _ _ _) ⟨w4.heap.size, 0, none⟩ 1 1 [.string s, .slice g L cg] (by simp [go_sem]) rfl (fun j u hu => by rw [Go.WideShapes.add_plain, Nat.zero_add]; exact hFn.cell (by simpa using hu)) (by simp [Value.oneCell']) (by unfold maxLen; omega) (by omega) (by simp; omega) ?_)
        intro v' w5 hown' hgrow hblk
        obtain ⟨F, cF, rfl⟩ := ownsRow_succ hown'
        have hk5 : Kept (fun k => k < w4.heap.size) w4 w5 := ((Kept.refl _ w4).alloc (fun _ h => h) _).grown hgrow (fun k h => by simp; omega) (fun k h => by simp [Value.ownBlock] at h)
        have hcF : ∀ (j : Nat) u, ([.string s, .slice g L cg] : List Value)[j]? = some u → w5.cell? ⟨F, j, none⟩ = some u := fun j u hu => by
          have := hown'.cells (g := F) rfl j u hu
          rwa [Go.WideShapes.add_plain, Nat.zero_add] at this
        have HFE : Hid (FileEnd A frm left L (.slice (some ⟨b, off, none⟩) zs.length cap) (.slice (some ⟨G, 0, none⟩) 1 c) s ((zs.drop (30 + s.size)).take L) w (.slice (some ⟨F, 0, none⟩) 1 cF) w5) := ⟨F, cF, g, cg, rfl, hcF 0 _ rfl, hcF 1 _ rfl, bytesIn_of_owns (zs := ((zs.drop (30 + s.size)).take L)) _ (by rw [HDL.out]; exact owns_kept HO4.out hk5 (fun k hk => (HO4.out.lt k hk).2)) (fun _ _ => trivial), hA4.kept hk5 hA4.lt, HKW.out.trans (hk5.mono (fun k h => Nat.lt_of_lt_of_le h.1 hs4))⟩
        clear hown' hgrow hblk hcF hFn x0
        go_wp2
        exact ⟨.inr ⟨rfl, ⟨F, cF, rfl⟩, HCQ, HFE⟩, by simp [intOf]⟩
    · obtain ⟨F', cF', g', cg', e1, e2, e3, e4, hAr, hkr⟩ := HF.out
      have r2 := hAr.cell (i := 2) rfl
      have r3 := hAr.cell (i := 3) rfl
      have HKR : Hid (Kept (fun k => k < w.heap.size ∧ k ≠ A) w wr) := hkr
      have HE : Hid ((Value.slice (some ⟨F, 0, none⟩) 1 cF = Value.slice (some ⟨F', 0, none⟩) 1 cF') ∧ wr.cell? ⟨F', 0, none⟩ = some (.string s) ∧ wr.cell? ⟨F', 1, none⟩ = some (.slice g' L cg') ∧ BytesIn (fun _ => True) wr (.slice g' L cg') ((zs.drop (30 + s.size)).take L) ∧ Row wr A 55 #[(.slice (some ⟨b, off, none⟩) zs.length cap), .slice (some ⟨G, 0, none⟩) 1 c, .int .i64 (frm : Int), .int .i64 (frm : Int), .int .i64 ((left - L : Nat) : Int)]) := ⟨e1, e2, e3, e4, hAr⟩
      clear e1 e2 e3 e4 hkr hAr HF
      go_wp2
      go_quiet (fail)
      have HN : Hid (FileEnd A frm left L (.slice (some ⟨b, off, none⟩) zs.length cap) (.slice (some ⟨G, 0, none⟩) 1 c) s ((zs.drop (30 + s.size)).take L) w (.slice (some ⟨F, 0, none⟩) 1 cF) (wr.drewN nq)) := by
        obtain ⟨e1, e2, e3, e4, e5⟩ := HE.out
        have e2' : (wr.drewN nq).cell? ⟨F', 0, none⟩ = some (.string s) := e2
        have e3' : (wr.drewN nq).cell? ⟨F', 1, none⟩ = some (.slice g' L cg') := e3
        have e4' : BytesIn (fun _ => True) (wr.drewN nq) (.slice g' L cg') ((zs.drop (30 + s.size)).take L) := e4
        have e5' : Row (wr.drewN nq) A 55 #[(.slice (some ⟨b, off, none⟩) zs.length cap), .slice (some ⟨G, 0, none⟩) 1 c, .int .i64 (frm : Int), .int .i64 (frm : Int), .int .i64 ((left - L : Nat) : Int)] := e5
        have hbd : Below wr.heap.size wr (wr.drewN nq) := ⟨rfl, rfl, rfl, Nat.le_refl _, fun _ _ => rfl⟩
        have hkd : Kept (fun k => k < w.heap.size ∧ k ≠ A) w (wr.drewN nq) := HKR.out.trans (Kept.of_below hbd (fun k h => Nat.lt_of_lt_of_le h.1 HKR.out.size))
        exact ⟨F', cF', g', cg', e1, e2', e3', e4', e5', hkd⟩
      clear HE HKR r2 r3
      go_wp2_with fail
      go_ret2
      exact .inl ⟨HC.out, _, rfl, HN.out⟩
end Go.Proofs.YtibnafngkcpafaaGreatDoor
