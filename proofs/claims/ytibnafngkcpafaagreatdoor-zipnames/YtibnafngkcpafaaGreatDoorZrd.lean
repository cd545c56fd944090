/- Read of an archive of one stored file. -/
import Derived.Test.YtibnafngkcpafaaGreatDoorZfi
namespace Go.Proofs.YtibnafngkcpafaaGreatDoor
open Go.RowKit Go.Shelf

attribute [local go_sem] Oper.semAt_some

/-- What Read leaves when it has read the one file. -/
def ReadEnd (L : Nat) (s : ByteArray) (ds : List Int) (w : World) (v : Value) (wr : World) : Prop :=
  ∃ F cF g cg, v = .slice (some ⟨F, 0, none⟩) 1 cF ∧ wr.cell? ⟨F, 0, none⟩ = some (.string s) ∧ wr.cell? ⟨F, 1, none⟩ = some (.slice g L cg) ∧ BytesIn (fun _ => True) wr (.slice g L cg) ds ∧ Kept (fun k => k < w.heap.size) w wr

set_option maxRecDepth 100000 in
set_option maxHeartbeats 2000000 in
theorem read1_any (S : Nat → Prop) (b off cap left : Nat) (zs : List Int) (size frm : Nat) (s : ByteArray) (crc L : Nat) (mx : Int) (w : World) (hS : ∀ k, S k → k < w.heap.size) (hZ : OneArc zs size frm) (hO : OneEnt ((zs.drop frm).take size) s 0 crc L L 0) (hcap : zs.length ≤ cap) (hI : BytesIn S w (.slice (some ⟨b, off, none⟩) zs.length cap) zs)
    (hcr : crc < 4294967296) (hsm : s.size ≤ 65535) (hL1 : L ≤ left) (hl9 : left < 262144) (hto : 30 + s.size + L = frm) (hL0 : 0 < L) (hpre : Lib.hasPrefix (Lib.bytesOf zs) (Lib.bytesOf (localB s 0 crc L L)) = true) (hr : rightS s = true) (h0 : 0 < w.heap.size) (hm : w.cell? ⟨0, 0, none⟩ = some (.int .i64 mx)) :
    Calls Tryz.prog 12 #[(.slice (some ⟨b, off, none⟩) zs.length cap), .int .i64 (left : Int)] w fun e w' =>
      (crcN ((zs.drop (30 + s.size)).take L) = crc ∧ ∃ v, e = .returned (.tuple #[v, .int .i64 0]) ∧ ReadEnd L s ((zs.drop (30 + s.size)).take L) w v w') ∨
      (crcN ((zs.drop (30 + s.size)).take L) ≠ crc ∧ e = .returned (.tuple #[.slice none 0 0, .int .i64 13]) ∧ Kept (fun k => k < w.heap.size) w w') := by
  have t1 : ¬ ((left : Int) < 0) := by omega
  have hzl : zs.length ≤ 1048576 := hZ.small
  have t2 : ¬ ((zs.length : Int) > 1048576) := by omega
  go_enter Tryz.func12, Tryz.ntmps12
  have hb1 : Below w.heap.size w (w.alloc (.cells #[(.slice (some ⟨b, off, none⟩) zs.length cap), .slice none 0 0, .int .i64 0, .int .i64 0, .int .i64 (left : Int)] 55)) := (Below.refl _ w).alloc (Nat.le_refl _) _
  have hX1 := Row.new w 55 #[(.slice (some ⟨b, off, none⟩) zs.length cap), .slice none 0 0, .int .i64 0, .int .i64 0, .int .i64 (left : Int)]
  have hs1 : (w.alloc (.cells #[(.slice (some ⟨b, off, none⟩) zs.length cap), .slice none 0 0, .int .i64 0, .int .i64 0, .int .i64 (left : Int)] 55)).heap.size = w.heap.size + 1 := by simp
  have HTO : Hid (30 + s.size + L = frm) := hto
  have HL : Hid (frm ≤ zs.length) := by have := hZ.len; show _ ≤ _; omega
  clear hto
  go_wp2_with fail
  generalize w.alloc (.cells #[(.slice (some ⟨b, off, none⟩) zs.length cap), .slice none 0 0, .int .i64 0, .int .i64 0, .int .i64 (left : Int)] 55) = w1 at hb1 hX1 hs1 ⊢
  have hI1 := hI.kept (Kept.of_below hb1 hS)
  have hm1 := (hb1.cell (p := ⟨0, 0, none⟩) h0).trans hm
  have HOP : Hid (Calls Tryz.prog 24 #[.pointer (some ⟨w.heap.size, 0, none⟩)] w1 _) := callsIn_wide.1 (open_in S w.heap.size b off cap left zs size frm s 0 crc L L 0 w1 (fun k h => by have := hS k h; omega) (fun h => by have := hS _ h; omega) hZ hO hcap hI1 hX1)
  refine Calls.mono HOP.out ?_
  clear HOP
  rintro e w2 ⟨rfl, G, c, hX2, hG2, hk2⟩
  have hI2 := hI1.kept (hk2.mono (fun k h => by have := hS k h; exact ⟨by omega, by omega⟩))
  have hm2 : w2.cell? ⟨0, 0, none⟩ = some (.int .i64 mx) := (hk2.cell (p := ⟨0, 0, none⟩) ⟨by show 0 < _; omega, by show 0 ≠ _; omega⟩).trans hm1
  have hs2 := hk2.size
  have HK2 : Hid (Kept (fun k => k < w.heap.size) w w2) := (Kept.of_below hb1 (S := fun k => k < w.heap.size) (fun _ h => h)).trans (hk2.mono (fun k h => ⟨by omega, by omega⟩))
  have HS2 : Hid (w.heap.size + 1 ≤ w2.heap.size) := by show _ ≤ _; omega
  have HFI : Hid (Calls Tryz.prog 25 #[.pointer (some ⟨w.heap.size, 0, none⟩)] w2 _) := files1_any S w.heap.size b off cap left zs G c w1.heap.size frm s crc L mx w2 (fun k h => by have := hS k h; omega) hZ.are hZ.small hcap hI2 hX2 hG2 hcr hsm hL1 hl9 HTO.out HL.out hL0 hpre hr (by omega) hm2
  clear hI2 hI1 hX2 hG2 hk2 hX1 hb1 hpre hs1 hs2
  go_wp2_with fail
  refine Calls.mono HFI.out ?_
  clear HFI
  rintro e w3 (⟨hcq, v, rfl, F, cF, g, cg, rfl, e2, e3, e4, _, hk3⟩ | ⟨hcq, rfl, hb3⟩)
  · have HN : Hid (ReadEnd L s ((zs.drop (30 + s.size)).take L) w (.slice (some ⟨F, 0, none⟩) 1 cF) w3) := ⟨F, cF, g, cg, rfl, e2, e3, e4, HK2.out.trans (hk3.mono (fun k h => ⟨by have := HS2.out; omega, by omega⟩))⟩
    clear e2 e3 e4 hk3
    go_wp2_with fail
    go_ret2
    exact .inl ⟨hcq, _, rfl, HN.out⟩
  · have HN : Hid (Kept (fun k => k < w.heap.size) w w3) := HK2.out.trans (Kept.of_below hb3 (fun k h => by have := HS2.out; omega))
    clear hb3
    go_wp2_with fail
    go_ret2
    exact .inr ⟨hcq, rfl, HN.out⟩
end Go.Proofs.YtibnafngkcpafaaGreatDoor
