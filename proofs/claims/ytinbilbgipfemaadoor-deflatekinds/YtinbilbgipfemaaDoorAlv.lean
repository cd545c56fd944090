import Derived.Test.YtinbilbgipfemaaDoorFnd
import Derived.Test.YtinbilbgipfemaaDoorRowkM
import Derived.Lib.SlBytesConst
/- The chapter's example, which every statement of this layer asks for: Deflate of one byte at the lowest level. -/
namespace Go.Proofs.YtinbilbgipfemaaDoor
open Go.RowKit

theorem ex_stored : storedY [] 0 true [97] = [1, 1, 0, 254, 255, 97] := by decide +kernel

set_option maxRecDepth 100000 in
theorem field58 (W : World) (x : Int) (fn : Fn) (f1 f2 : Array Value) : (Instr.field 58 (.agg #[.int .i64 x, .func fn f1 f2]) 1).run Tryd.prog W = .ok (.func fn f1 f2) W := rfl
def EndA (R : Nat) (w wr : World) : Prop := IsWr (fun _ => False) wr R [1, 1, 0, 254, 255, 97] 48 ∧ Below R w wr
def open' : Value → Nat
  | .bool false => 1
  | _ => 0

set_option maxRecDepth 100000 in
set_option maxHeartbeats 2000000 in
theorem deflateA (A : Nat) (w : World) (hA : w.cell? ⟨A, 0, none⟩ = some (.int .u8 97)) :
    Calls Tryd.prog 7 #[.slice (some ⟨A, 0, none⟩) 1 1, .int .i64 0] w fun e w' => ∃ g c, e = .returned (.tuple #[.slice g 6 c, .int .i64 0]) ∧ BytesIn (· < w'.heap.size) w' (.slice g 6 c) [1, 1, 0, 254, 255, 97] ∧ Below w.heap.size w w' := by
  have hAl := World.block_lt_of_cell? _ _ hA
  go_enter Tryd.func7, Tryd.ntmps7
  go_wp2_with fail
  refine (newWriter_any w).mono ?_
  rintro e w1 ⟨rfl, h1⟩
  have hR1 : Two w1 w.heap.size 72 (.slice none 0 0) (.int .i64 0) := by subst h1; exact Two.new w 72 _ _
  have hb1 : Below w.heap.size w w1 := by subst h1; exact (Below.refl _ w).alloc (Nat.le_refl _) _
  clear h1
  go_wp2_with fail
  refine (newFinder_any (some ⟨A, 0, none⟩) 1 1 2 w1 (by omega) (by decide)).mono ?_
  rintro e w2 ⟨vF, rfl, F, H, P, rfl, hF0, hH0, hP0, -, -, -, -, -, -, hb2⟩
  have hR2 : Two w2 w.heap.size 72 (.slice none 0 0) (.int .i64 0) := (hb2.block _ hR1.lt).trans hR1
  have hb : Below w.heap.size w w2 := hb1.trans (hb2.mono hb1.size)
  have hA2 := (hb.cell (p := ⟨A, 0, none⟩) hAl).trans hA
  have HB : Hid (Below w.heap.size w w2) := hb
  clear hb1 hb2 hR1 hF0 hH0 hP0 hb
  go_wp2
  go_loopw [8, 9] (fun v8 v9 wr => (v8 = .int .i64 0 ∧ v9 = .bool false ∧ wr = w2) ∨ (v8 = .int .i64 65535 ∧ v9 = .bool true ∧ EndA w.heap.size w wr)) (fun _ v9 _ => open' v9)
  case atStart => exact .inl ⟨rfl, rfl, rfl⟩
  case round =>
    rcases hrel with ⟨rfl, rfl, rfl⟩ | ⟨rfl, rfl, hE⟩
    · go_wp2_with fail
      generalize hk : (wr.alloc (.cells #[.slice (some ⟨A, 0, none⟩) 1 1, .bool true, .slice none 0 0, .slice none 0 0, .slice none 0 0, .int .i64 0] 51)) = w3
      have hb3 : Below wr.heap.size wr w3 := by subst hk; exact (Below.refl _ wr).alloc (Nat.le_refl _) _
      have hR3 : Two w3 w.heap.size 72 (.slice none 0 0) (.int .i64 0) := by subst hk; exact hR2.alloc _
      have hK3 : Row w3 wr.heap.size 51 #[.slice (some ⟨A, 0, none⟩) 1 1, .bool true, .slice none 0 0, .slice none 0 0, .slice none 0 0, .int .i64 0] := by subst hk; exact Row.new wr 51 _
      have H1 : Hid (Calls Tryd.prog 21 #[.pointer (some ⟨w.heap.size, 0, none⟩)] w3 fun e w' => e = .returned (.int .i64 ((0 : Nat) : Int)) ∧ w' = w3) := len_any w.heap.size _ 0 w3 hR3
      refine H1.out.mono ?_
      clear H1 hk
      rintro e w3' ⟨rfl, rfl⟩
      have H2 : Hid (Calls Tryd.prog 20 #[.pointer (some ⟨wr.heap.size, 0, none⟩), .int .i64 0, .int .i64 ((0 : Nat) : Int)] w3' _) := cheapest0_any wr.heap.size 0 (some ⟨A, 0, none⟩) 1 1 w3' (hK3.cell rfl) (by omega) (by omega)
      go_wp2_with fail
      refine H2.out.mono ?_
      clear H2
      rintro e w4 ⟨B, rfl, hB1, hB2, hB3, hb4⟩
      have hwl : w.heap.size < wr.heap.size := hR2.lt
      have hR4 : Two w4 w.heap.size 72 (.slice none 0 0) (.int .i64 0) := (hb4.block _ hR3.lt).trans hR3
      have hK4 := hK3.below hb4 hK3.lt
      have hA3 : w3'.cell? ⟨A, 0, none⟩ = some (.int .u8 97) := (hb3.cell (p := ⟨A, 0, none⟩) (World.block_lt_of_cell? _ _ hA2)).trans hA2
      have hA4 : w4.cell? ⟨A, 0, none⟩ = some (.int .u8 97) := (hb4.cell (p := ⟨A, 0, none⟩) (World.block_lt_of_cell? _ _ hA3)).trans hA3
      have hW : IsWr (fun k => k = B ∨ k = wr.heap.size ∨ k < w.heap.size) w4 w.heap.size [] 0 := ⟨none, 0, hR4, ⟨rfl, .inl ⟨rfl, rfl⟩⟩, fun k hk => by simp [Value.ownBlock] at hk⟩
      have hI : BytesIn (fun k => k = B ∨ k = wr.heap.size ∨ k < w.heap.size) w4 (.slice (some ⟨A, 0, none⟩) 1 1) [97] := .inr ⟨A, 0, 1, rfl, .inr (.inr hAl), fun j hj => by
        have : j = 0 := by simpa using hj
        subst this
        exact hA4⟩
      have hw3 : wr.heap.size < w3'.heap.size := hK3.lt
      have HK : Hid (Calls Tryd.prog 51 #[.pointer (some ⟨w.heap.size, 0, none⟩), .pointer (some ⟨B, 0, none⟩)] w4 fun e w' => e = .returned (.tuple #[]) ∧ IsWr (fun k => k = B ∨ k = wr.heap.size ∨ k < w.heap.size) w' w.heap.size (storedY [] 0 true [97]) (8 * (storedY [] 0 true [97]).length) ∧ Kept (fun k => k = B ∨ k = wr.heap.size ∨ k < w.heap.size) w4 w') := storedF_any _ B wr.heap.size w.heap.size [] 0 true (some ⟨A, 0, none⟩) 1 [97] w4 hB3 (hK4.cell rfl) (hK4.cell rfl) (.inl rfl) (.inr (.inl rfl)) (fun h => by cases h) hI (by decide) hW (by
          rintro k (rfl | rfl | hk)
          · exact hB2
          · exact hK4.lt
          · have := hK4.lt; omega) (by rintro (h | h | h) <;> omega) rfl (by omega)
      have hfd := field58 w4 (storedN 0 1 : Int) (.func 51) #[] #[.pointer (some ⟨B, 0, none⟩)]
      clear hI hW hB3 hK4 hK3 hR3 hR4 hA3 hA4
      go_wp2_with fail
      refine HK.out.mono ?_
      clear HK hfd
      rintro e w5 ⟨rfl, hW5, hk5⟩
      have HE : Hid (EndA w.heap.size w w5) := by
        rw [ex_stored] at hW5
        obtain ⟨g, c, q1, q2, q3⟩ := hW5
        exact ⟨⟨g, c, q1, q2, fun _ _ h => h⟩, HB.out.trans ((hb3.mono (by omega)).trans ((hb4.mono (by omega)).trans (hk5.below (fun k hk => .inr (.inr hk)))))⟩
      clear hW5 hk5
      go_wp2
      exact ⟨.inr ⟨rfl, rfl, HE.out⟩, by decide⟩
    · obtain ⟨⟨g, c, q1, q2, -⟩, hbE⟩ := hE
      have H9 : Hid (Calls Tryd.prog 22 #[.pointer (some ⟨w.heap.size, 0, none⟩)] wr _) := done_any w.heap.size g c _ [1, 1, 0, 254, 255, 97] (fun _ => True) wr (by decide) q1 (bytesIn_of_owns _ q2 (fun _ _ => trivial))
      clear q1 q2
      go_wp2_with fail
      refine H9.out.mono ?_
      clear H9
      rintro e w9 ⟨g', c', rfl, ho, hb9⟩
      have HF : Hid (BytesIn (· < w9.heap.size) w9 (.slice g' 6 c') [1, 1, 0, 254, 255, 97] ∧ Below w.heap.size w w9) := ⟨bytesIn_of_owns _ ho (fun k hk => (ho.lt k hk).2), hbE.trans (hb9.mono hbE.size)⟩
      clear ho hb9 hbE
      go_wp2
      exact bodyPost_ret (v := .tuple #[.slice g' 6 c', .int .i64 0]) (by simp [results, Tryd.f7, go_sem]) rfl ⟨g', c', rfl, HF.out.1, HF.out.2⟩

set_option maxRecDepth 100000 in
set_option maxHeartbeats 2000000 in
theorem alive_any (w : World) : Calls Tryd.prog 8 #[] w fun e w' => e = .returned (.bool true) ∧ Below w.heap.size w w' := by
  have hb1 : Below w.heap.size w (w.alloc (.cells #[.int .u8 97] 5 (1, 2))) := (Below.refl _ w).alloc (Nat.le_refl _) _
  have H1 : Hid (Calls Tryd.prog 7 #[.slice (some ⟨w.heap.size, 0, none⟩) 1 1, .int .i64 0] (w.alloc (.cells #[.int .u8 97] 5 (1, 2))) _) := deflateA w.heap.size (w.alloc (.cells #[.int .u8 97] 5 (1, 2))) (by rw [World.cell?, World.alloc_heap_new]; rfl)
  have kc := fun (w : World) (C : Array Value) (n c : Nat) => Lib.run_convert_bytes_const (P := Tryd.prog) w 22 5 C n c Tryd.underlying22 Tryd.underlying5
  go_enter Tryd.func8, Tryd.ntmps8
  go_wp2_with fail
  refine H1.out.mono ?_
  clear H1
  rintro e w1 ⟨g, c, rfl, hI, hb2⟩
  have HB : Hid (Below w.heap.size w w1) := hb1.trans (hb2.mono (by simp))
  clear hb1 hb2
  generalize hk : w1.alloc (.cells #[.int .u8 1, .int .u8 1, .int .u8 0, .int .u8 254, .int .u8 255, .int .u8 97] 5) = w2
  have hb3 : Below w1.heap.size w1 w2 := by subst hk; exact (Below.refl _ w1).alloc (Nat.le_refl _) _
  have hR : Row w2 w1.heap.size 5 #[.int .u8 1, .int .u8 1, .int .u8 0, .int .u8 254, .int .u8 255, .int .u8 97] := by subst hk; exact Row.new w1 5 _
  have hI2 : BytesIn (fun _ => True) w2 (.slice g 6 c) [1, 1, 0, 254, 255, 97] := (hI.kept (Kept.of_below hb3 (fun _ h => h))).mono (fun _ _ => trivial)
  have hJ2 : BytesIn (fun _ => True) w2 (.slice (some ⟨w1.heap.size, 0, none⟩) 6 6) [1, 1, 0, 254, 255, 97] := .inr ⟨w1.heap.size, 0, 6, rfl, trivial, fun j hj => by
    have hj' : j < 6 := by simpa using hj
    have h := hR.cell (i := j) (v := .int .u8 (([1, 1, 0, 254, 255, 97] : List Int)[j]?.getD 0)) (by
      rcases (by omega : j = 0 ∨ j = 1 ∨ j = 2 ∨ j = 3 ∨ j = 4 ∨ j = 5) with rfl | rfl | rfl | rfl | rfl | rfl <;> rfl)
    simpa using h⟩
  have H2 : Hid (Calls Tryd.prog 13 #[.slice g 6 c, .slice (some ⟨w1.heap.size, 0, none⟩) 6 6] w2 _) := same_any _ g _ 6 6 c 6 _ w2 hI2 hJ2
  clear hI hI2 hJ2 hR
  go_wp2_with fail
  refine H2.out.mono ?_
  clear H2
  rintro e w3 ⟨rfl, rfl⟩
  go_wp2
  go_ret
  exact ⟨rfl, HB.out.trans (hb3.mono HB.out.size)⟩
end Go.Proofs.YtinbilbgipfemaaDoor
