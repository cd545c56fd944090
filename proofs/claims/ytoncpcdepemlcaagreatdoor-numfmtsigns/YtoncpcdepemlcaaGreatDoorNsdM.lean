import Derived.Test.YtoncpcdepemlcaaGreatDoorNpsM
import Derived.Test.YtoncpcdepemlcaaGreatDoorRpxM
import Derived.Test.YtoncpcdepemlcaaGreatDoorNnoM
import Derived.Test.YtoncpcdepemlcaaGreatDoorVnmM
import Derived.Test.YtoncpcdepemlcaaGreatDoorWprM
import Derived.Test.YtoncpcdepemlcaaGreatDoorPqzM
import Derived.Test.YtoncpcdepemlcaaGreatDoorRtmM
/- numfmt: what a section displays of a number. -/
namespace Go.Proofs.YtoncpcdepemlcaaGreatDoor
open Go.RowKit

def SD (w W : World) (x d z : Array Value) : Prop := Row W w.heap.size 33 x ∧ Row W (w.heap.size + 1) 38 d ∧ Row W (w.heap.size + 2) 38 z ∧ Below w.heap.size w W
theorem SD.start (w : World) (x d z : Array Value) : SD w (((w.alloc (.cells x 33)).alloc (.cells d 38)).alloc (.cells z 38)) x d z := by
  obtain ⟨h1, h2, h3, h4⟩ := three_rows w _ x d z 33 38 38 (Below.refl _ _)
  exact ⟨h1, h2, h3, h4⟩
theorem SD.next {w W W' : World} {x d z : Array Value} (h : SD w W x d z) (b : Below W.heap.size W W') : SD w W' x d z :=
  ⟨h.1.below b h.1.lt, h.2.1.below b h.2.1.lt, h.2.2.1.below b h.2.2.1.lt, h.2.2.2.trans (b.mono h.2.2.2.size)⟩
theorem SD.setD {w W : World} {x z : Array Value} {a b : Value} (h : SD w W x #[a, b] z) (a' b' : Value) : SD w ((W.setCell ⟨w.heap.size + 1, 0, none⟩ a').setCell ⟨w.heap.size + 1, 1, none⟩ b') x #[a', b'] z :=
  ⟨(h.1.off 0 a' (by omega)).off 1 b' (by omega), (h.2.1.set 0 a').set 1 b', (h.2.2.1.off 0 a' (by omega)).off 1 b' (by omega), below_set (below_set h.2.2.2 0 a' (by omega)) 1 b' (by omega)⟩
theorem SD.setZ {w W : World} {x d : Array Value} {a b : Value} (h : SD w W x d #[a, b]) (a' b' : Value) : SD w ((W.setCell ⟨w.heap.size + 2, 0, none⟩ a').setCell ⟨w.heap.size + 2, 1, none⟩ b') x d #[a', b'] :=
  ⟨(h.1.off 0 a' (by omega)).off 1 b' (by omega), (h.2.1.off 0 a' (by omega)).off 1 b' (by omega), (h.2.2.1.set 0 a').set 1 b', below_set (below_set h.2.2.2 0 a' (by omega)) 1 b' (by omega)⟩
set_option maxRecDepth 100000 in
set_option maxHeartbeats 4000000 in
theorem scaled_neg_bad (t0 t1 : ByteArray) (n2 n3 : Int) (b4 : Bool) (n5 n6 : Int) (b7 : Bool) (n8 : Int) (b9 b10 : Bool) (c e s : Int) (c1 e1 er1 : Int) (HS : (∀ V, Hid (Calls Tryz.prog 48 #[.agg #[.int .i64 c, .int .i64 e]] V fun r w' => r = .returned (.int .i64 s) ∧ Below V.heap.size V w'))) (hs : s < 0) (HN : (∀ V, Hid (Calls Tryz.prog 81 #[.agg #[.int .i64 c, .int .i64 e]] V fun r w' => r = .returned (.tuple #[.agg #[.int .i64 c1, .int .i64 e1], .int .i64 er1]) ∧ Below V.heap.size V w'))) (her1 : (er1 == 0) = false) (her1' : (er1 != 0) = true) (w : World) :
    Calls Tryz.prog 50 #[.agg #[.string t0, .string t1, .int .i64 n2, .int .i64 n3, .bool b4, .int .i64 n5, .int .i64 n6, .bool b7, .int .i64 n8, .bool b9, .bool b10], .agg #[.int .i64 c, .int .i64 e]] w fun r w' => r = .returned (.tuple #[.agg #[.int .i64 0, .int .i64 0], .int .i64 er1]) ∧ Below w.heap.size w w' := by
  have h0 := SD.start w #[.string t0, .string t1, .int .i64 n2, .int .i64 n3, .bool b4, .int .i64 n5, .int .i64 n6, .bool b7, .int .i64 n8, .bool b9, .bool b10] #[.int .i64 c, .int .i64 e] #[.int .i64 0, .int .i64 0]
  go_enter Tryz.func50, Tryz.ntmps50
  go_upto_region 2 with fail
  generalize (((w.alloc (.cells #[.string t0, .string t1, .int .i64 n2, .int .i64 n3, .bool b4, .int .i64 n5, .int .i64 n6, .bool b7, .int .i64 n8, .bool b9, .bool b10] 33)).alloc (.cells #[.int .i64 c, .int .i64 e] 38)).alloc (.cells #[.int .i64 0, .int .i64 0] 38)) = W at *
  obtain ⟨d0, d1⟩ := h0.2.1.duo
  have df := h0.2.1.frozen
  have dl := h0.2.1.lt
  obtain ⟨s0, s1, s2, s3, s4, s5, s6, s7, s8, s9, s10⟩ := h0.1.sec
  clear s0 s1 s2 s3 s4 s6 s7 s9 s10
  obtain ⟨z0, z1⟩ := h0.2.2.1.duo
  have zf := h0.2.2.1.frozen
  have zl := h0.2.2.1.lt
  go_wp2_with fail
  refine Calls.mono (HS _).out ?_
  rintro _ w1 ⟨rfl, lh1⟩
  have h1 := h0.next lh1
  clear lh1 HS
  clear d0 d1 df dl s5 s8 z0 z1 zf zl
  obtain ⟨d0, d1⟩ := h1.2.1.duo
  have df := h1.2.1.frozen
  have dl := h1.2.1.lt
  obtain ⟨s0, s1, s2, s3, s4, s5, s6, s7, s8, s9, s10⟩ := h1.1.sec
  clear s0 s1 s2 s3 s4 s6 s7 s9 s10
  obtain ⟨z0, z1⟩ := h1.2.2.1.duo
  have zf := h1.2.2.1.frozen
  have zl := h1.2.2.1.lt
  go_wp2_with fail
  refine Calls.mono (HN _).out ?_
  rintro _ w2 ⟨rfl, lh2⟩
  have h2 := h1.next lh2
  clear lh2 HN
  have h3 := h2.setD (.int .i64 c1) (.int .i64 e1)
  clear d0 d1 df dl s5 s8 z0 z1 zf zl
  obtain ⟨d0, d1⟩ := h2.2.1.duo
  have df := h2.2.1.frozen
  have dl := h2.2.1.lt
  go_upto_region 4 with fail
  generalize ((w2.setCell ⟨w.heap.size + 1, 0, none⟩ (.int .i64 c1)).setCell ⟨w.heap.size + 1, 1, none⟩ (.int .i64 e1)) = w3 at *
  clear d0 d1 df dl
  obtain ⟨d0, d1⟩ := h3.2.1.duo
  have df := h3.2.1.frozen
  have dl := h3.2.1.lt
  obtain ⟨s0, s1, s2, s3, s4, s5, s6, s7, s8, s9, s10⟩ := h3.1.sec
  clear s0 s1 s2 s3 s4 s6 s7 s9 s10
  obtain ⟨z0, z1⟩ := h3.2.2.1.duo
  have zf := h3.2.2.1.frozen
  have zl := h3.2.2.1.lt
  go_wp2
  exact bodyPost_ret (ret_two rfl (g := w.heap.size + 2) rfl rfl (load23 (h3.setZ _ _).2.2.1 rfl)) rfl ⟨rfl, (h3.setZ _ _).2.2.2⟩
set_option maxRecDepth 100000 in
set_option maxHeartbeats 4000000 in
theorem scaled_neg_over (t0 t1 : ByteArray) (n2 n3 : Int) (b4 : Bool) (n5 n6 : Int) (b7 : Bool) (n8 : Int) (b9 b10 : Bool) (c e s : Int) (c1 e1 er1 c2 e2 er2 : Int) (HS : (∀ V, Hid (Calls Tryz.prog 48 #[.agg #[.int .i64 c, .int .i64 e]] V fun r w' => r = .returned (.int .i64 s) ∧ Below V.heap.size V w'))) (hs : s < 0) (HN : (∀ V, Hid (Calls Tryz.prog 81 #[.agg #[.int .i64 c, .int .i64 e]] V fun r w' => r = .returned (.tuple #[.agg #[.int .i64 c1, .int .i64 e1], .int .i64 er1]) ∧ Below V.heap.size V w'))) (her1 : (er1 == 0) = true) (hn8 : 0 ≤ n8 ∧ n8 ≤ 100) (HM : (∀ V, Hid (Calls Tryz.prog 82 #[.agg #[.int .i64 c1, .int .i64 e1], .agg #[.int .i64 1, .int .i64 (2 * n8)]] V fun r w' => r = .returned (.tuple #[.agg #[.int .i64 c2, .int .i64 e2], .int .i64 er2]) ∧ Below V.heap.size V w'))) (her2 : (er2 != 0) = true) (w : World) :
    Calls Tryz.prog 50 #[.agg #[.string t0, .string t1, .int .i64 n2, .int .i64 n3, .bool b4, .int .i64 n5, .int .i64 n6, .bool b7, .int .i64 n8, .bool b9, .bool b10], .agg #[.int .i64 c, .int .i64 e]] w fun r w' => r = .returned (.tuple #[.agg #[.int .i64 0, .int .i64 0], .int .i64 er2]) ∧ Below w.heap.size w w' := by
  have h0 := SD.start w #[.string t0, .string t1, .int .i64 n2, .int .i64 n3, .bool b4, .int .i64 n5, .int .i64 n6, .bool b7, .int .i64 n8, .bool b9, .bool b10] #[.int .i64 c, .int .i64 e] #[.int .i64 0, .int .i64 0]
  go_enter Tryz.func50, Tryz.ntmps50
  go_upto_region 2 with fail
  generalize (((w.alloc (.cells #[.string t0, .string t1, .int .i64 n2, .int .i64 n3, .bool b4, .int .i64 n5, .int .i64 n6, .bool b7, .int .i64 n8, .bool b9, .bool b10] 33)).alloc (.cells #[.int .i64 c, .int .i64 e] 38)).alloc (.cells #[.int .i64 0, .int .i64 0] 38)) = W at *
  obtain ⟨d0, d1⟩ := h0.2.1.duo
  have df := h0.2.1.frozen
  have dl := h0.2.1.lt
  obtain ⟨s0, s1, s2, s3, s4, s5, s6, s7, s8, s9, s10⟩ := h0.1.sec
  clear s0 s1 s2 s3 s4 s6 s7 s9 s10
  obtain ⟨z0, z1⟩ := h0.2.2.1.duo
  have zf := h0.2.2.1.frozen
  have zl := h0.2.2.1.lt
  have hw8 : wrap64 (2 * n8) = 2 * n8 := by unfold wrap64; omega
  go_wp2_with fail
  refine Calls.mono (HS _).out ?_
  rintro _ w1 ⟨rfl, lh1⟩
  have h1 := h0.next lh1
  clear lh1 HS
  clear d0 d1 df dl s5 s8 z0 z1 zf zl
  obtain ⟨d0, d1⟩ := h1.2.1.duo
  have df := h1.2.1.frozen
  have dl := h1.2.1.lt
  obtain ⟨s0, s1, s2, s3, s4, s5, s6, s7, s8, s9, s10⟩ := h1.1.sec
  clear s0 s1 s2 s3 s4 s6 s7 s9 s10
  obtain ⟨z0, z1⟩ := h1.2.2.1.duo
  have zf := h1.2.2.1.frozen
  have zl := h1.2.2.1.lt
  go_wp2_with fail
  refine Calls.mono (HN _).out ?_
  rintro _ w2 ⟨rfl, lh2⟩
  have h2 := h1.next lh2
  clear lh2 HN
  have h3 := h2.setD (.int .i64 c1) (.int .i64 e1)
  clear d0 d1 df dl s5 s8 z0 z1 zf zl
  obtain ⟨d0, d1⟩ := h2.2.1.duo
  have df := h2.2.1.frozen
  have dl := h2.2.1.lt
  go_upto_region 4 with fail
  generalize ((w2.setCell ⟨w.heap.size + 1, 0, none⟩ (.int .i64 c1)).setCell ⟨w.heap.size + 1, 1, none⟩ (.int .i64 e1)) = w3 at *
  clear d0 d1 df dl
  obtain ⟨d0, d1⟩ := h3.2.1.duo
  have df := h3.2.1.frozen
  have dl := h3.2.1.lt
  obtain ⟨s0, s1, s2, s3, s4, s5, s6, s7, s8, s9, s10⟩ := h3.1.sec
  clear s0 s1 s2 s3 s4 s6 s7 s9 s10
  obtain ⟨z0, z1⟩ := h3.2.2.1.duo
  have zf := h3.2.2.1.frozen
  have zl := h3.2.2.1.lt
  go_wp2_with fail
  refine Calls.mono (HM _).out ?_
  rintro _ w4 ⟨rfl, lh4⟩
  have h4 := h3.next lh4
  clear lh4 HM
  have h5 := h4.setD (.int .i64 c2) (.int .i64 e2)
  clear d0 d1 df dl s5 s8 z0 z1 zf zl
  obtain ⟨d0, d1⟩ := h4.2.1.duo
  have df := h4.2.1.frozen
  have dl := h4.2.1.lt
  go_upto_region 6 with fail
  generalize ((w4.setCell ⟨w.heap.size + 1, 0, none⟩ (.int .i64 c2)).setCell ⟨w.heap.size + 1, 1, none⟩ (.int .i64 e2)) = w5 at *
  clear d0 d1 df dl
  obtain ⟨d0, d1⟩ := h5.2.1.duo
  have df := h5.2.1.frozen
  have dl := h5.2.1.lt
  obtain ⟨s0, s1, s2, s3, s4, s5, s6, s7, s8, s9, s10⟩ := h5.1.sec
  clear s0 s1 s2 s3 s4 s6 s7 s9 s10
  obtain ⟨z0, z1⟩ := h5.2.2.1.duo
  have zf := h5.2.2.1.frozen
  have zl := h5.2.2.1.lt
  go_wp2
  exact bodyPost_ret (ret_two rfl (g := w.heap.size + 2) rfl rfl (load23 (h5.setZ _ _).2.2.1 rfl)) rfl ⟨rfl, (h5.setZ _ _).2.2.2⟩
set_option maxRecDepth 100000 in
set_option maxHeartbeats 4000000 in
theorem scaled_neg_ok (t0 t1 : ByteArray) (n2 n3 : Int) (b4 : Bool) (n5 n6 : Int) (b7 : Bool) (n8 : Int) (b9 b10 : Bool) (c e s : Int) (c1 e1 er1 c2 e2 er2 c3 e3 er3 : Int) (HS : (∀ V, Hid (Calls Tryz.prog 48 #[.agg #[.int .i64 c, .int .i64 e]] V fun r w' => r = .returned (.int .i64 s) ∧ Below V.heap.size V w'))) (hs : s < 0) (HN : (∀ V, Hid (Calls Tryz.prog 81 #[.agg #[.int .i64 c, .int .i64 e]] V fun r w' => r = .returned (.tuple #[.agg #[.int .i64 c1, .int .i64 e1], .int .i64 er1]) ∧ Below V.heap.size V w'))) (her1 : (er1 == 0) = true) (hn8 : 0 ≤ n8 ∧ n8 ≤ 100) (HM : (∀ V, Hid (Calls Tryz.prog 82 #[.agg #[.int .i64 c1, .int .i64 e1], .agg #[.int .i64 1, .int .i64 (2 * n8)]] V fun r w' => r = .returned (.tuple #[.agg #[.int .i64 c2, .int .i64 e2], .int .i64 er2]) ∧ Below V.heap.size V w'))) (her2 : (er2 != 0) = false) (HR : (∀ V, Hid (Calls Tryz.prog 83 #[.agg #[.int .i64 c2, .int .i64 e2], .int .i64 n5] V fun r w' => r = .returned (.tuple #[.agg #[.int .i64 c3, .int .i64 e3], .int .i64 er3]) ∧ Below V.heap.size V w'))) (w : World) :
    Calls Tryz.prog 50 #[.agg #[.string t0, .string t1, .int .i64 n2, .int .i64 n3, .bool b4, .int .i64 n5, .int .i64 n6, .bool b7, .int .i64 n8, .bool b9, .bool b10], .agg #[.int .i64 c, .int .i64 e]] w fun r w' => r = .returned (.tuple #[.agg #[.int .i64 c3, .int .i64 e3], .int .i64 er3]) ∧ Below w.heap.size w w' := by
  have h0 := SD.start w #[.string t0, .string t1, .int .i64 n2, .int .i64 n3, .bool b4, .int .i64 n5, .int .i64 n6, .bool b7, .int .i64 n8, .bool b9, .bool b10] #[.int .i64 c, .int .i64 e] #[.int .i64 0, .int .i64 0]
  go_enter Tryz.func50, Tryz.ntmps50
  go_upto_region 2 with fail
  generalize (((w.alloc (.cells #[.string t0, .string t1, .int .i64 n2, .int .i64 n3, .bool b4, .int .i64 n5, .int .i64 n6, .bool b7, .int .i64 n8, .bool b9, .bool b10] 33)).alloc (.cells #[.int .i64 c, .int .i64 e] 38)).alloc (.cells #[.int .i64 0, .int .i64 0] 38)) = W at *
  obtain ⟨d0, d1⟩ := h0.2.1.duo
  have df := h0.2.1.frozen
  have dl := h0.2.1.lt
  obtain ⟨s0, s1, s2, s3, s4, s5, s6, s7, s8, s9, s10⟩ := h0.1.sec
  clear s0 s1 s2 s3 s4 s6 s7 s9 s10
  obtain ⟨z0, z1⟩ := h0.2.2.1.duo
  have zf := h0.2.2.1.frozen
  have zl := h0.2.2.1.lt
  have hw8 : wrap64 (2 * n8) = 2 * n8 := by unfold wrap64; omega
  go_wp2_with fail
  refine Calls.mono (HS _).out ?_
  rintro _ w1 ⟨rfl, lh1⟩
  have h1 := h0.next lh1
  clear lh1 HS
  clear d0 d1 df dl s5 s8 z0 z1 zf zl
  obtain ⟨d0, d1⟩ := h1.2.1.duo
  have df := h1.2.1.frozen
  have dl := h1.2.1.lt
  obtain ⟨s0, s1, s2, s3, s4, s5, s6, s7, s8, s9, s10⟩ := h1.1.sec
  clear s0 s1 s2 s3 s4 s6 s7 s9 s10
  obtain ⟨z0, z1⟩ := h1.2.2.1.duo
  have zf := h1.2.2.1.frozen
  have zl := h1.2.2.1.lt
  go_wp2_with fail
  refine Calls.mono (HN _).out ?_
  rintro _ w2 ⟨rfl, lh2⟩
  have h2 := h1.next lh2
  clear lh2 HN
  have h3 := h2.setD (.int .i64 c1) (.int .i64 e1)
  clear d0 d1 df dl s5 s8 z0 z1 zf zl
  obtain ⟨d0, d1⟩ := h2.2.1.duo
  have df := h2.2.1.frozen
  have dl := h2.2.1.lt
  go_upto_region 4 with fail
  generalize ((w2.setCell ⟨w.heap.size + 1, 0, none⟩ (.int .i64 c1)).setCell ⟨w.heap.size + 1, 1, none⟩ (.int .i64 e1)) = w3 at *
  clear d0 d1 df dl
  obtain ⟨d0, d1⟩ := h3.2.1.duo
  have df := h3.2.1.frozen
  have dl := h3.2.1.lt
  obtain ⟨s0, s1, s2, s3, s4, s5, s6, s7, s8, s9, s10⟩ := h3.1.sec
  clear s0 s1 s2 s3 s4 s6 s7 s9 s10
  obtain ⟨z0, z1⟩ := h3.2.2.1.duo
  have zf := h3.2.2.1.frozen
  have zl := h3.2.2.1.lt
  go_wp2_with fail
  refine Calls.mono (HM _).out ?_
  rintro _ w4 ⟨rfl, lh4⟩
  have h4 := h3.next lh4
  clear lh4 HM
  have h5 := h4.setD (.int .i64 c2) (.int .i64 e2)
  clear d0 d1 df dl s5 s8 z0 z1 zf zl
  obtain ⟨d0, d1⟩ := h4.2.1.duo
  have df := h4.2.1.frozen
  have dl := h4.2.1.lt
  go_upto_region 6 with fail
  generalize ((w4.setCell ⟨w.heap.size + 1, 0, none⟩ (.int .i64 c2)).setCell ⟨w.heap.size + 1, 1, none⟩ (.int .i64 e2)) = w5 at *
  clear d0 d1 df dl
  obtain ⟨d0, d1⟩ := h5.2.1.duo
  have df := h5.2.1.frozen
  have dl := h5.2.1.lt
  obtain ⟨s0, s1, s2, s3, s4, s5, s6, s7, s8, s9, s10⟩ := h5.1.sec
  clear s0 s1 s2 s3 s4 s6 s7 s9 s10
  obtain ⟨z0, z1⟩ := h5.2.2.1.duo
  have zf := h5.2.2.1.frozen
  have zl := h5.2.2.1.lt
  go_wp2_with fail
  refine Calls.mono (HR _).out ?_
  rintro _ w6 ⟨rfl, lh6⟩
  have h6 := h5.next lh6
  clear lh6 HR
  clear d0 d1 df dl s5 s8 z0 z1 zf zl
  obtain ⟨d0, d1⟩ := h6.2.1.duo
  have df := h6.2.1.frozen
  have dl := h6.2.1.lt
  obtain ⟨s0, s1, s2, s3, s4, s5, s6, s7, s8, s9, s10⟩ := h6.1.sec
  clear s0 s1 s2 s3 s4 s6 s7 s9 s10
  obtain ⟨z0, z1⟩ := h6.2.2.1.duo
  have zf := h6.2.2.1.frozen
  have zl := h6.2.2.1.lt
  go_wp2
  exact bodyPost_ret (ret_two rfl (g := w.heap.size + 2) rfl rfl (load23 (h6.setZ _ _).2.2.1 rfl)) rfl ⟨rfl, (h6.setZ _ _).2.2.2⟩
set_option maxRecDepth 100000 in
set_option maxHeartbeats 4000000 in
theorem scaled_pos_over (t0 t1 : ByteArray) (n2 n3 : Int) (b4 : Bool) (n5 n6 : Int) (b7 : Bool) (n8 : Int) (b9 b10 : Bool) (c e s : Int) (c2 e2 er2 : Int) (HS : (∀ V, Hid (Calls Tryz.prog 48 #[.agg #[.int .i64 c, .int .i64 e]] V fun r w' => r = .returned (.int .i64 s) ∧ Below V.heap.size V w'))) (hs : ¬ s < 0) (hn8 : 0 ≤ n8 ∧ n8 ≤ 100) (HM : (∀ V, Hid (Calls Tryz.prog 82 #[.agg #[.int .i64 c, .int .i64 e], .agg #[.int .i64 1, .int .i64 (2 * n8)]] V fun r w' => r = .returned (.tuple #[.agg #[.int .i64 c2, .int .i64 e2], .int .i64 er2]) ∧ Below V.heap.size V w'))) (her2 : (er2 != 0) = true) (w : World) :
    Calls Tryz.prog 50 #[.agg #[.string t0, .string t1, .int .i64 n2, .int .i64 n3, .bool b4, .int .i64 n5, .int .i64 n6, .bool b7, .int .i64 n8, .bool b9, .bool b10], .agg #[.int .i64 c, .int .i64 e]] w fun r w' => r = .returned (.tuple #[.agg #[.int .i64 0, .int .i64 0], .int .i64 er2]) ∧ Below w.heap.size w w' := by
  have h0 := SD.start w #[.string t0, .string t1, .int .i64 n2, .int .i64 n3, .bool b4, .int .i64 n5, .int .i64 n6, .bool b7, .int .i64 n8, .bool b9, .bool b10] #[.int .i64 c, .int .i64 e] #[.int .i64 0, .int .i64 0]
  go_enter Tryz.func50, Tryz.ntmps50
  go_upto_region 2 with fail
  generalize (((w.alloc (.cells #[.string t0, .string t1, .int .i64 n2, .int .i64 n3, .bool b4, .int .i64 n5, .int .i64 n6, .bool b7, .int .i64 n8, .bool b9, .bool b10] 33)).alloc (.cells #[.int .i64 c, .int .i64 e] 38)).alloc (.cells #[.int .i64 0, .int .i64 0] 38)) = W at *
  obtain ⟨d0, d1⟩ := h0.2.1.duo
  have df := h0.2.1.frozen
  have dl := h0.2.1.lt
  obtain ⟨s0, s1, s2, s3, s4, s5, s6, s7, s8, s9, s10⟩ := h0.1.sec
  clear s0 s1 s2 s3 s4 s6 s7 s9 s10
  obtain ⟨z0, z1⟩ := h0.2.2.1.duo
  have zf := h0.2.2.1.frozen
  have zl := h0.2.2.1.lt
  have hw8 : wrap64 (2 * n8) = 2 * n8 := by unfold wrap64; omega
  go_wp2_with fail
  refine Calls.mono (HS _).out ?_
  rintro _ w1 ⟨rfl, lh1⟩
  have h1 := h0.next lh1
  clear lh1 HS
  clear d0 d1 df dl s5 s8 z0 z1 zf zl
  obtain ⟨d0, d1⟩ := h1.2.1.duo
  have df := h1.2.1.frozen
  have dl := h1.2.1.lt
  obtain ⟨s0, s1, s2, s3, s4, s5, s6, s7, s8, s9, s10⟩ := h1.1.sec
  clear s0 s1 s2 s3 s4 s6 s7 s9 s10
  obtain ⟨z0, z1⟩ := h1.2.2.1.duo
  have zf := h1.2.2.1.frozen
  have zl := h1.2.2.1.lt
  go_wp2_with fail
  refine Calls.mono (HM _).out ?_
  rintro _ w4 ⟨rfl, lh4⟩
  have h4 := h1.next lh4
  clear lh4 HM
  have h5 := h4.setD (.int .i64 c2) (.int .i64 e2)
  clear d0 d1 df dl s5 s8 z0 z1 zf zl
  obtain ⟨d0, d1⟩ := h4.2.1.duo
  have df := h4.2.1.frozen
  have dl := h4.2.1.lt
  go_upto_region 6 with fail
  generalize ((w4.setCell ⟨w.heap.size + 1, 0, none⟩ (.int .i64 c2)).setCell ⟨w.heap.size + 1, 1, none⟩ (.int .i64 e2)) = w5 at *
  clear d0 d1 df dl
  obtain ⟨d0, d1⟩ := h5.2.1.duo
  have df := h5.2.1.frozen
  have dl := h5.2.1.lt
  obtain ⟨s0, s1, s2, s3, s4, s5, s6, s7, s8, s9, s10⟩ := h5.1.sec
  clear s0 s1 s2 s3 s4 s6 s7 s9 s10
  obtain ⟨z0, z1⟩ := h5.2.2.1.duo
  have zf := h5.2.2.1.frozen
  have zl := h5.2.2.1.lt
  go_wp2
  exact bodyPost_ret (ret_two rfl (g := w.heap.size + 2) rfl rfl (load23 (h5.setZ _ _).2.2.1 rfl)) rfl ⟨rfl, (h5.setZ _ _).2.2.2⟩
set_option maxRecDepth 100000 in
set_option maxHeartbeats 4000000 in
theorem scaled_pos_ok (t0 t1 : ByteArray) (n2 n3 : Int) (b4 : Bool) (n5 n6 : Int) (b7 : Bool) (n8 : Int) (b9 b10 : Bool) (c e s : Int) (c2 e2 er2 c3 e3 er3 : Int) (HS : (∀ V, Hid (Calls Tryz.prog 48 #[.agg #[.int .i64 c, .int .i64 e]] V fun r w' => r = .returned (.int .i64 s) ∧ Below V.heap.size V w'))) (hs : ¬ s < 0) (hn8 : 0 ≤ n8 ∧ n8 ≤ 100) (HM : (∀ V, Hid (Calls Tryz.prog 82 #[.agg #[.int .i64 c, .int .i64 e], .agg #[.int .i64 1, .int .i64 (2 * n8)]] V fun r w' => r = .returned (.tuple #[.agg #[.int .i64 c2, .int .i64 e2], .int .i64 er2]) ∧ Below V.heap.size V w'))) (her2 : (er2 != 0) = false) (HR : (∀ V, Hid (Calls Tryz.prog 83 #[.agg #[.int .i64 c2, .int .i64 e2], .int .i64 n5] V fun r w' => r = .returned (.tuple #[.agg #[.int .i64 c3, .int .i64 e3], .int .i64 er3]) ∧ Below V.heap.size V w'))) (w : World) :
    Calls Tryz.prog 50 #[.agg #[.string t0, .string t1, .int .i64 n2, .int .i64 n3, .bool b4, .int .i64 n5, .int .i64 n6, .bool b7, .int .i64 n8, .bool b9, .bool b10], .agg #[.int .i64 c, .int .i64 e]] w fun r w' => r = .returned (.tuple #[.agg #[.int .i64 c3, .int .i64 e3], .int .i64 er3]) ∧ Below w.heap.size w w' := by
  have h0 := SD.start w #[.string t0, .string t1, .int .i64 n2, .int .i64 n3, .bool b4, .int .i64 n5, .int .i64 n6, .bool b7, .int .i64 n8, .bool b9, .bool b10] #[.int .i64 c, .int .i64 e] #[.int .i64 0, .int .i64 0]
  go_enter Tryz.func50, Tryz.ntmps50
  go_upto_region 2 with fail
  generalize (((w.alloc (.cells #[.string t0, .string t1, .int .i64 n2, .int .i64 n3, .bool b4, .int .i64 n5, .int .i64 n6, .bool b7, .int .i64 n8, .bool b9, .bool b10] 33)).alloc (.cells #[.int .i64 c, .int .i64 e] 38)).alloc (.cells #[.int .i64 0, .int .i64 0] 38)) = W at *
  obtain ⟨d0, d1⟩ := h0.2.1.duo
  have df := h0.2.1.frozen
  have dl := h0.2.1.lt
  obtain ⟨s0, s1, s2, s3, s4, s5, s6, s7, s8, s9, s10⟩ := h0.1.sec
  clear s0 s1 s2 s3 s4 s6 s7 s9 s10
  obtain ⟨z0, z1⟩ := h0.2.2.1.duo
  have zf := h0.2.2.1.frozen
  have zl := h0.2.2.1.lt
  have hw8 : wrap64 (2 * n8) = 2 * n8 := by unfold wrap64; omega
  go_wp2_with fail
  refine Calls.mono (HS _).out ?_
  rintro _ w1 ⟨rfl, lh1⟩
  have h1 := h0.next lh1
  clear lh1 HS
  clear d0 d1 df dl s5 s8 z0 z1 zf zl
  obtain ⟨d0, d1⟩ := h1.2.1.duo
  have df := h1.2.1.frozen
  have dl := h1.2.1.lt
  obtain ⟨s0, s1, s2, s3, s4, s5, s6, s7, s8, s9, s10⟩ := h1.1.sec
  clear s0 s1 s2 s3 s4 s6 s7 s9 s10
  obtain ⟨z0, z1⟩ := h1.2.2.1.duo
  have zf := h1.2.2.1.frozen
  have zl := h1.2.2.1.lt
  go_wp2_with fail
  refine Calls.mono (HM _).out ?_
  rintro _ w4 ⟨rfl, lh4⟩
  have h4 := h1.next lh4
  clear lh4 HM
  have h5 := h4.setD (.int .i64 c2) (.int .i64 e2)
  clear d0 d1 df dl s5 s8 z0 z1 zf zl
  obtain ⟨d0, d1⟩ := h4.2.1.duo
  have df := h4.2.1.frozen
  have dl := h4.2.1.lt
  go_upto_region 6 with fail
  generalize ((w4.setCell ⟨w.heap.size + 1, 0, none⟩ (.int .i64 c2)).setCell ⟨w.heap.size + 1, 1, none⟩ (.int .i64 e2)) = w5 at *
  clear d0 d1 df dl
  obtain ⟨d0, d1⟩ := h5.2.1.duo
  have df := h5.2.1.frozen
  have dl := h5.2.1.lt
  obtain ⟨s0, s1, s2, s3, s4, s5, s6, s7, s8, s9, s10⟩ := h5.1.sec
  clear s0 s1 s2 s3 s4 s6 s7 s9 s10
  obtain ⟨z0, z1⟩ := h5.2.2.1.duo
  have zf := h5.2.2.1.frozen
  have zl := h5.2.2.1.lt
  go_wp2_with fail
  refine Calls.mono (HR _).out ?_
  rintro _ w6 ⟨rfl, lh6⟩
  have h6 := h5.next lh6
  clear lh6 HR
  clear d0 d1 df dl s5 s8 z0 z1 zf zl
  obtain ⟨d0, d1⟩ := h6.2.1.duo
  have df := h6.2.1.frozen
  have dl := h6.2.1.lt
  obtain ⟨s0, s1, s2, s3, s4, s5, s6, s7, s8, s9, s10⟩ := h6.1.sec
  clear s0 s1 s2 s3 s4 s6 s7 s9 s10
  obtain ⟨z0, z1⟩ := h6.2.2.1.duo
  have zf := h6.2.2.1.frozen
  have zl := h6.2.2.1.lt
  go_wp2
  exact bodyPost_ret (ret_two rfl (g := w.heap.size + 2) rfl rfl (load23 (h6.setZ _ _).2.2.1 rfl)) rfl ⟨rfl, (h6.setZ _ _).2.2.2⟩
end Go.Proofs.YtoncpcdepemlcaaGreatDoor
/- numfmt: the figures of a number. -/
namespace Go.Proofs.YtoncpcdepemlcaaGreatDoor
open Go.RowKit Go.Shelf

def FD (w W : World) (x d : Array Value) : Prop := Row W w.heap.size 33 x ∧ Row W (w.heap.size + 1) 38 d ∧ Below w.heap.size w W
theorem FD.start (w : World) (x d : Array Value) : FD w ((w.alloc (.cells x 33)).alloc (.cells d 38)) x d :=
  ⟨(Row.new w 33 x).alloc _, Row.new1 w _ 38 d, below_allocS (below_allocS (Below.refl _ w) _) _⟩
theorem FD.next {w W W' : World} {x d : Array Value} (h : FD w W x d) (b : Below W.heap.size W W') : FD w W' x d :=
  ⟨h.1.below b h.1.lt, h.2.1.below b h.2.1.lt, h.2.2.trans (b.mono h.2.2.size)⟩
theorem FD.dN {w W : World} {x d : Array Value} (h : FD w W x d) (n : Nat) : FD w (W.drewN n) x d :=
  ⟨h.1, h.2.1, ⟨h.2.2.os, h.2.2.tape, h.2.2.output, h.2.2.size, h.2.2.block⟩⟩
theorem MaxAt.below {w W : World} (h : MaxAt w) (h3 : 2 < w.heap.size) (b : Below w.heap.size w W) : MaxAt W := h.kept (Kept.of_below (S := fun k => k < w.heap.size) b (fun _ h => h)) h3
set_option maxRecDepth 100000 in
set_option maxHeartbeats 1000000 in
theorem fig_no (t0 t1 : ByteArray) (n2 n3 n5 n6 n8 : Int) (b10 : Bool) (b4 b7 : Bool) (c e : Int) (w : World) : Calls Tryz.prog 51 #[.agg #[.string t0, .string t1, .int .i64 n2, .int .i64 n3, .bool b4, .int .i64 n5, .int .i64 n6, .bool b7, .int .i64 n8, .bool false, .bool b10], .agg #[.int .i64 c, .int .i64 e]] w fun r w' => r = .returned (.string (bs [])) ∧ Below w.heap.size w w' := by
  have h0 := FD.start w #[.string t0, .string t1, .int .i64 n2, .int .i64 n3, .bool b4, .int .i64 n5, .int .i64 n6, .bool b7, .int .i64 n8, .bool false, .bool b10] #[.int .i64 c, .int .i64 e]
  go_enter Tryz.func51, Tryz.ntmps51
  go_upto_region 1 with fail
  generalize (w.alloc (.cells #[.string t0, .string t1, .int .i64 n2, .int .i64 n3, .bool b4, .int .i64 n5, .int .i64 n6, .bool b7, .int .i64 n8, .bool false, .bool b10] 33)).alloc (.cells #[.int .i64 c, .int .i64 e] 38) = W at *
  obtain ⟨s0, s1, s2, s3, s4, s5, s6, s7, s8, s9, s10⟩ := h0.1.sec
  clear s0 s1 s2 s5 s8 s10
  obtain ⟨d0, d1⟩ := h0.2.1.duo
  go_wp2
  go_ret
  exact ⟨rfl, h0.2.2⟩
set_option maxRecDepth 100000 in
set_option maxHeartbeats 4000000 in
theorem fig_fff (t0 t1 : ByteArray) (n2 n3 n5 n6 n8 : Int) (b10 : Bool) (c e : Int) (P A B N1 W1 : List UInt8) (f : Bool)
    (HP : ∀ V, PTab V → Hid (Calls Tryz.prog 77 #[.agg #[.int .i64 c, .int .i64 e]] V fun r w' => r = .returned (.string (bs P)) ∧ Below V.heap.size V w'))
    (HC : ∀ V, MaxAt V → Hid (Calls Tryz.prog 84 #[.string (bs P), .string ⟨#[46]⟩] V fun r w' => r = .returned (.tuple #[.string (bs A), .string (bs B), .bool f]) ∧ ∃ n, w' = V.drewN n))
    (hA : ((bs A).toList == [48]) = false) (hA1 : A.length ≤ 100) (_hB1 : B.length ≤ 100) (hn3 : 0 ≤ n3 ∧ n3 ≤ 100) (_hn6 : 0 ≤ n6 ∧ n6 ≤ 100)
    (HN1 : (∀ V, Hid (Calls Tryz.prog 85 #[.int .i64 (n3 - (A.length : Int))] V fun r w' => r = .returned (.string (bs N1)) ∧ Below V.heap.size V w'))) (hN1 : N1.length ≤ 200) (hj1 : bs N1 ++ bs A = bs W1) (w : World) (hT : PTab w) (hM : MaxAt w) (h3 : 2 < w.heap.size) :
    Calls Tryz.prog 51 #[.agg #[.string t0, .string t1, .int .i64 n2, .int .i64 n3, .bool false, .int .i64 n5, .int .i64 n6, .bool false, .int .i64 n8, .bool true, .bool b10], .agg #[.int .i64 c, .int .i64 e]] w fun r w' => r = .returned (.string (bs W1)) ∧ Below w.heap.size w w' := by
  have h0 := FD.start w #[.string t0, .string t1, .int .i64 n2, .int .i64 n3, .bool false, .int .i64 n5, .int .i64 n6, .bool false, .int .i64 n8, .bool true, .bool b10] #[.int .i64 c, .int .i64 e]
  have sA : (bs A).size = A.length := bs_size A
  have sB : (bs B).size = B.length := bs_size B
  have kN1 : (bs N1).size ≤ 1000 := by rw [bs_size]; omega
  have kA : (bs A).size ≤ 1000 := by rw [bs_size]; omega
  go_enter Tryz.func51, Tryz.ntmps51
  go_upto_region 1 with fail
  generalize (w.alloc (.cells #[.string t0, .string t1, .int .i64 n2, .int .i64 n3, .bool false, .int .i64 n5, .int .i64 n6, .bool false, .int .i64 n8, .bool true, .bool b10] 33)).alloc (.cells #[.int .i64 c, .int .i64 e] 38) = W at *
  obtain ⟨s0, s1, s2, s3, s4, s5, s6, s7, s8, s9, s10⟩ := h0.1.sec
  clear s0 s1 s2 s5 s8 s10
  obtain ⟨d0, d1⟩ := h0.2.1.duo
  go_wp2_with fail
  refine Calls.mono (HP _ (hT.below h0.2.2)).out ?_
  rintro _ w1 ⟨rfl, l1⟩
  have h1 := h0.next l1
  clear l1 HP
  clear s3 s4 s6 s7 s9 d0 d1
  go_wp2_with fail
  refine Calls.mono (HC _ (hM.below h3 h1.2.2)).out ?_
  rintro _ w2 ⟨rfl, n, hw2⟩
  rw [hw2]
  have h2 := h1.dN n
  clear hw2 HC
  generalize w1.drewN n = w2 at *
  obtain ⟨s0, s1, s2, s3, s4, s5, s6, s7, s8, s9, s10⟩ := h2.1.sec
  clear s0 s1 s2 s5 s8 s10
  obtain ⟨d0, d1⟩ := h2.2.1.duo
  go_wp2_with fail
  refine Calls.mono (HN1 _).out ?_
  rintro _ w3 ⟨rfl, l3⟩
  have h4 := h2.next l3
  clear l3 HN1
  clear s3 s4 s6 s7 s9 d0 d1
  obtain ⟨s0, s1, s2, s3, s4, s5, s6, s7, s8, s9, s10⟩ := h4.1.sec
  clear s0 s1 s2 s5 s8 s10
  obtain ⟨d0, d1⟩ := h4.2.1.duo
  go_wp2
  go_ret
  exact ⟨rfl, h4.2.2⟩
set_option maxRecDepth 100000 in
set_option maxHeartbeats 4000000 in
theorem fig_fft (t0 t1 : ByteArray) (n2 n3 n5 n6 n8 : Int) (b10 : Bool) (c e : Int) (P A B N1 W1 : List UInt8) (f : Bool) (W3 W4 N2 W5 : List UInt8)
    (HP : ∀ V, PTab V → Hid (Calls Tryz.prog 77 #[.agg #[.int .i64 c, .int .i64 e]] V fun r w' => r = .returned (.string (bs P)) ∧ Below V.heap.size V w'))
    (HC : ∀ V, MaxAt V → Hid (Calls Tryz.prog 84 #[.string (bs P), .string ⟨#[46]⟩] V fun r w' => r = .returned (.tuple #[.string (bs A), .string (bs B), .bool f]) ∧ ∃ n, w' = V.drewN n))
    (hA : ((bs A).toList == [48]) = false) (hA1 : A.length ≤ 100) (hB1 : B.length ≤ 100) (hn3 : 0 ≤ n3 ∧ n3 ≤ 100) (hn6 : 0 ≤ n6 ∧ n6 ≤ 100)
    (HN1 : (∀ V, Hid (Calls Tryz.prog 85 #[.int .i64 (n3 - (A.length : Int))] V fun r w' => r = .returned (.string (bs N1)) ∧ Below V.heap.size V w'))) (hN1 : N1.length ≤ 200) (hj1 : bs N1 ++ bs A = bs W1) (hW2 : W1.length ≤ 600) (hj2 : bs W1 ++ ⟨#[46]⟩ = bs W3) (hW3 : W3.length ≤ 700) (hj3 : bs W3 ++ bs B = bs W4) (hW4 : W4.length ≤ 800) (HN2 : (∀ V, Hid (Calls Tryz.prog 85 #[.int .i64 (n6 - (B.length : Int))] V fun r w' => r = .returned (.string (bs N2)) ∧ Below V.heap.size V w'))) (hN2 : N2.length ≤ 200) (hj4 : bs W4 ++ bs N2 = bs W5) (w : World) (hT : PTab w) (hM : MaxAt w) (h3 : 2 < w.heap.size) :
    Calls Tryz.prog 51 #[.agg #[.string t0, .string t1, .int .i64 n2, .int .i64 n3, .bool true, .int .i64 n5, .int .i64 n6, .bool false, .int .i64 n8, .bool true, .bool b10], .agg #[.int .i64 c, .int .i64 e]] w fun r w' => r = .returned (.string (bs W5)) ∧ Below w.heap.size w w' := by
  have h0 := FD.start w #[.string t0, .string t1, .int .i64 n2, .int .i64 n3, .bool true, .int .i64 n5, .int .i64 n6, .bool false, .int .i64 n8, .bool true, .bool b10] #[.int .i64 c, .int .i64 e]
  have sA : (bs A).size = A.length := bs_size A
  have sB : (bs B).size = B.length := bs_size B
  have kN1 : (bs N1).size ≤ 1000 := by rw [bs_size]; omega
  have kA : (bs A).size ≤ 1000 := by rw [bs_size]; omega
  have kW2 : (bs W1).size ≤ 1000 := by rw [bs_size]; omega
  have kW3 : (bs W3).size ≤ 1000 := by rw [bs_size]; omega
  have kW4 : (bs W4).size ≤ 1000 := by rw [bs_size]; omega
  have kN2 : (bs N2).size ≤ 1000 := by rw [bs_size]; omega
  have kB : (bs B).size ≤ 1000 := by rw [bs_size]; omega
  go_enter Tryz.func51, Tryz.ntmps51
  go_upto_region 1 with fail
  generalize (w.alloc (.cells #[.string t0, .string t1, .int .i64 n2, .int .i64 n3, .bool true, .int .i64 n5, .int .i64 n6, .bool false, .int .i64 n8, .bool true, .bool b10] 33)).alloc (.cells #[.int .i64 c, .int .i64 e] 38) = W at *
  obtain ⟨s0, s1, s2, s3, s4, s5, s6, s7, s8, s9, s10⟩ := h0.1.sec
  clear s0 s1 s2 s5 s8 s10
  obtain ⟨d0, d1⟩ := h0.2.1.duo
  go_wp2_with fail
  refine Calls.mono (HP _ (hT.below h0.2.2)).out ?_
  rintro _ w1 ⟨rfl, l1⟩
  have h1 := h0.next l1
  clear l1 HP
  clear s3 s4 s6 s7 s9 d0 d1
  go_wp2_with fail
  refine Calls.mono (HC _ (hM.below h3 h1.2.2)).out ?_
  rintro _ w2 ⟨rfl, n, hw2⟩
  rw [hw2]
  have h2 := h1.dN n
  clear hw2 HC
  generalize w1.drewN n = w2 at *
  obtain ⟨s0, s1, s2, s3, s4, s5, s6, s7, s8, s9, s10⟩ := h2.1.sec
  clear s0 s1 s2 s5 s8 s10
  obtain ⟨d0, d1⟩ := h2.2.1.duo
  go_wp2_with fail
  refine Calls.mono (HN1 _).out ?_
  rintro _ w3 ⟨rfl, l3⟩
  have h4 := h2.next l3
  clear l3 HN1
  clear s3 s4 s6 s7 s9 d0 d1
  obtain ⟨s0, s1, s2, s3, s4, s5, s6, s7, s8, s9, s10⟩ := h4.1.sec
  clear s0 s1 s2 s5 s8 s10
  obtain ⟨d0, d1⟩ := h4.2.1.duo
  go_wp2_with fail
  refine Calls.mono (HN2 _).out ?_
  rintro _ w6 ⟨rfl, l6⟩
  have h6 := h4.next l6
  clear l6 HN2
  clear s3 s4 s6 s7 s9 d0 d1
  go_wp2
  go_ret
  exact ⟨rfl, h6.2.2⟩
set_option maxRecDepth 100000 in
set_option maxHeartbeats 4000000 in
theorem fig_ftf (t0 t1 : ByteArray) (n2 n3 n5 n6 n8 : Int) (b10 : Bool) (c e : Int) (P A B N1 W1 : List UInt8) (f : Bool) (W2 : List UInt8)
    (HP : ∀ V, PTab V → Hid (Calls Tryz.prog 77 #[.agg #[.int .i64 c, .int .i64 e]] V fun r w' => r = .returned (.string (bs P)) ∧ Below V.heap.size V w'))
    (HC : ∀ V, MaxAt V → Hid (Calls Tryz.prog 84 #[.string (bs P), .string ⟨#[46]⟩] V fun r w' => r = .returned (.tuple #[.string (bs A), .string (bs B), .bool f]) ∧ ∃ n, w' = V.drewN n))
    (hA : ((bs A).toList == [48]) = false) (hA1 : A.length ≤ 100) (_hB1 : B.length ≤ 100) (hn3 : 0 ≤ n3 ∧ n3 ≤ 100) (_hn6 : 0 ≤ n6 ∧ n6 ≤ 100)
    (HN1 : (∀ V, Hid (Calls Tryz.prog 85 #[.int .i64 (n3 - (A.length : Int))] V fun r w' => r = .returned (.string (bs N1)) ∧ Below V.heap.size V w'))) (hN1 : N1.length ≤ 200) (hj1 : bs N1 ++ bs A = bs W1) (_hW1 : W1.length ≤ 300) (HG : (∀ V, Hid (Calls Tryz.prog 86 #[.string (bs W1)] V fun r w' => r = .returned (.string (bs W2)) ∧ Below V.heap.size V w'))) (w : World) (hT : PTab w) (hM : MaxAt w) (h3 : 2 < w.heap.size) :
    Calls Tryz.prog 51 #[.agg #[.string t0, .string t1, .int .i64 n2, .int .i64 n3, .bool false, .int .i64 n5, .int .i64 n6, .bool true, .int .i64 n8, .bool true, .bool b10], .agg #[.int .i64 c, .int .i64 e]] w fun r w' => r = .returned (.string (bs W2)) ∧ Below w.heap.size w w' := by
  have h0 := FD.start w #[.string t0, .string t1, .int .i64 n2, .int .i64 n3, .bool false, .int .i64 n5, .int .i64 n6, .bool true, .int .i64 n8, .bool true, .bool b10] #[.int .i64 c, .int .i64 e]
  have sA : (bs A).size = A.length := bs_size A
  have sB : (bs B).size = B.length := bs_size B
  have kN1 : (bs N1).size ≤ 1000 := by rw [bs_size]; omega
  have kA : (bs A).size ≤ 1000 := by rw [bs_size]; omega
  go_enter Tryz.func51, Tryz.ntmps51
  go_upto_region 1 with fail
  generalize (w.alloc (.cells #[.string t0, .string t1, .int .i64 n2, .int .i64 n3, .bool false, .int .i64 n5, .int .i64 n6, .bool true, .int .i64 n8, .bool true, .bool b10] 33)).alloc (.cells #[.int .i64 c, .int .i64 e] 38) = W at *
  obtain ⟨s0, s1, s2, s3, s4, s5, s6, s7, s8, s9, s10⟩ := h0.1.sec
  clear s0 s1 s2 s5 s8 s10
  obtain ⟨d0, d1⟩ := h0.2.1.duo
  go_wp2_with fail
  refine Calls.mono (HP _ (hT.below h0.2.2)).out ?_
  rintro _ w1 ⟨rfl, l1⟩
  have h1 := h0.next l1
  clear l1 HP
  clear s3 s4 s6 s7 s9 d0 d1
  go_wp2_with fail
  refine Calls.mono (HC _ (hM.below h3 h1.2.2)).out ?_
  rintro _ w2 ⟨rfl, n, hw2⟩
  rw [hw2]
  have h2 := h1.dN n
  clear hw2 HC
  generalize w1.drewN n = w2 at *
  obtain ⟨s0, s1, s2, s3, s4, s5, s6, s7, s8, s9, s10⟩ := h2.1.sec
  clear s0 s1 s2 s5 s8 s10
  obtain ⟨d0, d1⟩ := h2.2.1.duo
  go_wp2_with fail
  refine Calls.mono (HN1 _).out ?_
  rintro _ w3 ⟨rfl, l3⟩
  have h4 := h2.next l3
  clear l3 HN1
  clear s3 s4 s6 s7 s9 d0 d1
  obtain ⟨s0, s1, s2, s3, s4, s5, s6, s7, s8, s9, s10⟩ := h4.1.sec
  clear s0 s1 s2 s5 s8 s10
  obtain ⟨d0, d1⟩ := h4.2.1.duo
  go_wp2_with fail
  refine Calls.mono (HG _).out ?_
  rintro _ w5 ⟨rfl, l5⟩
  have h5 := h4.next l5
  clear l5 HG
  clear s3 s4 s6 s7 s9 d0 d1
  obtain ⟨s0, s1, s2, s3, s4, s5, s6, s7, s8, s9, s10⟩ := h5.1.sec
  clear s0 s1 s2 s5 s8 s10
  obtain ⟨d0, d1⟩ := h5.2.1.duo
  go_wp2
  go_ret
  exact ⟨rfl, h5.2.2⟩
set_option maxRecDepth 100000 in
set_option maxHeartbeats 4000000 in
theorem fig_ftt (t0 t1 : ByteArray) (n2 n3 n5 n6 n8 : Int) (b10 : Bool) (c e : Int) (P A B N1 W1 : List UInt8) (f : Bool) (W2 : List UInt8) (W3 W4 N2 W5 : List UInt8)
    (HP : ∀ V, PTab V → Hid (Calls Tryz.prog 77 #[.agg #[.int .i64 c, .int .i64 e]] V fun r w' => r = .returned (.string (bs P)) ∧ Below V.heap.size V w'))
    (HC : ∀ V, MaxAt V → Hid (Calls Tryz.prog 84 #[.string (bs P), .string ⟨#[46]⟩] V fun r w' => r = .returned (.tuple #[.string (bs A), .string (bs B), .bool f]) ∧ ∃ n, w' = V.drewN n))
    (hA : ((bs A).toList == [48]) = false) (hA1 : A.length ≤ 100) (hB1 : B.length ≤ 100) (hn3 : 0 ≤ n3 ∧ n3 ≤ 100) (hn6 : 0 ≤ n6 ∧ n6 ≤ 100)
    (HN1 : (∀ V, Hid (Calls Tryz.prog 85 #[.int .i64 (n3 - (A.length : Int))] V fun r w' => r = .returned (.string (bs N1)) ∧ Below V.heap.size V w'))) (hN1 : N1.length ≤ 200) (hj1 : bs N1 ++ bs A = bs W1) (_hW1 : W1.length ≤ 300) (HG : (∀ V, Hid (Calls Tryz.prog 86 #[.string (bs W1)] V fun r w' => r = .returned (.string (bs W2)) ∧ Below V.heap.size V w'))) (hW2 : W2.length ≤ 600) (hj2 : bs W2 ++ ⟨#[46]⟩ = bs W3) (hW3 : W3.length ≤ 700) (hj3 : bs W3 ++ bs B = bs W4) (hW4 : W4.length ≤ 800) (HN2 : (∀ V, Hid (Calls Tryz.prog 85 #[.int .i64 (n6 - (B.length : Int))] V fun r w' => r = .returned (.string (bs N2)) ∧ Below V.heap.size V w'))) (hN2 : N2.length ≤ 200) (hj4 : bs W4 ++ bs N2 = bs W5) (w : World) (hT : PTab w) (hM : MaxAt w) (h3 : 2 < w.heap.size) :
    Calls Tryz.prog 51 #[.agg #[.string t0, .string t1, .int .i64 n2, .int .i64 n3, .bool true, .int .i64 n5, .int .i64 n6, .bool true, .int .i64 n8, .bool true, .bool b10], .agg #[.int .i64 c, .int .i64 e]] w fun r w' => r = .returned (.string (bs W5)) ∧ Below w.heap.size w w' := by
  have h0 := FD.start w #[.string t0, .string t1, .int .i64 n2, .int .i64 n3, .bool true, .int .i64 n5, .int .i64 n6, .bool true, .int .i64 n8, .bool true, .bool b10] #[.int .i64 c, .int .i64 e]
  have sA : (bs A).size = A.length := bs_size A
  have sB : (bs B).size = B.length := bs_size B
  have kN1 : (bs N1).size ≤ 1000 := by rw [bs_size]; omega
  have kA : (bs A).size ≤ 1000 := by rw [bs_size]; omega
  have kW2 : (bs W2).size ≤ 1000 := by rw [bs_size]; omega
  have kW3 : (bs W3).size ≤ 1000 := by rw [bs_size]; omega
  have kW4 : (bs W4).size ≤ 1000 := by rw [bs_size]; omega
  have kN2 : (bs N2).size ≤ 1000 := by rw [bs_size]; omega
  have kB : (bs B).size ≤ 1000 := by rw [bs_size]; omega
  go_enter Tryz.func51, Tryz.ntmps51
  go_upto_region 1 with fail
  generalize (w.alloc (.cells #[.string t0, .string t1, .int .i64 n2, .int .i64 n3, .bool true, .int .i64 n5, .int .i64 n6, .bool true, .int .i64 n8, .bool true, .bool b10] 33)).alloc (.cells #[.int .i64 c, .int .i64 e] 38) = W at *
  obtain ⟨s0, s1, s2, s3, s4, s5, s6, s7, s8, s9, s10⟩ := h0.1.sec
  clear s0 s1 s2 s5 s8 s10
  obtain ⟨d0, d1⟩ := h0.2.1.duo
  go_wp2_with fail
  refine Calls.mono (HP _ (hT.below h0.2.2)).out ?_
  rintro _ w1 ⟨rfl, l1⟩
  have h1 := h0.next l1
  clear l1 HP
  clear s3 s4 s6 s7 s9 d0 d1
  go_wp2_with fail
  refine Calls.mono (HC _ (hM.below h3 h1.2.2)).out ?_
  rintro _ w2 ⟨rfl, n, hw2⟩
  rw [hw2]
  have h2 := h1.dN n
  clear hw2 HC
  generalize w1.drewN n = w2 at *
  obtain ⟨s0, s1, s2, s3, s4, s5, s6, s7, s8, s9, s10⟩ := h2.1.sec
  clear s0 s1 s2 s5 s8 s10
  obtain ⟨d0, d1⟩ := h2.2.1.duo
  go_wp2_with fail
  refine Calls.mono (HN1 _).out ?_
  rintro _ w3 ⟨rfl, l3⟩
  have h4 := h2.next l3
  clear l3 HN1
  clear s3 s4 s6 s7 s9 d0 d1
  obtain ⟨s0, s1, s2, s3, s4, s5, s6, s7, s8, s9, s10⟩ := h4.1.sec
  clear s0 s1 s2 s5 s8 s10
  obtain ⟨d0, d1⟩ := h4.2.1.duo
  go_wp2_with fail
  refine Calls.mono (HG _).out ?_
  rintro _ w5 ⟨rfl, l5⟩
  have h5 := h4.next l5
  clear l5 HG
  clear s3 s4 s6 s7 s9 d0 d1
  obtain ⟨s0, s1, s2, s3, s4, s5, s6, s7, s8, s9, s10⟩ := h5.1.sec
  clear s0 s1 s2 s5 s8 s10
  obtain ⟨d0, d1⟩ := h5.2.1.duo
  go_wp2_with fail
  refine Calls.mono (HN2 _).out ?_
  rintro _ w6 ⟨rfl, l6⟩
  have h6 := h5.next l6
  clear l6 HN2
  clear s3 s4 s6 s7 s9 d0 d1
  go_wp2
  go_ret
  exact ⟨rfl, h6.2.2⟩
set_option maxRecDepth 100000 in
set_option maxHeartbeats 4000000 in
theorem fig_tff (t0 t1 : ByteArray) (n2 n3 n5 n6 n8 : Int) (b10 : Bool) (c e : Int) (P A B N1 W1 : List UInt8) (f : Bool)
    (HP : ∀ V, PTab V → Hid (Calls Tryz.prog 77 #[.agg #[.int .i64 c, .int .i64 e]] V fun r w' => r = .returned (.string (bs P)) ∧ Below V.heap.size V w'))
    (HC : ∀ V, MaxAt V → Hid (Calls Tryz.prog 84 #[.string (bs P), .string ⟨#[46]⟩] V fun r w' => r = .returned (.tuple #[.string (bs A), .string (bs B), .bool f]) ∧ ∃ n, w' = V.drewN n))
    (hA : ((bs A).toList == [48]) = true) (hA1 : A.length ≤ 100) (_hB1 : B.length ≤ 100) (hn3 : 0 ≤ n3 ∧ n3 ≤ 100) (_hn6 : 0 ≤ n6 ∧ n6 ≤ 100)
    (HN1 : (∀ V, Hid (Calls Tryz.prog 85 #[.int .i64 n3] V fun r w' => r = .returned (.string (bs N1)) ∧ Below V.heap.size V w'))) (hN1 : N1.length ≤ 200) (hj1 : bs N1 ++ ⟨#[]⟩ = bs W1) (w : World) (hT : PTab w) (hM : MaxAt w) (h3 : 2 < w.heap.size) :
    Calls Tryz.prog 51 #[.agg #[.string t0, .string t1, .int .i64 n2, .int .i64 n3, .bool false, .int .i64 n5, .int .i64 n6, .bool false, .int .i64 n8, .bool true, .bool b10], .agg #[.int .i64 c, .int .i64 e]] w fun r w' => r = .returned (.string (bs W1)) ∧ Below w.heap.size w w' := by
  have h0 := FD.start w #[.string t0, .string t1, .int .i64 n2, .int .i64 n3, .bool false, .int .i64 n5, .int .i64 n6, .bool false, .int .i64 n8, .bool true, .bool b10] #[.int .i64 c, .int .i64 e]
  have sA : (bs A).size = A.length := bs_size A
  have sB : (bs B).size = B.length := bs_size B
  have kN1 : (bs N1).size ≤ 1000 := by rw [bs_size]; omega
  have kA : (bs A).size ≤ 1000 := by rw [bs_size]; omega
  go_enter Tryz.func51, Tryz.ntmps51
  go_upto_region 1 with fail
  generalize (w.alloc (.cells #[.string t0, .string t1, .int .i64 n2, .int .i64 n3, .bool false, .int .i64 n5, .int .i64 n6, .bool false, .int .i64 n8, .bool true, .bool b10] 33)).alloc (.cells #[.int .i64 c, .int .i64 e] 38) = W at *
  obtain ⟨s0, s1, s2, s3, s4, s5, s6, s7, s8, s9, s10⟩ := h0.1.sec
  clear s0 s1 s2 s5 s8 s10
  obtain ⟨d0, d1⟩ := h0.2.1.duo
  go_wp2_with fail
  refine Calls.mono (HP _ (hT.below h0.2.2)).out ?_
  rintro _ w1 ⟨rfl, l1⟩
  have h1 := h0.next l1
  clear l1 HP
  clear s3 s4 s6 s7 s9 d0 d1
  go_wp2_with fail
  refine Calls.mono (HC _ (hM.below h3 h1.2.2)).out ?_
  rintro _ w2 ⟨rfl, n, hw2⟩
  rw [hw2]
  have h2 := h1.dN n
  clear hw2 HC
  generalize w1.drewN n = w2 at *
  obtain ⟨s0, s1, s2, s3, s4, s5, s6, s7, s8, s9, s10⟩ := h2.1.sec
  clear s0 s1 s2 s5 s8 s10
  obtain ⟨d0, d1⟩ := h2.2.1.duo
  go_wp2_with fail
  refine Calls.mono (HN1 _).out ?_
  rintro _ w3 ⟨rfl, l3⟩
  have h4 := h2.next l3
  clear l3 HN1
  clear s3 s4 s6 s7 s9 d0 d1
  obtain ⟨s0, s1, s2, s3, s4, s5, s6, s7, s8, s9, s10⟩ := h4.1.sec
  clear s0 s1 s2 s5 s8 s10
  obtain ⟨d0, d1⟩ := h4.2.1.duo
  go_wp2
  go_ret
  exact ⟨rfl, h4.2.2⟩
set_option maxRecDepth 100000 in
set_option maxHeartbeats 4000000 in
theorem fig_tft (t0 t1 : ByteArray) (n2 n3 n5 n6 n8 : Int) (b10 : Bool) (c e : Int) (P A B N1 W1 : List UInt8) (f : Bool) (W3 W4 N2 W5 : List UInt8)
    (HP : ∀ V, PTab V → Hid (Calls Tryz.prog 77 #[.agg #[.int .i64 c, .int .i64 e]] V fun r w' => r = .returned (.string (bs P)) ∧ Below V.heap.size V w'))
    (HC : ∀ V, MaxAt V → Hid (Calls Tryz.prog 84 #[.string (bs P), .string ⟨#[46]⟩] V fun r w' => r = .returned (.tuple #[.string (bs A), .string (bs B), .bool f]) ∧ ∃ n, w' = V.drewN n))
    (hA : ((bs A).toList == [48]) = true) (hA1 : A.length ≤ 100) (hB1 : B.length ≤ 100) (hn3 : 0 ≤ n3 ∧ n3 ≤ 100) (hn6 : 0 ≤ n6 ∧ n6 ≤ 100)
    (HN1 : (∀ V, Hid (Calls Tryz.prog 85 #[.int .i64 n3] V fun r w' => r = .returned (.string (bs N1)) ∧ Below V.heap.size V w'))) (hN1 : N1.length ≤ 200) (hj1 : bs N1 ++ ⟨#[]⟩ = bs W1) (hW2 : W1.length ≤ 600) (hj2 : bs W1 ++ ⟨#[46]⟩ = bs W3) (hW3 : W3.length ≤ 700) (hj3 : bs W3 ++ bs B = bs W4) (hW4 : W4.length ≤ 800) (HN2 : (∀ V, Hid (Calls Tryz.prog 85 #[.int .i64 (n6 - (B.length : Int))] V fun r w' => r = .returned (.string (bs N2)) ∧ Below V.heap.size V w'))) (hN2 : N2.length ≤ 200) (hj4 : bs W4 ++ bs N2 = bs W5) (w : World) (hT : PTab w) (hM : MaxAt w) (h3 : 2 < w.heap.size) :
    Calls Tryz.prog 51 #[.agg #[.string t0, .string t1, .int .i64 n2, .int .i64 n3, .bool true, .int .i64 n5, .int .i64 n6, .bool false, .int .i64 n8, .bool true, .bool b10], .agg #[.int .i64 c, .int .i64 e]] w fun r w' => r = .returned (.string (bs W5)) ∧ Below w.heap.size w w' := by
  have h0 := FD.start w #[.string t0, .string t1, .int .i64 n2, .int .i64 n3, .bool true, .int .i64 n5, .int .i64 n6, .bool false, .int .i64 n8, .bool true, .bool b10] #[.int .i64 c, .int .i64 e]
  have sA : (bs A).size = A.length := bs_size A
  have sB : (bs B).size = B.length := bs_size B
  have kN1 : (bs N1).size ≤ 1000 := by rw [bs_size]; omega
  have kA : (bs A).size ≤ 1000 := by rw [bs_size]; omega
  have kW2 : (bs W1).size ≤ 1000 := by rw [bs_size]; omega
  have kW3 : (bs W3).size ≤ 1000 := by rw [bs_size]; omega
  have kW4 : (bs W4).size ≤ 1000 := by rw [bs_size]; omega
  have kN2 : (bs N2).size ≤ 1000 := by rw [bs_size]; omega
  have kB : (bs B).size ≤ 1000 := by rw [bs_size]; omega
  go_enter Tryz.func51, Tryz.ntmps51
  go_upto_region 1 with fail
  generalize (w.alloc (.cells #[.string t0, .string t1, .int .i64 n2, .int .i64 n3, .bool true, .int .i64 n5, .int .i64 n6, .bool false, .int .i64 n8, .bool true, .bool b10] 33)).alloc (.cells #[.int .i64 c, .int .i64 e] 38) = W at *
  obtain ⟨s0, s1, s2, s3, s4, s5, s6, s7, s8, s9, s10⟩ := h0.1.sec
  clear s0 s1 s2 s5 s8 s10
  obtain ⟨d0, d1⟩ := h0.2.1.duo
  go_wp2_with fail
  refine Calls.mono (HP _ (hT.below h0.2.2)).out ?_
  rintro _ w1 ⟨rfl, l1⟩
  have h1 := h0.next l1
  clear l1 HP
  clear s3 s4 s6 s7 s9 d0 d1
  go_wp2_with fail
  refine Calls.mono (HC _ (hM.below h3 h1.2.2)).out ?_
  rintro _ w2 ⟨rfl, n, hw2⟩
  rw [hw2]
  have h2 := h1.dN n
  clear hw2 HC
  generalize w1.drewN n = w2 at *
  obtain ⟨s0, s1, s2, s3, s4, s5, s6, s7, s8, s9, s10⟩ := h2.1.sec
  clear s0 s1 s2 s5 s8 s10
  obtain ⟨d0, d1⟩ := h2.2.1.duo
  go_wp2_with fail
  refine Calls.mono (HN1 _).out ?_
  rintro _ w3 ⟨rfl, l3⟩
  have h4 := h2.next l3
  clear l3 HN1
  clear s3 s4 s6 s7 s9 d0 d1
  obtain ⟨s0, s1, s2, s3, s4, s5, s6, s7, s8, s9, s10⟩ := h4.1.sec
  clear s0 s1 s2 s5 s8 s10
  obtain ⟨d0, d1⟩ := h4.2.1.duo
  go_wp2_with fail
  refine Calls.mono (HN2 _).out ?_
  rintro _ w6 ⟨rfl, l6⟩
  have h6 := h4.next l6
  clear l6 HN2
  clear s3 s4 s6 s7 s9 d0 d1
  go_wp2
  go_ret
  exact ⟨rfl, h6.2.2⟩
set_option maxRecDepth 100000 in
set_option maxHeartbeats 4000000 in
theorem fig_ttf (t0 t1 : ByteArray) (n2 n3 n5 n6 n8 : Int) (b10 : Bool) (c e : Int) (P A B N1 W1 : List UInt8) (f : Bool) (W2 : List UInt8)
    (HP : ∀ V, PTab V → Hid (Calls Tryz.prog 77 #[.agg #[.int .i64 c, .int .i64 e]] V fun r w' => r = .returned (.string (bs P)) ∧ Below V.heap.size V w'))
    (HC : ∀ V, MaxAt V → Hid (Calls Tryz.prog 84 #[.string (bs P), .string ⟨#[46]⟩] V fun r w' => r = .returned (.tuple #[.string (bs A), .string (bs B), .bool f]) ∧ ∃ n, w' = V.drewN n))
    (hA : ((bs A).toList == [48]) = true) (hA1 : A.length ≤ 100) (_hB1 : B.length ≤ 100) (hn3 : 0 ≤ n3 ∧ n3 ≤ 100) (_hn6 : 0 ≤ n6 ∧ n6 ≤ 100)
    (HN1 : (∀ V, Hid (Calls Tryz.prog 85 #[.int .i64 n3] V fun r w' => r = .returned (.string (bs N1)) ∧ Below V.heap.size V w'))) (hN1 : N1.length ≤ 200) (hj1 : bs N1 ++ ⟨#[]⟩ = bs W1) (_hW1 : W1.length ≤ 300) (HG : (∀ V, Hid (Calls Tryz.prog 86 #[.string (bs W1)] V fun r w' => r = .returned (.string (bs W2)) ∧ Below V.heap.size V w'))) (w : World) (hT : PTab w) (hM : MaxAt w) (h3 : 2 < w.heap.size) :
    Calls Tryz.prog 51 #[.agg #[.string t0, .string t1, .int .i64 n2, .int .i64 n3, .bool false, .int .i64 n5, .int .i64 n6, .bool true, .int .i64 n8, .bool true, .bool b10], .agg #[.int .i64 c, .int .i64 e]] w fun r w' => r = .returned (.string (bs W2)) ∧ Below w.heap.size w w' := by
  have h0 := FD.start w #[.string t0, .string t1, .int .i64 n2, .int .i64 n3, .bool false, .int .i64 n5, .int .i64 n6, .bool true, .int .i64 n8, .bool true, .bool b10] #[.int .i64 c, .int .i64 e]
  have sA : (bs A).size = A.length := bs_size A
  have sB : (bs B).size = B.length := bs_size B
  have kN1 : (bs N1).size ≤ 1000 := by rw [bs_size]; omega
  have kA : (bs A).size ≤ 1000 := by rw [bs_size]; omega
  go_enter Tryz.func51, Tryz.ntmps51
  go_upto_region 1 with fail
  generalize (w.alloc (.cells #[.string t0, .string t1, .int .i64 n2, .int .i64 n3, .bool false, .int .i64 n5, .int .i64 n6, .bool true, .int .i64 n8, .bool true, .bool b10] 33)).alloc (.cells #[.int .i64 c, .int .i64 e] 38) = W at *
  obtain ⟨s0, s1, s2, s3, s4, s5, s6, s7, s8, s9, s10⟩ := h0.1.sec
  clear s0 s1 s2 s5 s8 s10
  obtain ⟨d0, d1⟩ := h0.2.1.duo
  go_wp2_with fail
  refine Calls.mono (HP _ (hT.below h0.2.2)).out ?_
  rintro _ w1 ⟨rfl, l1⟩
  have h1 := h0.next l1
  clear l1 HP
  clear s3 s4 s6 s7 s9 d0 d1
  go_wp2_with fail
  refine Calls.mono (HC _ (hM.below h3 h1.2.2)).out ?_
  rintro _ w2 ⟨rfl, n, hw2⟩
  rw [hw2]
  have h2 := h1.dN n
  clear hw2 HC
  generalize w1.drewN n = w2 at *
  obtain ⟨s0, s1, s2, s3, s4, s5, s6, s7, s8, s9, s10⟩ := h2.1.sec
  clear s0 s1 s2 s5 s8 s10
  obtain ⟨d0, d1⟩ := h2.2.1.duo
  go_wp2_with fail
  refine Calls.mono (HN1 _).out ?_
  rintro _ w3 ⟨rfl, l3⟩
  have h4 := h2.next l3
  clear l3 HN1
  clear s3 s4 s6 s7 s9 d0 d1
  obtain ⟨s0, s1, s2, s3, s4, s5, s6, s7, s8, s9, s10⟩ := h4.1.sec
  clear s0 s1 s2 s5 s8 s10
  obtain ⟨d0, d1⟩ := h4.2.1.duo
  go_wp2_with fail
  refine Calls.mono (HG _).out ?_
  rintro _ w5 ⟨rfl, l5⟩
  have h5 := h4.next l5
  clear l5 HG
  clear s3 s4 s6 s7 s9 d0 d1
  obtain ⟨s0, s1, s2, s3, s4, s5, s6, s7, s8, s9, s10⟩ := h5.1.sec
  clear s0 s1 s2 s5 s8 s10
  obtain ⟨d0, d1⟩ := h5.2.1.duo
  go_wp2
  go_ret
  exact ⟨rfl, h5.2.2⟩
set_option maxRecDepth 100000 in
set_option maxHeartbeats 4000000 in
theorem fig_ttt (t0 t1 : ByteArray) (n2 n3 n5 n6 n8 : Int) (b10 : Bool) (c e : Int) (P A B N1 W1 : List UInt8) (f : Bool) (W2 : List UInt8) (W3 W4 N2 W5 : List UInt8)
    (HP : ∀ V, PTab V → Hid (Calls Tryz.prog 77 #[.agg #[.int .i64 c, .int .i64 e]] V fun r w' => r = .returned (.string (bs P)) ∧ Below V.heap.size V w'))
    (HC : ∀ V, MaxAt V → Hid (Calls Tryz.prog 84 #[.string (bs P), .string ⟨#[46]⟩] V fun r w' => r = .returned (.tuple #[.string (bs A), .string (bs B), .bool f]) ∧ ∃ n, w' = V.drewN n))
    (hA : ((bs A).toList == [48]) = true) (hA1 : A.length ≤ 100) (hB1 : B.length ≤ 100) (hn3 : 0 ≤ n3 ∧ n3 ≤ 100) (hn6 : 0 ≤ n6 ∧ n6 ≤ 100)
    (HN1 : (∀ V, Hid (Calls Tryz.prog 85 #[.int .i64 n3] V fun r w' => r = .returned (.string (bs N1)) ∧ Below V.heap.size V w'))) (hN1 : N1.length ≤ 200) (hj1 : bs N1 ++ ⟨#[]⟩ = bs W1) (_hW1 : W1.length ≤ 300) (HG : (∀ V, Hid (Calls Tryz.prog 86 #[.string (bs W1)] V fun r w' => r = .returned (.string (bs W2)) ∧ Below V.heap.size V w'))) (hW2 : W2.length ≤ 600) (hj2 : bs W2 ++ ⟨#[46]⟩ = bs W3) (hW3 : W3.length ≤ 700) (hj3 : bs W3 ++ bs B = bs W4) (hW4 : W4.length ≤ 800) (HN2 : (∀ V, Hid (Calls Tryz.prog 85 #[.int .i64 (n6 - (B.length : Int))] V fun r w' => r = .returned (.string (bs N2)) ∧ Below V.heap.size V w'))) (hN2 : N2.length ≤ 200) (hj4 : bs W4 ++ bs N2 = bs W5) (w : World) (hT : PTab w) (hM : MaxAt w) (h3 : 2 < w.heap.size) :
    Calls Tryz.prog 51 #[.agg #[.string t0, .string t1, .int .i64 n2, .int .i64 n3, .bool true, .int .i64 n5, .int .i64 n6, .bool true, .int .i64 n8, .bool true, .bool b10], .agg #[.int .i64 c, .int .i64 e]] w fun r w' => r = .returned (.string (bs W5)) ∧ Below w.heap.size w w' := by
  have h0 := FD.start w #[.string t0, .string t1, .int .i64 n2, .int .i64 n3, .bool true, .int .i64 n5, .int .i64 n6, .bool true, .int .i64 n8, .bool true, .bool b10] #[.int .i64 c, .int .i64 e]
  have sA : (bs A).size = A.length := bs_size A
  have sB : (bs B).size = B.length := bs_size B
  have kN1 : (bs N1).size ≤ 1000 := by rw [bs_size]; omega
  have kA : (bs A).size ≤ 1000 := by rw [bs_size]; omega
  have kW2 : (bs W2).size ≤ 1000 := by rw [bs_size]; omega
  have kW3 : (bs W3).size ≤ 1000 := by rw [bs_size]; omega
  have kW4 : (bs W4).size ≤ 1000 := by rw [bs_size]; omega
  have kN2 : (bs N2).size ≤ 1000 := by rw [bs_size]; omega
  have kB : (bs B).size ≤ 1000 := by rw [bs_size]; omega
  go_enter Tryz.func51, Tryz.ntmps51
  go_upto_region 1 with fail
  generalize (w.alloc (.cells #[.string t0, .string t1, .int .i64 n2, .int .i64 n3, .bool true, .int .i64 n5, .int .i64 n6, .bool true, .int .i64 n8, .bool true, .bool b10] 33)).alloc (.cells #[.int .i64 c, .int .i64 e] 38) = W at *
  obtain ⟨s0, s1, s2, s3, s4, s5, s6, s7, s8, s9, s10⟩ := h0.1.sec
  clear s0 s1 s2 s5 s8 s10
  obtain ⟨d0, d1⟩ := h0.2.1.duo
  go_wp2_with fail
  refine Calls.mono (HP _ (hT.below h0.2.2)).out ?_
  rintro _ w1 ⟨rfl, l1⟩
  have h1 := h0.next l1
  clear l1 HP
  clear s3 s4 s6 s7 s9 d0 d1
  go_wp2_with fail
  refine Calls.mono (HC _ (hM.below h3 h1.2.2)).out ?_
  rintro _ w2 ⟨rfl, n, hw2⟩
  rw [hw2]
  have h2 := h1.dN n
  clear hw2 HC
  generalize w1.drewN n = w2 at *
  obtain ⟨s0, s1, s2, s3, s4, s5, s6, s7, s8, s9, s10⟩ := h2.1.sec
  clear s0 s1 s2 s5 s8 s10
  obtain ⟨d0, d1⟩ := h2.2.1.duo
  go_wp2_with fail
  refine Calls.mono (HN1 _).out ?_
  rintro _ w3 ⟨rfl, l3⟩
  have h4 := h2.next l3
  clear l3 HN1
  clear s3 s4 s6 s7 s9 d0 d1
  obtain ⟨s0, s1, s2, s3, s4, s5, s6, s7, s8, s9, s10⟩ := h4.1.sec
  clear s0 s1 s2 s5 s8 s10
  obtain ⟨d0, d1⟩ := h4.2.1.duo
  go_wp2_with fail
  refine Calls.mono (HG _).out ?_
  rintro _ w5 ⟨rfl, l5⟩
  have h5 := h4.next l5
  clear l5 HG
  clear s3 s4 s6 s7 s9 d0 d1
  obtain ⟨s0, s1, s2, s3, s4, s5, s6, s7, s8, s9, s10⟩ := h5.1.sec
  clear s0 s1 s2 s5 s8 s10
  obtain ⟨d0, d1⟩ := h5.2.1.duo
  go_wp2_with fail
  refine Calls.mono (HN2 _).out ?_
  rintro _ w6 ⟨rfl, l6⟩
  have h6 := h5.next l6
  clear l6 HN2
  clear s3 s4 s6 s7 s9 d0 d1
  go_wp2
  go_ret
  exact ⟨rfl, h6.2.2⟩
end Go.Proofs.YtoncpcdepemlcaaGreatDoor
/- numfmt: a number by one of the sections. -/
namespace Go.Proofs.YtoncpcdepemlcaaGreatDoor
open Go.RowKit Go.Shelf

/-- What the calls of numfmt read of the package's variables. -/
structure EnvN (w : World) : Prop where
  env : Env w
  mx : MaxAt w
  sz : 2 < w.heap.size
theorem EnvN.next {w w' : World} (h : EnvN w) (b : Below w.heap.size w w') : EnvN w' := ⟨h.env.next b, h.mx.below h.sz b, Nat.lt_of_lt_of_le h.sz b.size⟩
def NB (w W : World) (v : Array Value) : Prop := Row W w.heap.size 40 v ∧ Below w.heap.size w W
theorem NB.next {w W W' : World} {v : Array Value} (h : NB w W v) (b : Below W.heap.size W W') : NB w W' v := ⟨h.1.below b h.1.lt, h.2.trans (b.mono h.2.size)⟩
set_option maxRecDepth 100000 in
set_option maxHeartbeats 4000000 in
theorem num_show (t0 t1 : ByteArray) (n2 n3 : Int) (b4 : Bool) (n5 n6 : Int) (b7 : Bool) (n8 : Int) (b9 b10 : Bool) (g : Option Addr) (n cap : Nat) (c e : Int) (vs : ByteArray) (vb : Bool) (vx : Int) (sg c3 e3 er : Int) (w : World) (hE : EnvN w)
    (HSg : (∀ V, Hid (Calls Tryz.prog 48 #[.agg #[.int .i64 c, .int .i64 e]] V fun r w' => r = .returned (.int .i64 sg) ∧ Below V.heap.size V w')))
    (HCh : ∀ V, Below w.heap.size w V → Hid (Calls Tryz.prog 49 #[.slice g n cap, .int .i64 sg] V fun r w' => r = .returned (.agg #[.string t0, .string t1, .int .i64 n2, .int .i64 n3, .bool b4, .int .i64 n5, .int .i64 n6, .bool b7, .int .i64 n8, .bool b9, .bool b10]) ∧ Below V.heap.size V w'))
    (HSc : (∀ V, Hid (Calls Tryz.prog 50 #[.agg #[.string t0, .string t1, .int .i64 n2, .int .i64 n3, .bool b4, .int .i64 n5, .int .i64 n6, .bool b7, .int .i64 n8, .bool b9, .bool b10], .agg #[.int .i64 c, .int .i64 e]] V fun r w' => r = .returned (.tuple #[.agg #[.int .i64 c3, .int .i64 e3], .int .i64 er]) ∧ Below V.heap.size V w'))) (her : (er != 0) = true) (sh : ByteArray) (HSh : (∀ V, EnvN V → Hid (Calls Tryz.prog 22 #[.agg #[.int .i64 1, .int .i64 c, .int .i64 e, .string vs, .bool vb, .int .i64 vx]] V fun r w' => r = .returned (.string sh) ∧ Below V.heap.size V w'))) :
    Calls Tryz.prog 23 #[.slice g n cap, .agg #[.int .i64 1, .int .i64 c, .int .i64 e, .string vs, .bool vb, .int .i64 vx]] w fun r w' => r = .returned (.string (sh)) ∧ Below w.heap.size w w' := by
  have h0 : NB w (w.alloc (.cells #[.int .i64 1, .int .i64 c, .int .i64 e, .string vs, .bool vb, .int .i64 vx] 40)) #[.int .i64 1, .int .i64 c, .int .i64 e, .string vs, .bool vb, .int .i64 vx] := ⟨Row.new w 40 _, below_allocS (Below.refl _ w) _⟩
  go_enter Tryz.func23, Tryz.ntmps23
  go_upto_region 1 with fail
  generalize w.alloc (.cells #[.int .i64 1, .int .i64 c, .int .i64 e, .string vs, .bool vb, .int .i64 vx] 40) = W at *
  obtain ⟨m0, m1, m2, m3, m4, m5⟩ := h0.1.six
  go_wp2_with fail
  refine Calls.mono (HSg _).out ?_
  rintro _ w1 ⟨rfl, l1⟩
  have h1 := h0.next l1
  clear l1 HSg
  clear m0 m1 m2 m3 m4 m5
  go_wp2_with fail
  refine Calls.mono (HCh _ h1.2).out ?_
  rintro _ w2 ⟨rfl, l2⟩
  have h2 := h1.next l2
  clear l2 HCh
  have rS := Row.new w2 33 #[.string t0, .string t1, .int .i64 n2, .int .i64 n3, .bool b4, .int .i64 n5, .int .i64 n6, .bool b7, .int .i64 n8, .bool b9, .bool b10]
  have h3 := h2.next ((Below.refl _ w2).alloc (Nat.le_refl _) (.cells #[.string t0, .string t1, .int .i64 n2, .int .i64 n3, .bool b4, .int .i64 n5, .int .i64 n6, .bool b7, .int .i64 n8, .bool b9, .bool b10] 33))
  go_upto_region 3 with fail
  generalize w2.heap.size = SB at *
  generalize w2.alloc (.cells #[.string t0, .string t1, .int .i64 n2, .int .i64 n3, .bool b4, .int .i64 n5, .int .i64 n6, .bool b7, .int .i64 n8, .bool b9, .bool b10] 33) = w3 at *
  obtain ⟨m0, m1, m2, m3, m4, m5⟩ := h3.1.six
  obtain ⟨s0, s1, s2, s3', s4, s5, s6, s7, s8, s9, s10⟩ := rS.sec
  have sl := rS.lt
  go_wp2_with fail
  refine Calls.mono (HSc _).out ?_
  rintro _ w4 ⟨rfl, l4⟩
  have h4 := h3.next l4
  have rS4 := rS.below l4 rS.lt
  clear l4 HSc s0 s1 s2 s3' s4 s5 s6 s7 s8 s9 s10 rS sl
  clear m0 m1 m2 m3 m4 m5
  have rD := Row.new w4 38 #[.int .i64 c3, .int .i64 e3]
  have rS5 := rS4.alloc (.cells #[.int .i64 c3, .int .i64 e3] 38)
  have h5 := h4.next ((Below.refl _ w4).alloc (Nat.le_refl _) (.cells #[.int .i64 c3, .int .i64 e3] 38))
  go_upto_region 4 with fail
  generalize w4.heap.size = DB at *
  generalize w4.alloc (.cells #[.int .i64 c3, .int .i64 e3] 38) = w5 at *
  clear h4 rS4 h3 h2 h1 h0
  obtain ⟨m0, m1, m2, m3, m4, m5⟩ := h5.1.six
  go_wp2_with fail
  refine Calls.mono (HSh _ (hE.next h5.2)).out ?_
  rintro _ w6 ⟨rfl, l6⟩
  go_wp2
  go_ret
  exact ⟨rfl, h5.2.trans (l6.mono h5.2.size)⟩
set_option maxRecDepth 100000 in
set_option maxHeartbeats 4000000 in
theorem num_minus (t0 t1 : ByteArray) (n2 n3 : Int) (b4 : Bool) (n5 n6 : Int) (b7 : Bool) (n8 : Int) (b9 b10 : Bool) (g : Option Addr) (cap : Nat) (c e : Int) (vs : ByteArray) (vb : Bool) (vx : Int) (sg c3 e3 er : Int) (w : World) (hE : EnvN w)
    (HSg : (∀ V, Hid (Calls Tryz.prog 48 #[.agg #[.int .i64 c, .int .i64 e]] V fun r w' => r = .returned (.int .i64 sg) ∧ Below V.heap.size V w')))
    (HCh : ∀ V, Below w.heap.size w V → Hid (Calls Tryz.prog 49 #[.slice g 1 cap, .int .i64 sg] V fun r w' => r = .returned (.agg #[.string t0, .string t1, .int .i64 n2, .int .i64 n3, .bool b4, .int .i64 n5, .int .i64 n6, .bool b7, .int .i64 n8, .bool b9, .bool b10]) ∧ Below V.heap.size V w'))
    (HSc : (∀ V, Hid (Calls Tryz.prog 50 #[.agg #[.string t0, .string t1, .int .i64 n2, .int .i64 n3, .bool b4, .int .i64 n5, .int .i64 n6, .bool b7, .int .i64 n8, .bool b9, .bool b10], .agg #[.int .i64 c, .int .i64 e]] V fun r w' => r = .returned (.tuple #[.agg #[.int .i64 c3, .int .i64 e3], .int .i64 er]) ∧ Below V.heap.size V w'))) (her : (er != 0) = false) (F : ByteArray) (HF : (∀ V, EnvN V → Hid (Calls Tryz.prog 51 #[.agg #[.string t0, .string t1, .int .i64 n2, .int .i64 n3, .bool b4, .int .i64 n5, .int .i64 n6, .bool b7, .int .i64 n8, .bool b9, .bool b10], .agg #[.int .i64 c3, .int .i64 e3]] V fun r w' => r = .returned (.string F) ∧ Below V.heap.size V w'))) (hF : F.size ≤ 2000) (ht0 : t0.size ≤ 100) (ht1 : t1.size ≤ 100) (hsg : sg < 0) (s3 : Int) (HS3 : (∀ V, Hid (Calls Tryz.prog 48 #[.agg #[.int .i64 c3, .int .i64 e3]] V fun r w' => r = .returned (.int .i64 s3) ∧ Below V.heap.size V w'))) (hs3 : (s3 != 0) = true) :
    Calls Tryz.prog 23 #[.slice g 1 cap, .agg #[.int .i64 1, .int .i64 c, .int .i64 e, .string vs, .bool vb, .int .i64 vx]] w fun r w' => r = .returned (.string (⟨#[45]⟩ ++ (t0 ++ F ++ t1))) ∧ Below w.heap.size w w' := by
  have h0 : NB w (w.alloc (.cells #[.int .i64 1, .int .i64 c, .int .i64 e, .string vs, .bool vb, .int .i64 vx] 40)) #[.int .i64 1, .int .i64 c, .int .i64 e, .string vs, .bool vb, .int .i64 vx] := ⟨Row.new w 40 _, below_allocS (Below.refl _ w) _⟩
  go_enter Tryz.func23, Tryz.ntmps23
  go_upto_region 1 with fail
  generalize w.alloc (.cells #[.int .i64 1, .int .i64 c, .int .i64 e, .string vs, .bool vb, .int .i64 vx] 40) = W at *
  obtain ⟨m0, m1, m2, m3, m4, m5⟩ := h0.1.six
  go_wp2_with fail
  refine Calls.mono (HSg _).out ?_
  rintro _ w1 ⟨rfl, l1⟩
  have h1 := h0.next l1
  clear l1 HSg
  clear m0 m1 m2 m3 m4 m5
  go_wp2_with fail
  refine Calls.mono (HCh _ h1.2).out ?_
  rintro _ w2 ⟨rfl, l2⟩
  have h2 := h1.next l2
  clear l2 HCh
  have rS := Row.new w2 33 #[.string t0, .string t1, .int .i64 n2, .int .i64 n3, .bool b4, .int .i64 n5, .int .i64 n6, .bool b7, .int .i64 n8, .bool b9, .bool b10]
  have h3 := h2.next ((Below.refl _ w2).alloc (Nat.le_refl _) (.cells #[.string t0, .string t1, .int .i64 n2, .int .i64 n3, .bool b4, .int .i64 n5, .int .i64 n6, .bool b7, .int .i64 n8, .bool b9, .bool b10] 33))
  go_upto_region 3 with fail
  generalize w2.heap.size = SB at *
  generalize w2.alloc (.cells #[.string t0, .string t1, .int .i64 n2, .int .i64 n3, .bool b4, .int .i64 n5, .int .i64 n6, .bool b7, .int .i64 n8, .bool b9, .bool b10] 33) = w3 at *
  obtain ⟨m0, m1, m2, m3, m4, m5⟩ := h3.1.six
  obtain ⟨s0, s1, s2, s3', s4, s5, s6, s7, s8, s9, s10⟩ := rS.sec
  have sl := rS.lt
  go_wp2_with fail
  refine Calls.mono (HSc _).out ?_
  rintro _ w4 ⟨rfl, l4⟩
  have h4 := h3.next l4
  have rS4 := rS.below l4 rS.lt
  clear l4 HSc s0 s1 s2 s3' s4 s5 s6 s7 s8 s9 s10 rS sl
  clear m0 m1 m2 m3 m4 m5
  have rD := Row.new w4 38 #[.int .i64 c3, .int .i64 e3]
  have rS5 := rS4.alloc (.cells #[.int .i64 c3, .int .i64 e3] 38)
  have h5 := h4.next ((Below.refl _ w4).alloc (Nat.le_refl _) (.cells #[.int .i64 c3, .int .i64 e3] 38))
  go_upto_region 4 with fail
  generalize w4.heap.size = DB at *
  generalize w4.alloc (.cells #[.int .i64 c3, .int .i64 e3] 38) = w5 at *
  clear h4 rS4 h3 h2 h1 h0
  have k01 : (t0 ++ F).size ≤ 3000 := by simp; omega
  have k02 : (t0 ++ F ++ t1).size ≤ 4000 := by simp; omega
  go_upto_region 6 with fail
  have hS : Below w5.heap.size w5 w5.drew := (Below.refl _ w5).drew
  refine wp_region_M (fun wx : World => Below w5.heap.size w5 wx) (fun j => decide (j < 10)) 10 rfl (by kernel_rfl) ?_
  refine wpM_held 0 (v := .pointer (some ⟨SB, 0, none⟩)) rfl (by kernel_rfl) (by kernel_rfl) rfl (fun _ _ _ h => h) rfl (by intro wx hx; go_simp <;> rfl) hS ?_
  refine wpM_held 1 (v := .string t0) rfl (by kernel_rfl) (by kernel_rfl) rfl (fun _ _ _ h => h) rfl (by intro wx hx; obtain ⟨q0, q1, q2, q3, q4, q5, q6, q7, q8, q9, q10⟩ := (rS5.below hx rS5.lt).sec; go_simp <;> rfl) hS ?_
  refine wpM_held 2 (v := .agg #[.string t0, .string t1, .int .i64 n2, .int .i64 n3, .bool b4, .int .i64 n5, .int .i64 n6, .bool b7, .int .i64 n8, .bool b9, .bool b10]) rfl (by kernel_rfl) (by kernel_rfl) rfl (fun _ _ _ h => h) rfl (by intro wx hx; obtain ⟨q0, q1, q2, q3, q4, q5, q6, q7, q8, q9, q10⟩ := (rS5.below hx rS5.lt).sec; go_simp <;> rfl) hS ?_
  refine wpM_held 3 (v := .agg #[.int .i64 c3, .int .i64 e3]) rfl (by kernel_rfl) (by kernel_rfl) rfl (fun _ _ _ h => h) rfl (by intro wx hx; obtain ⟨q0, q1⟩ := (rD.below hx rD.lt).duo; go_simp <;> rfl) hS ?_
  refine wpM_held 6 (v := .pointer (some ⟨SB, 1, none⟩)) rfl (by kernel_rfl) (by kernel_rfl) rfl (fun _ _ _ h => h) rfl (by intro wx hx; go_simp <;> rfl) hS ?_
  refine wpM_held 7 (v := .string t1) rfl (by kernel_rfl) (by kernel_rfl) rfl (fun _ _ _ h => h) rfl (by intro wx hx; obtain ⟨q0, q1, q2, q3, q4, q5, q6, q7, q8, q9, q10⟩ := (rS5.below hx rS5.lt).sec; go_simp <;> rfl) hS ?_
  refine wpM_one 4 rfl (by kernel_rfl) rfl ?_
  go_wp2_with fail
  refine Calls.mono (HF _ ((hE.next h5.2).next hS)).out ?_
  rintro _ w6 ⟨rfl, l6⟩
  have hS6 : Below w5.heap.size w5 w6 := hS.trans (l6.mono hS.size)
  clear l6 HF
  go_wp2_with fail
  refine ⟨fun _ => hS6, ?_⟩
  refine wpM_one 5 rfl (by kernel_rfl) rfl ?_
  go_wp2_with fail
  refine ⟨fun _ => hS6, ?_⟩
  refine wpM_one 8 rfl (by kernel_rfl) rfl ?_
  go_wp2_with fail
  refine ⟨fun _ => hS6, ?_⟩
  refine wpM_one 9 rfl (by kernel_rfl) rfl ?_
  go_wp2_with fail
  refine ⟨fun _ => hS6, ?_⟩
  refine wpM_done (by kernel_rfl) ?_
  have h6 := h5.next hS6
  have rD6 := rD.below hS6 rD.lt
  clear hS hS6 rS5 rD h5
  obtain ⟨q0, q1⟩ := rD6.duo
  go_wp2_with fail
  refine Calls.mono (HS3 _).out ?_
  rintro _ w7 ⟨rfl, l7⟩
  have h7 := h6.next l7
  clear l7 HS3
  go_wp2
  go_ret
  exact ⟨rfl, h7.2⟩
set_option maxRecDepth 100000 in
set_option maxHeartbeats 4000000 in
theorem num_a (t0 t1 : ByteArray) (n2 n3 : Int) (b4 : Bool) (n5 n6 : Int) (b7 : Bool) (n8 : Int) (b9 b10 : Bool) (g : Option Addr) (n cap : Nat) (c e : Int) (vs : ByteArray) (vb : Bool) (vx : Int) (sg c3 e3 er : Int) (w : World) (hE : EnvN w)
    (HSg : (∀ V, Hid (Calls Tryz.prog 48 #[.agg #[.int .i64 c, .int .i64 e]] V fun r w' => r = .returned (.int .i64 sg) ∧ Below V.heap.size V w')))
    (HCh : ∀ V, Below w.heap.size w V → Hid (Calls Tryz.prog 49 #[.slice g n cap, .int .i64 sg] V fun r w' => r = .returned (.agg #[.string t0, .string t1, .int .i64 n2, .int .i64 n3, .bool b4, .int .i64 n5, .int .i64 n6, .bool b7, .int .i64 n8, .bool b9, .bool b10]) ∧ Below V.heap.size V w'))
    (HSc : (∀ V, Hid (Calls Tryz.prog 50 #[.agg #[.string t0, .string t1, .int .i64 n2, .int .i64 n3, .bool b4, .int .i64 n5, .int .i64 n6, .bool b7, .int .i64 n8, .bool b9, .bool b10], .agg #[.int .i64 c, .int .i64 e]] V fun r w' => r = .returned (.tuple #[.agg #[.int .i64 c3, .int .i64 e3], .int .i64 er]) ∧ Below V.heap.size V w'))) (her : (er != 0) = false) (F : ByteArray) (HF : (∀ V, EnvN V → Hid (Calls Tryz.prog 51 #[.agg #[.string t0, .string t1, .int .i64 n2, .int .i64 n3, .bool b4, .int .i64 n5, .int .i64 n6, .bool b7, .int .i64 n8, .bool b9, .bool b10], .agg #[.int .i64 c3, .int .i64 e3]] V fun r w' => r = .returned (.string F) ∧ Below V.heap.size V w'))) (hF : F.size ≤ 2000) (ht0 : t0.size ≤ 100) (ht1 : t1.size ≤ 100) (hn : ((n : Int) == 1) = false) :
    Calls Tryz.prog 23 #[.slice g n cap, .agg #[.int .i64 1, .int .i64 c, .int .i64 e, .string vs, .bool vb, .int .i64 vx]] w fun r w' => r = .returned (.string (t0 ++ F ++ t1)) ∧ Below w.heap.size w w' := by
  have h0 : NB w (w.alloc (.cells #[.int .i64 1, .int .i64 c, .int .i64 e, .string vs, .bool vb, .int .i64 vx] 40)) #[.int .i64 1, .int .i64 c, .int .i64 e, .string vs, .bool vb, .int .i64 vx] := ⟨Row.new w 40 _, below_allocS (Below.refl _ w) _⟩
  go_enter Tryz.func23, Tryz.ntmps23
  go_upto_region 1 with fail
  generalize w.alloc (.cells #[.int .i64 1, .int .i64 c, .int .i64 e, .string vs, .bool vb, .int .i64 vx] 40) = W at *
  obtain ⟨m0, m1, m2, m3, m4, m5⟩ := h0.1.six
  go_wp2_with fail
  refine Calls.mono (HSg _).out ?_
  rintro _ w1 ⟨rfl, l1⟩
  have h1 := h0.next l1
  clear l1 HSg
  clear m0 m1 m2 m3 m4 m5
  go_wp2_with fail
  refine Calls.mono (HCh _ h1.2).out ?_
  rintro _ w2 ⟨rfl, l2⟩
  have h2 := h1.next l2
  clear l2 HCh
  have rS := Row.new w2 33 #[.string t0, .string t1, .int .i64 n2, .int .i64 n3, .bool b4, .int .i64 n5, .int .i64 n6, .bool b7, .int .i64 n8, .bool b9, .bool b10]
  have h3 := h2.next ((Below.refl _ w2).alloc (Nat.le_refl _) (.cells #[.string t0, .string t1, .int .i64 n2, .int .i64 n3, .bool b4, .int .i64 n5, .int .i64 n6, .bool b7, .int .i64 n8, .bool b9, .bool b10] 33))
  go_upto_region 3 with fail
  generalize w2.heap.size = SB at *
  generalize w2.alloc (.cells #[.string t0, .string t1, .int .i64 n2, .int .i64 n3, .bool b4, .int .i64 n5, .int .i64 n6, .bool b7, .int .i64 n8, .bool b9, .bool b10] 33) = w3 at *
  obtain ⟨m0, m1, m2, m3, m4, m5⟩ := h3.1.six
  obtain ⟨s0, s1, s2, s3', s4, s5, s6, s7, s8, s9, s10⟩ := rS.sec
  have sl := rS.lt
  go_wp2_with fail
  refine Calls.mono (HSc _).out ?_
  rintro _ w4 ⟨rfl, l4⟩
  have h4 := h3.next l4
  have rS4 := rS.below l4 rS.lt
  clear l4 HSc s0 s1 s2 s3' s4 s5 s6 s7 s8 s9 s10 rS sl
  clear m0 m1 m2 m3 m4 m5
  have rD := Row.new w4 38 #[.int .i64 c3, .int .i64 e3]
  have rS5 := rS4.alloc (.cells #[.int .i64 c3, .int .i64 e3] 38)
  have h5 := h4.next ((Below.refl _ w4).alloc (Nat.le_refl _) (.cells #[.int .i64 c3, .int .i64 e3] 38))
  go_upto_region 4 with fail
  generalize w4.heap.size = DB at *
  generalize w4.alloc (.cells #[.int .i64 c3, .int .i64 e3] 38) = w5 at *
  clear h4 rS4 h3 h2 h1 h0
  have k01 : (t0 ++ F).size ≤ 3000 := by simp; omega
  have k02 : (t0 ++ F ++ t1).size ≤ 4000 := by simp; omega
  go_upto_region 6 with fail
  have hS : Below w5.heap.size w5 w5.drew := (Below.refl _ w5).drew
  refine wp_region_M (fun wx : World => Below w5.heap.size w5 wx) (fun j => decide (j < 10)) 10 rfl (by kernel_rfl) ?_
  refine wpM_held 0 (v := .pointer (some ⟨SB, 0, none⟩)) rfl (by kernel_rfl) (by kernel_rfl) rfl (fun _ _ _ h => h) rfl (by intro wx hx; go_simp <;> rfl) hS ?_
  refine wpM_held 1 (v := .string t0) rfl (by kernel_rfl) (by kernel_rfl) rfl (fun _ _ _ h => h) rfl (by intro wx hx; obtain ⟨q0, q1, q2, q3, q4, q5, q6, q7, q8, q9, q10⟩ := (rS5.below hx rS5.lt).sec; go_simp <;> rfl) hS ?_
  refine wpM_held 2 (v := .agg #[.string t0, .string t1, .int .i64 n2, .int .i64 n3, .bool b4, .int .i64 n5, .int .i64 n6, .bool b7, .int .i64 n8, .bool b9, .bool b10]) rfl (by kernel_rfl) (by kernel_rfl) rfl (fun _ _ _ h => h) rfl (by intro wx hx; obtain ⟨q0, q1, q2, q3, q4, q5, q6, q7, q8, q9, q10⟩ := (rS5.below hx rS5.lt).sec; go_simp <;> rfl) hS ?_
  refine wpM_held 3 (v := .agg #[.int .i64 c3, .int .i64 e3]) rfl (by kernel_rfl) (by kernel_rfl) rfl (fun _ _ _ h => h) rfl (by intro wx hx; obtain ⟨q0, q1⟩ := (rD.below hx rD.lt).duo; go_simp <;> rfl) hS ?_
  refine wpM_held 6 (v := .pointer (some ⟨SB, 1, none⟩)) rfl (by kernel_rfl) (by kernel_rfl) rfl (fun _ _ _ h => h) rfl (by intro wx hx; go_simp <;> rfl) hS ?_
  refine wpM_held 7 (v := .string t1) rfl (by kernel_rfl) (by kernel_rfl) rfl (fun _ _ _ h => h) rfl (by intro wx hx; obtain ⟨q0, q1, q2, q3, q4, q5, q6, q7, q8, q9, q10⟩ := (rS5.below hx rS5.lt).sec; go_simp <;> rfl) hS ?_
  refine wpM_one 4 rfl (by kernel_rfl) rfl ?_
  go_wp2_with fail
  refine Calls.mono (HF _ ((hE.next h5.2).next hS)).out ?_
  rintro _ w6 ⟨rfl, l6⟩
  have hS6 : Below w5.heap.size w5 w6 := hS.trans (l6.mono hS.size)
  clear l6 HF
  go_wp2_with fail
  refine ⟨fun _ => hS6, ?_⟩
  refine wpM_one 5 rfl (by kernel_rfl) rfl ?_
  go_wp2_with fail
  refine ⟨fun _ => hS6, ?_⟩
  refine wpM_one 8 rfl (by kernel_rfl) rfl ?_
  go_wp2_with fail
  refine ⟨fun _ => hS6, ?_⟩
  refine wpM_one 9 rfl (by kernel_rfl) rfl ?_
  go_wp2_with fail
  refine ⟨fun _ => hS6, ?_⟩
  refine wpM_done (by kernel_rfl) ?_
  have h6 := h5.next hS6
  have rD6 := rD.below hS6 rD.lt
  clear hS hS6 rS5 rD h5
  go_wp2
  go_ret
  exact ⟨rfl, h6.2⟩
set_option maxRecDepth 100000 in
set_option maxHeartbeats 4000000 in
theorem num_b (t0 t1 : ByteArray) (n2 n3 : Int) (b4 : Bool) (n5 n6 : Int) (b7 : Bool) (n8 : Int) (b9 b10 : Bool) (g : Option Addr) (cap : Nat) (c e : Int) (vs : ByteArray) (vb : Bool) (vx : Int) (sg c3 e3 er : Int) (w : World) (hE : EnvN w)
    (HSg : (∀ V, Hid (Calls Tryz.prog 48 #[.agg #[.int .i64 c, .int .i64 e]] V fun r w' => r = .returned (.int .i64 sg) ∧ Below V.heap.size V w')))
    (HCh : ∀ V, Below w.heap.size w V → Hid (Calls Tryz.prog 49 #[.slice g 1 cap, .int .i64 sg] V fun r w' => r = .returned (.agg #[.string t0, .string t1, .int .i64 n2, .int .i64 n3, .bool b4, .int .i64 n5, .int .i64 n6, .bool b7, .int .i64 n8, .bool b9, .bool b10]) ∧ Below V.heap.size V w'))
    (HSc : (∀ V, Hid (Calls Tryz.prog 50 #[.agg #[.string t0, .string t1, .int .i64 n2, .int .i64 n3, .bool b4, .int .i64 n5, .int .i64 n6, .bool b7, .int .i64 n8, .bool b9, .bool b10], .agg #[.int .i64 c, .int .i64 e]] V fun r w' => r = .returned (.tuple #[.agg #[.int .i64 c3, .int .i64 e3], .int .i64 er]) ∧ Below V.heap.size V w'))) (her : (er != 0) = false) (F : ByteArray) (HF : (∀ V, EnvN V → Hid (Calls Tryz.prog 51 #[.agg #[.string t0, .string t1, .int .i64 n2, .int .i64 n3, .bool b4, .int .i64 n5, .int .i64 n6, .bool b7, .int .i64 n8, .bool b9, .bool b10], .agg #[.int .i64 c3, .int .i64 e3]] V fun r w' => r = .returned (.string F) ∧ Below V.heap.size V w'))) (hF : F.size ≤ 2000) (ht0 : t0.size ≤ 100) (ht1 : t1.size ≤ 100) (hsg : ¬ sg < 0) :
    Calls Tryz.prog 23 #[.slice g 1 cap, .agg #[.int .i64 1, .int .i64 c, .int .i64 e, .string vs, .bool vb, .int .i64 vx]] w fun r w' => r = .returned (.string (t0 ++ F ++ t1)) ∧ Below w.heap.size w w' := by
  have h0 : NB w (w.alloc (.cells #[.int .i64 1, .int .i64 c, .int .i64 e, .string vs, .bool vb, .int .i64 vx] 40)) #[.int .i64 1, .int .i64 c, .int .i64 e, .string vs, .bool vb, .int .i64 vx] := ⟨Row.new w 40 _, below_allocS (Below.refl _ w) _⟩
  go_enter Tryz.func23, Tryz.ntmps23
  go_upto_region 1 with fail
  generalize w.alloc (.cells #[.int .i64 1, .int .i64 c, .int .i64 e, .string vs, .bool vb, .int .i64 vx] 40) = W at *
  obtain ⟨m0, m1, m2, m3, m4, m5⟩ := h0.1.six
  go_wp2_with fail
  refine Calls.mono (HSg _).out ?_
  rintro _ w1 ⟨rfl, l1⟩
  have h1 := h0.next l1
  clear l1 HSg
  clear m0 m1 m2 m3 m4 m5
  go_wp2_with fail
  refine Calls.mono (HCh _ h1.2).out ?_
  rintro _ w2 ⟨rfl, l2⟩
  have h2 := h1.next l2
  clear l2 HCh
  have rS := Row.new w2 33 #[.string t0, .string t1, .int .i64 n2, .int .i64 n3, .bool b4, .int .i64 n5, .int .i64 n6, .bool b7, .int .i64 n8, .bool b9, .bool b10]
  have h3 := h2.next ((Below.refl _ w2).alloc (Nat.le_refl _) (.cells #[.string t0, .string t1, .int .i64 n2, .int .i64 n3, .bool b4, .int .i64 n5, .int .i64 n6, .bool b7, .int .i64 n8, .bool b9, .bool b10] 33))
  go_upto_region 3 with fail
  generalize w2.heap.size = SB at *
  generalize w2.alloc (.cells #[.string t0, .string t1, .int .i64 n2, .int .i64 n3, .bool b4, .int .i64 n5, .int .i64 n6, .bool b7, .int .i64 n8, .bool b9, .bool b10] 33) = w3 at *
  obtain ⟨m0, m1, m2, m3, m4, m5⟩ := h3.1.six
  obtain ⟨s0, s1, s2, s3', s4, s5, s6, s7, s8, s9, s10⟩ := rS.sec
  have sl := rS.lt
  go_wp2_with fail
  refine Calls.mono (HSc _).out ?_
  rintro _ w4 ⟨rfl, l4⟩
  have h4 := h3.next l4
  have rS4 := rS.below l4 rS.lt
  clear l4 HSc s0 s1 s2 s3' s4 s5 s6 s7 s8 s9 s10 rS sl
  clear m0 m1 m2 m3 m4 m5
  have rD := Row.new w4 38 #[.int .i64 c3, .int .i64 e3]
  have rS5 := rS4.alloc (.cells #[.int .i64 c3, .int .i64 e3] 38)
  have h5 := h4.next ((Below.refl _ w4).alloc (Nat.le_refl _) (.cells #[.int .i64 c3, .int .i64 e3] 38))
  go_upto_region 4 with fail
  generalize w4.heap.size = DB at *
  generalize w4.alloc (.cells #[.int .i64 c3, .int .i64 e3] 38) = w5 at *
  clear h4 rS4 h3 h2 h1 h0
  have k01 : (t0 ++ F).size ≤ 3000 := by simp; omega
  have k02 : (t0 ++ F ++ t1).size ≤ 4000 := by simp; omega
  go_upto_region 6 with fail
  have hS : Below w5.heap.size w5 w5.drew := (Below.refl _ w5).drew
  refine wp_region_M (fun wx : World => Below w5.heap.size w5 wx) (fun j => decide (j < 10)) 10 rfl (by kernel_rfl) ?_
  refine wpM_held 0 (v := .pointer (some ⟨SB, 0, none⟩)) rfl (by kernel_rfl) (by kernel_rfl) rfl (fun _ _ _ h => h) rfl (by intro wx hx; go_simp <;> rfl) hS ?_
  refine wpM_held 1 (v := .string t0) rfl (by kernel_rfl) (by kernel_rfl) rfl (fun _ _ _ h => h) rfl (by intro wx hx; obtain ⟨q0, q1, q2, q3, q4, q5, q6, q7, q8, q9, q10⟩ := (rS5.below hx rS5.lt).sec; go_simp <;> rfl) hS ?_
  refine wpM_held 2 (v := .agg #[.string t0, .string t1, .int .i64 n2, .int .i64 n3, .bool b4, .int .i64 n5, .int .i64 n6, .bool b7, .int .i64 n8, .bool b9, .bool b10]) rfl (by kernel_rfl) (by kernel_rfl) rfl (fun _ _ _ h => h) rfl (by intro wx hx; obtain ⟨q0, q1, q2, q3, q4, q5, q6, q7, q8, q9, q10⟩ := (rS5.below hx rS5.lt).sec; go_simp <;> rfl) hS ?_
  refine wpM_held 3 (v := .agg #[.int .i64 c3, .int .i64 e3]) rfl (by kernel_rfl) (by kernel_rfl) rfl (fun _ _ _ h => h) rfl (by intro wx hx; obtain ⟨q0, q1⟩ := (rD.below hx rD.lt).duo; go_simp <;> rfl) hS ?_
  refine wpM_held 6 (v := .pointer (some ⟨SB, 1, none⟩)) rfl (by kernel_rfl) (by kernel_rfl) rfl (fun _ _ _ h => h) rfl (by intro wx hx; go_simp <;> rfl) hS ?_
  refine wpM_held 7 (v := .string t1) rfl (by kernel_rfl) (by kernel_rfl) rfl (fun _ _ _ h => h) rfl (by intro wx hx; obtain ⟨q0, q1, q2, q3, q4, q5, q6, q7, q8, q9, q10⟩ := (rS5.below hx rS5.lt).sec; go_simp <;> rfl) hS ?_
  refine wpM_one 4 rfl (by kernel_rfl) rfl ?_
  go_wp2_with fail
  refine Calls.mono (HF _ ((hE.next h5.2).next hS)).out ?_
  rintro _ w6 ⟨rfl, l6⟩
  have hS6 : Below w5.heap.size w5 w6 := hS.trans (l6.mono hS.size)
  clear l6 HF
  go_wp2_with fail
  refine ⟨fun _ => hS6, ?_⟩
  refine wpM_one 5 rfl (by kernel_rfl) rfl ?_
  go_wp2_with fail
  refine ⟨fun _ => hS6, ?_⟩
  refine wpM_one 8 rfl (by kernel_rfl) rfl ?_
  go_wp2_with fail
  refine ⟨fun _ => hS6, ?_⟩
  refine wpM_one 9 rfl (by kernel_rfl) rfl ?_
  go_wp2_with fail
  refine ⟨fun _ => hS6, ?_⟩
  refine wpM_done (by kernel_rfl) ?_
  have h6 := h5.next hS6
  have rD6 := rD.below hS6 rD.lt
  clear hS hS6 rS5 rD h5
  go_wp2
  go_ret
  exact ⟨rfl, h6.2⟩
set_option maxRecDepth 100000 in
set_option maxHeartbeats 4000000 in
theorem num_c (t0 t1 : ByteArray) (n2 n3 : Int) (b4 : Bool) (n5 n6 : Int) (b7 : Bool) (n8 : Int) (b9 b10 : Bool) (g : Option Addr) (cap : Nat) (c e : Int) (vs : ByteArray) (vb : Bool) (vx : Int) (sg c3 e3 er : Int) (w : World) (hE : EnvN w)
    (HSg : (∀ V, Hid (Calls Tryz.prog 48 #[.agg #[.int .i64 c, .int .i64 e]] V fun r w' => r = .returned (.int .i64 sg) ∧ Below V.heap.size V w')))
    (HCh : ∀ V, Below w.heap.size w V → Hid (Calls Tryz.prog 49 #[.slice g 1 cap, .int .i64 sg] V fun r w' => r = .returned (.agg #[.string t0, .string t1, .int .i64 n2, .int .i64 n3, .bool b4, .int .i64 n5, .int .i64 n6, .bool b7, .int .i64 n8, .bool b9, .bool b10]) ∧ Below V.heap.size V w'))
    (HSc : (∀ V, Hid (Calls Tryz.prog 50 #[.agg #[.string t0, .string t1, .int .i64 n2, .int .i64 n3, .bool b4, .int .i64 n5, .int .i64 n6, .bool b7, .int .i64 n8, .bool b9, .bool b10], .agg #[.int .i64 c, .int .i64 e]] V fun r w' => r = .returned (.tuple #[.agg #[.int .i64 c3, .int .i64 e3], .int .i64 er]) ∧ Below V.heap.size V w'))) (her : (er != 0) = false) (F : ByteArray) (HF : (∀ V, EnvN V → Hid (Calls Tryz.prog 51 #[.agg #[.string t0, .string t1, .int .i64 n2, .int .i64 n3, .bool b4, .int .i64 n5, .int .i64 n6, .bool b7, .int .i64 n8, .bool b9, .bool b10], .agg #[.int .i64 c3, .int .i64 e3]] V fun r w' => r = .returned (.string F) ∧ Below V.heap.size V w'))) (hF : F.size ≤ 2000) (ht0 : t0.size ≤ 100) (ht1 : t1.size ≤ 100) (hsg : sg < 0) (s3 : Int) (HS3 : (∀ V, Hid (Calls Tryz.prog 48 #[.agg #[.int .i64 c3, .int .i64 e3]] V fun r w' => r = .returned (.int .i64 s3) ∧ Below V.heap.size V w'))) (hs3 : (s3 != 0) = false) :
    Calls Tryz.prog 23 #[.slice g 1 cap, .agg #[.int .i64 1, .int .i64 c, .int .i64 e, .string vs, .bool vb, .int .i64 vx]] w fun r w' => r = .returned (.string (t0 ++ F ++ t1)) ∧ Below w.heap.size w w' := by
  have h0 : NB w (w.alloc (.cells #[.int .i64 1, .int .i64 c, .int .i64 e, .string vs, .bool vb, .int .i64 vx] 40)) #[.int .i64 1, .int .i64 c, .int .i64 e, .string vs, .bool vb, .int .i64 vx] := ⟨Row.new w 40 _, below_allocS (Below.refl _ w) _⟩
  go_enter Tryz.func23, Tryz.ntmps23
  go_upto_region 1 with fail
  generalize w.alloc (.cells #[.int .i64 1, .int .i64 c, .int .i64 e, .string vs, .bool vb, .int .i64 vx] 40) = W at *
  obtain ⟨m0, m1, m2, m3, m4, m5⟩ := h0.1.six
  go_wp2_with fail
  refine Calls.mono (HSg _).out ?_
  rintro _ w1 ⟨rfl, l1⟩
  have h1 := h0.next l1
  clear l1 HSg
  clear m0 m1 m2 m3 m4 m5
  go_wp2_with fail
  refine Calls.mono (HCh _ h1.2).out ?_
  rintro _ w2 ⟨rfl, l2⟩
  have h2 := h1.next l2
  clear l2 HCh
  have rS := Row.new w2 33 #[.string t0, .string t1, .int .i64 n2, .int .i64 n3, .bool b4, .int .i64 n5, .int .i64 n6, .bool b7, .int .i64 n8, .bool b9, .bool b10]
  have h3 := h2.next ((Below.refl _ w2).alloc (Nat.le_refl _) (.cells #[.string t0, .string t1, .int .i64 n2, .int .i64 n3, .bool b4, .int .i64 n5, .int .i64 n6, .bool b7, .int .i64 n8, .bool b9, .bool b10] 33))
  go_upto_region 3 with fail
  generalize w2.heap.size = SB at *
  generalize w2.alloc (.cells #[.string t0, .string t1, .int .i64 n2, .int .i64 n3, .bool b4, .int .i64 n5, .int .i64 n6, .bool b7, .int .i64 n8, .bool b9, .bool b10] 33) = w3 at *
  obtain ⟨m0, m1, m2, m3, m4, m5⟩ := h3.1.six
  obtain ⟨s0, s1, s2, s3', s4, s5, s6, s7, s8, s9, s10⟩ := rS.sec
  have sl := rS.lt
  go_wp2_with fail
  refine Calls.mono (HSc _).out ?_
  rintro _ w4 ⟨rfl, l4⟩
  have h4 := h3.next l4
  have rS4 := rS.below l4 rS.lt
  clear l4 HSc s0 s1 s2 s3' s4 s5 s6 s7 s8 s9 s10 rS sl
  clear m0 m1 m2 m3 m4 m5
  have rD := Row.new w4 38 #[.int .i64 c3, .int .i64 e3]
  have rS5 := rS4.alloc (.cells #[.int .i64 c3, .int .i64 e3] 38)
  have h5 := h4.next ((Below.refl _ w4).alloc (Nat.le_refl _) (.cells #[.int .i64 c3, .int .i64 e3] 38))
  go_upto_region 4 with fail
  generalize w4.heap.size = DB at *
  generalize w4.alloc (.cells #[.int .i64 c3, .int .i64 e3] 38) = w5 at *
  clear h4 rS4 h3 h2 h1 h0
  have k01 : (t0 ++ F).size ≤ 3000 := by simp; omega
  have k02 : (t0 ++ F ++ t1).size ≤ 4000 := by simp; omega
  go_upto_region 6 with fail
  have hS : Below w5.heap.size w5 w5.drew := (Below.refl _ w5).drew
  refine wp_region_M (fun wx : World => Below w5.heap.size w5 wx) (fun j => decide (j < 10)) 10 rfl (by kernel_rfl) ?_
  refine wpM_held 0 (v := .pointer (some ⟨SB, 0, none⟩)) rfl (by kernel_rfl) (by kernel_rfl) rfl (fun _ _ _ h => h) rfl (by intro wx hx; go_simp <;> rfl) hS ?_
  refine wpM_held 1 (v := .string t0) rfl (by kernel_rfl) (by kernel_rfl) rfl (fun _ _ _ h => h) rfl (by intro wx hx; obtain ⟨q0, q1, q2, q3, q4, q5, q6, q7, q8, q9, q10⟩ := (rS5.below hx rS5.lt).sec; go_simp <;> rfl) hS ?_
  refine wpM_held 2 (v := .agg #[.string t0, .string t1, .int .i64 n2, .int .i64 n3, .bool b4, .int .i64 n5, .int .i64 n6, .bool b7, .int .i64 n8, .bool b9, .bool b10]) rfl (by kernel_rfl) (by kernel_rfl) rfl (fun _ _ _ h => h) rfl (by intro wx hx; obtain ⟨q0, q1, q2, q3, q4, q5, q6, q7, q8, q9, q10⟩ := (rS5.below hx rS5.lt).sec; go_simp <;> rfl) hS ?_
  refine wpM_held 3 (v := .agg #[.int .i64 c3, .int .i64 e3]) rfl (by kernel_rfl) (by kernel_rfl) rfl (fun _ _ _ h => h) rfl (by intro wx hx; obtain ⟨q0, q1⟩ := (rD.below hx rD.lt).duo; go_simp <;> rfl) hS ?_
  refine wpM_held 6 (v := .pointer (some ⟨SB, 1, none⟩)) rfl (by kernel_rfl) (by kernel_rfl) rfl (fun _ _ _ h => h) rfl (by intro wx hx; go_simp <;> rfl) hS ?_
  refine wpM_held 7 (v := .string t1) rfl (by kernel_rfl) (by kernel_rfl) rfl (fun _ _ _ h => h) rfl (by intro wx hx; obtain ⟨q0, q1, q2, q3, q4, q5, q6, q7, q8, q9, q10⟩ := (rS5.below hx rS5.lt).sec; go_simp <;> rfl) hS ?_
  refine wpM_one 4 rfl (by kernel_rfl) rfl ?_
  go_wp2_with fail
  refine Calls.mono (HF _ ((hE.next h5.2).next hS)).out ?_
  rintro _ w6 ⟨rfl, l6⟩
  have hS6 : Below w5.heap.size w5 w6 := hS.trans (l6.mono hS.size)
  clear l6 HF
  go_wp2_with fail
  refine ⟨fun _ => hS6, ?_⟩
  refine wpM_one 5 rfl (by kernel_rfl) rfl ?_
  go_wp2_with fail
  refine ⟨fun _ => hS6, ?_⟩
  refine wpM_one 8 rfl (by kernel_rfl) rfl ?_
  go_wp2_with fail
  refine ⟨fun _ => hS6, ?_⟩
  refine wpM_one 9 rfl (by kernel_rfl) rfl ?_
  go_wp2_with fail
  refine ⟨fun _ => hS6, ?_⟩
  refine wpM_done (by kernel_rfl) ?_
  have h6 := h5.next hS6
  have rD6 := rD.below hS6 rD.lt
  clear hS hS6 rS5 rD h5
  obtain ⟨q0, q1⟩ := rD6.duo
  go_wp2_with fail
  refine Calls.mono (HS3 _).out ?_
  rintro _ w7 ⟨rfl, l7⟩
  have h7 := h6.next l7
  clear l7 HS3
  go_wp2
  go_ret
  exact ⟨rfl, h7.2⟩
end Go.Proofs.YtoncpcdepemlcaaGreatDoor
/- numfmt: the figures of any number by any section. -/
namespace Go.Proofs.YtoncpcdepemlcaaGreatDoor
open Go.RowKit Go.Shelf

theorem grp_len (L : Nat) : ∀ (l : List UInt8) (i : Nat), (grpF L i l).length ≤ 2 * l.length
  | [], i => by simp [grpF]
  | c :: r, i => by
    have := grp_len L r (i + 1)
    rw [grpF, List.length_append]
    split <;> simp <;> omega
theorem cut_lens (s sep : List UInt8) : (Lib.cut s sep).1.length ≤ s.length ∧ (Lib.cut s sep).2.1.length ≤ s.length := by
  unfold Lib.cut
  split
  · simp; omega
  · simp
/-- The figures. -/
def figL (x : Sec) (P : List UInt8) : List UInt8 :=
  if x.dg = false then [] else
    (fun W2 => if x.pt then W2 ++ [46] ++ (Lib.cut P [46]).2.1 ++ Lib.repeatL [48] ((x.pz : Int) - ((Lib.cut P [46]).2.1.length : Int)).toNat else W2)
      ((fun W1 => if x.gr then groupL W1 else W1)
        ((fun A => Lib.repeatL [48] ((x.ze : Int) - (A.length : Int)).toNat ++ A) (if (Lib.cut P [46]).1 = [48] then [] else (Lib.cut P [46]).1)))
theorem rep_len (k : Nat) : (Lib.repeatL [48] k).length = k := by rw [Lib.repeatL_length]; simp
theorem print_len {c e : Int} (hc : I64 c) (he : within e) : (printS c e).data.toList.length ≤ 100 := by
  obtain ⟨_, _, p3, _⟩ := parse_txt c e hc he
  rw [print_txt c e hc he, bs_list]
  omega
theorem cutP (a : List UInt8) (ha : a.length ≤ 100) (V : World) (hm : MaxAt V) : Calls Tryz.prog 84 #[.string (bs a), .string ⟨#[46]⟩] V fun e w' => e = .returned (.tuple #[.string (bs (Lib.cut a [46]).1), .string (bs (Lib.cut a [46]).2.1), .bool (Lib.cut a [46]).2.2]) ∧ ∃ n, w' = V.drewN n := by
  obtain ⟨m, hm⟩ := hm
  exact Tryz.strings_Cut (bs a) (bs [46]) m V (by rw [bs_size]; omega) hm
set_option maxHeartbeats 2000000 in
theorem fig_any (x : Sec) (c e : Int) (hc : I64 c) (he : within e) (hz : x.ze ≤ 100) (hp : x.pz ≤ 100) (w : World) (hE : EnvN w) :
    Calls Tryz.prog 51 #[x.v, .agg #[.int .i64 c, .int .i64 e]] w fun r w' => r = .returned (.string (bs (figL x (printS c e).data.toList))) ∧ Below w.heap.size w w' := by
  obtain ⟨bf, af, wh, ze, pt, pa, pz, gr, pc, dg, tx⟩ := x
  simp only at hz hp
  have hPl := print_len hc he
  have HP : ∀ V, PTab V → Hid (Calls Tryz.prog 77 #[.agg #[.int .i64 c, .int .i64 e]] V fun r w' => r = .returned (.string (bs (printS c e).data.toList)) ∧ Below V.heap.size V w') := fun V hT => print_any c e hc he V hT
  generalize (printS c e).data.toList = P at *
  have HC : ∀ V, MaxAt V → Hid _ := fun V h => cutP P hPl V h
  obtain ⟨hcl1, hcl2⟩ := cut_lens P [46]
  unfold figL
  dsimp only
  cases dg with
  | false => exact fig_no (bs bf) (bs af) (wh : Int) (ze : Int) (pa : Int) (pz : Int) (pc : Int) tx pt gr c e w
  | true =>
    rw [if_neg (by decide)]
    generalize Lib.cut P [46] = ct at *
    obtain ⟨A, B, f⟩ := ct
    dsimp only at *
    by_cases h48 : A = [48]
    · rw [if_pos h48]
      rw [show ((ze : Int) - (([] : List UInt8).length : Int)) = (ze : Int) by simp]
      cases gr with
      | true =>
        cases pt with
        | true =>
          have n1l : (Lib.repeatL [48] (ze : Int).toNat).length ≤ 100 := by rw [rep_len]; omega
          have w1l : ((Lib.repeatL [48] (ze : Int).toNat) ++ []).length ≤ 200 := by rw [List.length_append]; simp at *; omega
          have w2l : (groupL ((Lib.repeatL [48] (ze : Int).toNat) ++ [])).length ≤ 400 := by have := grp_len ((Lib.repeatL [48] (ze : Int).toNat) ++ []).length ((Lib.repeatL [48] (ze : Int).toNat) ++ []) 0; unfold groupL; omega
          exact fig_ttt (bs bf) (bs af) (wh : Int) (ze : Int) (pa : Int) (pz : Int) (pc : Int) tx c e P A B (Lib.repeatL [48] (ze : Int).toNat) ((Lib.repeatL [48] (ze : Int).toNat) ++ []) f (groupL ((Lib.repeatL [48] (ze : Int).toNat) ++ [])) ((groupL ((Lib.repeatL [48] (ze : Int).toNat) ++ [])) ++ [46]) ((groupL ((Lib.repeatL [48] (ze : Int).toNat) ++ [])) ++ [46] ++ B) (Lib.repeatL [48] ((pz : Int) - (B.length : Int)).toNat) ((groupL ((Lib.repeatL [48] (ze : Int).toNat) ++ [])) ++ [46] ++ B ++ Lib.repeatL [48] ((pz : Int) - (B.length : Int)).toNat) HP HC (by rw [bs_toList, h48]; rfl) (by omega) (by omega) ⟨by omega, by omega⟩ ⟨by omega, by omega⟩ (fun V => noughts_any (ze : Int) (by omega) V) (by omega) (bs_join2 _ _) (by omega) (fun V => grouped_any ((Lib.repeatL [48] (ze : Int).toNat) ++ []) (by omega) V) (by omega) (bs_join2 _ _) (by rw [List.length_append, show ([46] : List UInt8).length = 1 from rfl]; omega) (bs_join2 _ _) (by rw [List.length_append, List.length_append, show ([46] : List UInt8).length = 1 from rfl]; omega) (fun V => noughts_any _ (by omega) V) (by rw [rep_len]; omega) (bs_join2 _ _) w hE.env.tab hE.mx hE.sz
        | false =>
          have n1l : (Lib.repeatL [48] (ze : Int).toNat).length ≤ 100 := by rw [rep_len]; omega
          have w1l : ((Lib.repeatL [48] (ze : Int).toNat) ++ []).length ≤ 200 := by rw [List.length_append]; simp at *; omega
          have w2l : (groupL ((Lib.repeatL [48] (ze : Int).toNat) ++ [])).length ≤ 400 := by have := grp_len ((Lib.repeatL [48] (ze : Int).toNat) ++ []).length ((Lib.repeatL [48] (ze : Int).toNat) ++ []) 0; unfold groupL; omega
          exact fig_ttf (bs bf) (bs af) (wh : Int) (ze : Int) (pa : Int) (pz : Int) (pc : Int) tx c e P A B (Lib.repeatL [48] (ze : Int).toNat) ((Lib.repeatL [48] (ze : Int).toNat) ++ []) f (groupL ((Lib.repeatL [48] (ze : Int).toNat) ++ [])) HP HC (by rw [bs_toList, h48]; rfl) (by omega) (by omega) ⟨by omega, by omega⟩ ⟨by omega, by omega⟩ (fun V => noughts_any (ze : Int) (by omega) V) (by omega) (bs_join2 _ _) (by omega) (fun V => grouped_any ((Lib.repeatL [48] (ze : Int).toNat) ++ []) (by omega) V) w hE.env.tab hE.mx hE.sz
      | false =>
        cases pt with
        | true =>
          have n1l : (Lib.repeatL [48] (ze : Int).toNat).length ≤ 100 := by rw [rep_len]; omega
          have w1l : ((Lib.repeatL [48] (ze : Int).toNat) ++ []).length ≤ 200 := by rw [List.length_append]; simp at *; omega
          have w2l : ((Lib.repeatL [48] (ze : Int).toNat) ++ []).length ≤ 400 := by omega
          exact fig_tft (bs bf) (bs af) (wh : Int) (ze : Int) (pa : Int) (pz : Int) (pc : Int) tx c e P A B (Lib.repeatL [48] (ze : Int).toNat) ((Lib.repeatL [48] (ze : Int).toNat) ++ []) f (((Lib.repeatL [48] (ze : Int).toNat) ++ []) ++ [46]) (((Lib.repeatL [48] (ze : Int).toNat) ++ []) ++ [46] ++ B) (Lib.repeatL [48] ((pz : Int) - (B.length : Int)).toNat) (((Lib.repeatL [48] (ze : Int).toNat) ++ []) ++ [46] ++ B ++ Lib.repeatL [48] ((pz : Int) - (B.length : Int)).toNat) HP HC (by rw [bs_toList, h48]; rfl) (by omega) (by omega) ⟨by omega, by omega⟩ ⟨by omega, by omega⟩ (fun V => noughts_any (ze : Int) (by omega) V) (by omega) (bs_join2 _ _) (by omega) (bs_join2 _ _) (by rw [List.length_append, show ([46] : List UInt8).length = 1 from rfl]; omega) (bs_join2 _ _) (by rw [List.length_append, List.length_append, show ([46] : List UInt8).length = 1 from rfl]; omega) (fun V => noughts_any _ (by omega) V) (by rw [rep_len]; omega) (bs_join2 _ _) w hE.env.tab hE.mx hE.sz
        | false =>
          have n1l : (Lib.repeatL [48] (ze : Int).toNat).length ≤ 100 := by rw [rep_len]; omega
          have w1l : ((Lib.repeatL [48] (ze : Int).toNat) ++ []).length ≤ 200 := by rw [List.length_append]; simp at *; omega
          have w2l : ((Lib.repeatL [48] (ze : Int).toNat) ++ []).length ≤ 400 := by omega
          exact fig_tff (bs bf) (bs af) (wh : Int) (ze : Int) (pa : Int) (pz : Int) (pc : Int) tx c e P A B (Lib.repeatL [48] (ze : Int).toNat) ((Lib.repeatL [48] (ze : Int).toNat) ++ []) f HP HC (by rw [bs_toList, h48]; rfl) (by omega) (by omega) ⟨by omega, by omega⟩ ⟨by omega, by omega⟩ (fun V => noughts_any (ze : Int) (by omega) V) (by omega) (bs_join2 _ _) w hE.env.tab hE.mx hE.sz
    · rw [if_neg h48]
      cases gr with
      | true =>
        cases pt with
        | true =>
          have n1l : (Lib.repeatL [48] ((ze : Int) - (A.length : Int)).toNat).length ≤ 100 := by rw [rep_len]; omega
          have w1l : ((Lib.repeatL [48] ((ze : Int) - (A.length : Int)).toNat) ++ A).length ≤ 200 := by rw [List.length_append]; simp at *; omega
          have w2l : (groupL ((Lib.repeatL [48] ((ze : Int) - (A.length : Int)).toNat) ++ A)).length ≤ 400 := by have := grp_len ((Lib.repeatL [48] ((ze : Int) - (A.length : Int)).toNat) ++ A).length ((Lib.repeatL [48] ((ze : Int) - (A.length : Int)).toNat) ++ A) 0; unfold groupL; omega
          exact fig_ftt (bs bf) (bs af) (wh : Int) (ze : Int) (pa : Int) (pz : Int) (pc : Int) tx c e P A B (Lib.repeatL [48] ((ze : Int) - (A.length : Int)).toNat) ((Lib.repeatL [48] ((ze : Int) - (A.length : Int)).toNat) ++ A) f (groupL ((Lib.repeatL [48] ((ze : Int) - (A.length : Int)).toNat) ++ A)) ((groupL ((Lib.repeatL [48] ((ze : Int) - (A.length : Int)).toNat) ++ A)) ++ [46]) ((groupL ((Lib.repeatL [48] ((ze : Int) - (A.length : Int)).toNat) ++ A)) ++ [46] ++ B) (Lib.repeatL [48] ((pz : Int) - (B.length : Int)).toNat) ((groupL ((Lib.repeatL [48] ((ze : Int) - (A.length : Int)).toNat) ++ A)) ++ [46] ++ B ++ Lib.repeatL [48] ((pz : Int) - (B.length : Int)).toNat) HP HC (by rw [bs_toList, beq_eq_false_iff_ne]; exact h48) (by omega) (by omega) ⟨by omega, by omega⟩ ⟨by omega, by omega⟩ (fun V => noughts_any ((ze : Int) - (A.length : Int)) (by omega) V) (by omega) (bs_join2 _ _) (by omega) (fun V => grouped_any ((Lib.repeatL [48] ((ze : Int) - (A.length : Int)).toNat) ++ A) (by omega) V) (by omega) (bs_join2 _ _) (by rw [List.length_append, show ([46] : List UInt8).length = 1 from rfl]; omega) (bs_join2 _ _) (by rw [List.length_append, List.length_append, show ([46] : List UInt8).length = 1 from rfl]; omega) (fun V => noughts_any _ (by omega) V) (by rw [rep_len]; omega) (bs_join2 _ _) w hE.env.tab hE.mx hE.sz
        | false =>
          have n1l : (Lib.repeatL [48] ((ze : Int) - (A.length : Int)).toNat).length ≤ 100 := by rw [rep_len]; omega
          have w1l : ((Lib.repeatL [48] ((ze : Int) - (A.length : Int)).toNat) ++ A).length ≤ 200 := by rw [List.length_append]; simp at *; omega
          have w2l : (groupL ((Lib.repeatL [48] ((ze : Int) - (A.length : Int)).toNat) ++ A)).length ≤ 400 := by have := grp_len ((Lib.repeatL [48] ((ze : Int) - (A.length : Int)).toNat) ++ A).length ((Lib.repeatL [48] ((ze : Int) - (A.length : Int)).toNat) ++ A) 0; unfold groupL; omega
          exact fig_ftf (bs bf) (bs af) (wh : Int) (ze : Int) (pa : Int) (pz : Int) (pc : Int) tx c e P A B (Lib.repeatL [48] ((ze : Int) - (A.length : Int)).toNat) ((Lib.repeatL [48] ((ze : Int) - (A.length : Int)).toNat) ++ A) f (groupL ((Lib.repeatL [48] ((ze : Int) - (A.length : Int)).toNat) ++ A)) HP HC (by rw [bs_toList, beq_eq_false_iff_ne]; exact h48) (by omega) (by omega) ⟨by omega, by omega⟩ ⟨by omega, by omega⟩ (fun V => noughts_any ((ze : Int) - (A.length : Int)) (by omega) V) (by omega) (bs_join2 _ _) (by omega) (fun V => grouped_any ((Lib.repeatL [48] ((ze : Int) - (A.length : Int)).toNat) ++ A) (by omega) V) w hE.env.tab hE.mx hE.sz
      | false =>
        cases pt with
        | true =>
          have n1l : (Lib.repeatL [48] ((ze : Int) - (A.length : Int)).toNat).length ≤ 100 := by rw [rep_len]; omega
          have w1l : ((Lib.repeatL [48] ((ze : Int) - (A.length : Int)).toNat) ++ A).length ≤ 200 := by rw [List.length_append]; simp at *; omega
          have w2l : ((Lib.repeatL [48] ((ze : Int) - (A.length : Int)).toNat) ++ A).length ≤ 400 := by omega
          exact fig_fft (bs bf) (bs af) (wh : Int) (ze : Int) (pa : Int) (pz : Int) (pc : Int) tx c e P A B (Lib.repeatL [48] ((ze : Int) - (A.length : Int)).toNat) ((Lib.repeatL [48] ((ze : Int) - (A.length : Int)).toNat) ++ A) f (((Lib.repeatL [48] ((ze : Int) - (A.length : Int)).toNat) ++ A) ++ [46]) (((Lib.repeatL [48] ((ze : Int) - (A.length : Int)).toNat) ++ A) ++ [46] ++ B) (Lib.repeatL [48] ((pz : Int) - (B.length : Int)).toNat) (((Lib.repeatL [48] ((ze : Int) - (A.length : Int)).toNat) ++ A) ++ [46] ++ B ++ Lib.repeatL [48] ((pz : Int) - (B.length : Int)).toNat) HP HC (by rw [bs_toList, beq_eq_false_iff_ne]; exact h48) (by omega) (by omega) ⟨by omega, by omega⟩ ⟨by omega, by omega⟩ (fun V => noughts_any ((ze : Int) - (A.length : Int)) (by omega) V) (by omega) (bs_join2 _ _) (by omega) (bs_join2 _ _) (by rw [List.length_append, show ([46] : List UInt8).length = 1 from rfl]; omega) (bs_join2 _ _) (by rw [List.length_append, List.length_append, show ([46] : List UInt8).length = 1 from rfl]; omega) (fun V => noughts_any _ (by omega) V) (by rw [rep_len]; omega) (bs_join2 _ _) w hE.env.tab hE.mx hE.sz
        | false =>
          have n1l : (Lib.repeatL [48] ((ze : Int) - (A.length : Int)).toNat).length ≤ 100 := by rw [rep_len]; omega
          have w1l : ((Lib.repeatL [48] ((ze : Int) - (A.length : Int)).toNat) ++ A).length ≤ 200 := by rw [List.length_append]; simp at *; omega
          have w2l : ((Lib.repeatL [48] ((ze : Int) - (A.length : Int)).toNat) ++ A).length ≤ 400 := by omega
          exact fig_fff (bs bf) (bs af) (wh : Int) (ze : Int) (pa : Int) (pz : Int) (pc : Int) tx c e P A B (Lib.repeatL [48] ((ze : Int) - (A.length : Int)).toNat) ((Lib.repeatL [48] ((ze : Int) - (A.length : Int)).toNat) ++ A) f HP HC (by rw [bs_toList, beq_eq_false_iff_ne]; exact h48) (by omega) (by omega) ⟨by omega, by omega⟩ ⟨by omega, by omega⟩ (fun V => noughts_any ((ze : Int) - (A.length : Int)) (by omega) V) (by omega) (bs_join2 _ _) w hE.env.tab hE.mx hE.sz
end Go.Proofs.YtoncpcdepemlcaaGreatDoor
/- numfmt: a number by a code's sections: what comes. -/
namespace Go.Proofs.YtoncpcdepemlcaaGreatDoor
open Go.RowKit Go.Shelf

/-- A Dec and an error's number, out of what a call answers. -/
def tup : Value → Int × Int × Int
  | .tuple a => (match a.toList with
    | [.agg b, .int _ er] => (match b.toList with | [.int _ c, .int _ e] => (c, e, er) | _ => (0, 0, 0))
    | _ => (0, 0, 0))
  | _ => (0, 0, 0)
def tupV (t : Int × Int × Int) : Value := .tuple #[.agg #[.int .i64 t.1, .int .i64 t.2.1], .int .i64 t.2.2]
/-- What a told number is: within Go's reach. -/
def Told (t : Int × Int × Int) : Prop := I64 t.1 ∧ within t.2.1
theorem told_decT {c e : Int} : decV (tell c e) = tupV (tup (decV (tell c e))) ∧ Told (tup (decV (tell c e))) := by
  cases h : tell c e with
  | none => exact ⟨rfl, ⟨by decide, by decide⟩, ⟨by decide, by decide⟩⟩
  | some p =>
    obtain ⟨pc, pe⟩ := p
    have hb := tell_some h
    exact ⟨rfl, ⟨hb.2.2.1, hb.2.2.2.1⟩, ⟨hb.1, hb.2.1⟩⟩
theorem told_zero (er : Int) : Told (0, 0, er) := ⟨⟨by show (-9223372036854775808 : Int) ≤ 0; decide, by show (0 : Int) ≤ 9223372036854775807; decide⟩, ⟨by show (-18 : Int) ≤ 0; decide, by show (0 : Int) ≤ 18; decide⟩⟩
theorem told_arg : argV = tupV (tup argV) ∧ Told (tup argV) := ⟨rfl, ⟨by decide, by decide⟩, ⟨by decide, by decide⟩⟩
theorem told_sub (c e d f : Int) : subD c e d f = tupV (tup (subD c e d f)) ∧ Told (tup (subD c e d f)) := by
  unfold subD
  split
  · exact told_decT
  · exact told_arg
theorem told_mul (c e d f : Int) : mulD c e d f = tupV (tup (mulD c e d f)) ∧ Told (tup (mulD c e d f)) := by
  unfold mulD
  split
  · exact told_decT
  · exact told_arg
theorem told_round2 (c e pl : Int) : roundV c e pl = tupV (tup (roundV c e pl)) ∧ Told (tup (roundV c e pl)) := by
  unfold roundV
  split
  · split
    · exact told_decT
    · exact told_decT
  · exact told_arg
def sgnT (c e : Int) : Int := if -18 ≤ e ∧ e ≤ 18 then (V (-18) c e).sign else 0
/-- What a section displays of a number. -/
def absT (c e : Int) : Int × Int × Int := if sgnT c e < 0 then tup (subD 0 0 c e) else (c, e, 0)
def scaledT (x : Sec) (c e : Int) : Int × Int × Int :=
  if (absT c e).2.2 ≠ 0 then (0, 0, (absT c e).2.2) else
  if (tup (mulD (absT c e).1 (absT c e).2.1 1 (2 * (x.pc : Int)))).2.2 ≠ 0 then (0, 0, (tup (mulD (absT c e).1 (absT c e).2.1 1 (2 * (x.pc : Int)))).2.2) else
  tup (roundV (tup (mulD (absT c e).1 (absT c e).2.1 1 (2 * (x.pc : Int)))).1 (tup (mulD (absT c e).1 (absT c e).2.1 1 (2 * (x.pc : Int)))).2.1 (x.pa : Int))
theorem scaled_told (x : Sec) (c e : Int) : Told (scaledT x c e) := by
  unfold scaledT
  split
  · exact told_zero _
  · split
    · exact told_zero _
    · exact (told_round2 _ _ _).2
theorem scaled_any (x : Sec) (c e : Int) (hc : I64 c) (hp : x.pc ≤ 100) (w : World) :
    Calls Tryz.prog 50 #[x.v, .agg #[.int .i64 c, .int .i64 e]] w fun r w' => r = .returned (tupV (scaledT x c e)) ∧ Below w.heap.size w w' := by
  have HS : ∀ V, Hid (Calls Tryz.prog 48 #[.agg #[.int .i64 c, .int .i64 e]] V fun r w' => r = .returned (.int .i64 (sgnT c e)) ∧ Below V.heap.size V w') := fun V => psign_any c e hc V
  have HN : ∀ V, Hid (Calls Tryz.prog 81 #[.agg #[.int .i64 c, .int .i64 e]] V fun r w' => r = .returned (tupV (tup (subD 0 0 c e))) ∧ Below V.heap.size V w') := fun V => by
    have := pneg_any c e hc V
    rw [(told_sub 0 0 c e).1] at this
    exact this
  obtain ⟨bf, af, wh, ze, pt, pa, pz, gr, pc, dg, tx⟩ := x
  simp only at hp
  unfold scaledT absT
  dsimp only
  by_cases hs : sgnT c e < 0
  · rw [if_pos hs]
    have ht := (told_sub 0 0 c e).2
    generalize tup (subD 0 0 c e) = a at *
    obtain ⟨c1, e1, er1⟩ := a
    dsimp only at *
    by_cases h1 : er1 = 0
    · rw [if_neg (by simpa using h1)]
      have HM : ∀ V, Hid (Calls Tryz.prog 82 #[.agg #[.int .i64 c1, .int .i64 e1], .agg #[.int .i64 1, .int .i64 (2 * (pc : Int))]] V fun r w' => r = .returned (tupV (tup (mulD c1 e1 1 (2 * (pc : Int))))) ∧ Below V.heap.size V w') := fun V => by
        have := pmul_any c1 e1 1 (2 * (pc : Int)) ht.1 ⟨by decide, by decide⟩ V
        rw [(told_mul c1 e1 1 (2 * (pc : Int))).1] at this
        exact this
      have hm := (told_mul c1 e1 1 (2 * (pc : Int))).2
      generalize tup (mulD c1 e1 1 (2 * (pc : Int))) = m at *
      obtain ⟨c2, e2, er2⟩ := m
      dsimp only at *
      by_cases h2 : er2 = 0
      · rw [if_neg (by simpa using h2)]
        have HR : ∀ V, Hid (Calls Tryz.prog 83 #[.agg #[.int .i64 c2, .int .i64 e2], .int .i64 (pa : Int)] V fun r w' => r = .returned (tupV (tup (roundV c2 e2 (pa : Int)))) ∧ Below V.heap.size V w') := fun V => by
          have := pround_any c2 e2 (pa : Int) hm.1 V
          rw [(told_round2 c2 e2 (pa : Int)).1] at this
          exact this
        generalize tup (roundV c2 e2 (pa : Int)) = q at *
        exact scaled_neg_ok _ _ _ _ _ _ _ _ (pc : Int) _ _ c e (sgnT c e) c1 e1 er1 c2 e2 er2 q.1 q.2.1 q.2.2 HS hs HN (by simpa using h1) ⟨by omega, by omega⟩ HM (by simpa using h2) HR w
      · rw [if_pos (by simpa using h2)]
        exact scaled_neg_over _ _ _ _ _ _ _ _ (pc : Int) _ _ c e (sgnT c e) c1 e1 er1 c2 e2 er2 HS hs HN (by simpa using h1) ⟨by omega, by omega⟩ HM (by simpa using h2) w
    · rw [if_pos (by simpa using h1)]
      exact scaled_neg_bad _ _ _ _ _ _ _ _ _ _ _ c e (sgnT c e) c1 e1 er1 HS hs HN (by simpa using h1) (by simpa using h1) w
  · rw [if_neg hs]
    dsimp only
    rw [if_neg (by simp)]
    have HM : ∀ V, Hid (Calls Tryz.prog 82 #[.agg #[.int .i64 c, .int .i64 e], .agg #[.int .i64 1, .int .i64 (2 * (pc : Int))]] V fun r w' => r = .returned (tupV (tup (mulD c e 1 (2 * (pc : Int))))) ∧ Below V.heap.size V w') := fun V => by
      have := pmul_any c e 1 (2 * (pc : Int)) hc ⟨by decide, by decide⟩ V
      rw [(told_mul c e 1 (2 * (pc : Int))).1] at this
      exact this
    have hm := (told_mul c e 1 (2 * (pc : Int))).2
    generalize tup (mulD c e 1 (2 * (pc : Int))) = m at *
    obtain ⟨c2, e2, er2⟩ := m
    dsimp only at *
    by_cases h2 : er2 = 0
    · rw [if_neg (by simpa using h2)]
      have HR : ∀ V, Hid (Calls Tryz.prog 83 #[.agg #[.int .i64 c2, .int .i64 e2], .int .i64 (pa : Int)] V fun r w' => r = .returned (tupV (tup (roundV c2 e2 (pa : Int)))) ∧ Below V.heap.size V w') := fun V => by
        have := pround_any c2 e2 (pa : Int) hm.1 V
        rw [(told_round2 c2 e2 (pa : Int)).1] at this
        exact this
      generalize tup (roundV c2 e2 (pa : Int)) = q at *
      exact scaled_pos_ok _ _ _ _ _ _ _ _ (pc : Int) _ _ c e (sgnT c e) c2 e2 er2 q.1 q.2.1 q.2.2 HS hs ⟨by omega, by omega⟩ HM (by simpa using h2) HR w
    · rw [if_pos (by simpa using h2)]
      exact scaled_pos_over _ _ _ _ _ _ _ _ (pc : Int) _ _ c e (sgnT c e) c2 e2 er2 HS hs ⟨by omega, by omega⟩ HM (by simpa using h2) w
end Go.Proofs.YtoncpcdepemlcaaGreatDoor
/- numfmt: number of any sections. -/
namespace Go.Proofs.YtoncpcdepemlcaaGreatDoor
open Go.RowKit Go.Shelf

/-- What a section may have. -/
structure SecOk (x : Sec) : Prop where
  bf : x.bf.length ≤ 64
  af : x.af.length ≤ 64
  ze : x.ze ≤ 64
  pz : x.pz ≤ 64
  pc : x.pc ≤ 64
theorem fig_len (x : Sec) (h : SecOk x) (P : List UInt8) (hP : P.length ≤ 100) : (figL x P).length ≤ 1000 := by
  obtain ⟨h1, h2⟩ := cut_lens P [46]
  have hz := h.ze
  have hp := h.pz
  unfold figL
  split
  · simp
  · dsimp only
    generalize hA : (if (Lib.cut P [46]).1 = [48] then [] else (Lib.cut P [46]).1) = A
    have hAl : A.length ≤ 100 := by
      rw [← hA]
      split
      · simp
      · omega
    have hW1 : (Lib.repeatL [48] ((x.ze : Int) - (A.length : Int)).toNat ++ A).length ≤ 200 := by rw [List.length_append, rep_len]; omega
    generalize Lib.repeatL [48] ((x.ze : Int) - (A.length : Int)).toNat ++ A = W1 at *
    have hW2 : (if x.gr then groupL W1 else W1).length ≤ 400 := by
      split
      · have := grp_len W1.length W1 0; unfold groupL; omega
      · omega
    generalize (if x.gr then groupL W1 else W1) = W2 at *
    split
    · rw [List.length_append, List.length_append, List.length_append, rep_len, show ([46] : List UInt8).length = 1 from rfl]
      omega
    · omega
def chosenS (xs : List Sec) (s : Int) : Sec := if s < 0 ∧ 1 < xs.length then (xs[1]?).getD (sec0 false) else if s = 0 ∧ 2 < xs.length then (xs[2]?).getD (sec0 false) else (xs[0]?).getD (sec0 false)
theorem chosen_mem {xs : List Sec} (hx : xs ≠ []) (s : Int) : chosenS xs s ∈ xs := by
  have h0 : 0 < xs.length := Nat.pos_of_ne_zero (fun h => hx (List.length_eq_zero_iff.1 h))
  have hm : ∀ k (h : k < xs.length), (xs[k]?).getD (sec0 false) ∈ xs := fun k h => by rw [List.getElem?_eq_getElem h]; exact List.getElem_mem h
  unfold chosenS
  split
  · rename_i h; exact hm 1 h.2
  · split
    · rename_i h; exact hm 2 h.2
    · exact hm 0 h0
theorem chosen_any (xs : List Sec) (hx : xs ≠ []) (s : Int) (v : Value) (w : World) (hs : SecsIn w v xs) :
    Calls Tryz.prog 49 #[v, .int .i64 s] w fun r w' => r = .returned (chosenS xs s).v ∧ Below w.heap.size w w' := by
  have h0 : 0 < xs.length := Nat.pos_of_ne_zero (fun h => hx (List.length_eq_zero_iff.1 h))
  obtain ⟨g, c, rfl, hg, hat⟩ := hs
  have hk : ∀ k (h : k < xs.length), SecAt w g k ((xs[k]?).getD (sec0 false)) := fun k h => hat k _ (by rw [List.getElem?_eq_getElem h]; rfl)
  unfold chosenS
  by_cases h1 : s < 0
  · by_cases hn : 1 < xs.length
    · rw [if_pos ⟨h1, hn⟩]
      have := hk 1 hn
      generalize (xs[1]?).getD (sec0 false) = x at *
      exact chosen_one g xs.length c s _ _ _ _ _ _ _ _ _ _ _ h1 (by omega) w hg this
    · rw [if_neg (fun h => hn h.2), if_neg (fun h => by omega)]
      have := hk 0 h0
      have e : xs.length = 1 := by omega
      generalize (xs[0]?).getD (sec0 false) = x at *
      rw [e]
      exact chosen_neg g c s _ _ _ _ _ _ _ _ _ _ _ h1 w hg this
  · rw [if_neg (fun h => h1 h.1)]
    by_cases h2 : s = 0
    · subst h2
      by_cases hn : 2 < xs.length
      · rw [if_pos ⟨rfl, hn⟩]
        have := hk 2 hn
        generalize (xs[2]?).getD (sec0 false) = x at *
        exact chosen_two g xs.length c _ _ _ _ _ _ _ _ _ _ _ (by omega) w hg this
      · rw [if_neg (fun h => hn h.2)]
        have := hk 0 h0
        generalize (xs[0]?).getD (sec0 false) = x at *
        exact chosen_nought g xs.length c _ _ _ _ _ _ _ _ _ _ _ (by omega) (by omega) w hg this
    · rw [if_neg (fun h => h2 h.1)]
      have := hk 0 h0
      generalize (xs[0]?).getD (sec0 false) = x at *
      exact chosen_pos g xs.length c s _ _ _ _ _ _ _ _ _ _ _ (by omega) h1 (by simpa using h2) w hg this
/-- A number by a code's sections. -/
def outL (x : Sec) (t : Int × Int × Int) : List UInt8 := x.bf ++ figL x (printS t.1 t.2.1).data.toList ++ x.af
def numL (xs : List Sec) (c e : Int) : List UInt8 :=
  if (scaledT (chosenS xs (sgnT c e)) c e).2.2 ≠ 0 then (showV (vN c e)).data.toList else
  if xs.length = 1 ∧ sgnT c e < 0 ∧ sgnT (scaledT (chosenS xs (sgnT c e)) c e).1 (scaledT (chosenS xs (sgnT c e)) c e).2.1 ≠ 0 then 45 :: outL (chosenS xs (sgnT c e)) (scaledT (chosenS xs (sgnT c e)) c e) else outL (chosenS xs (sgnT c e)) (scaledT (chosenS xs (sgnT c e)) c e)
set_option maxRecDepth 100000 in
set_option maxHeartbeats 2000000 in
theorem numberS_any (xs : List Sec) (hx : xs ≠ []) (hok : ∀ x ∈ xs, SecOk x) (c e : Int) (hc : I64 c) (v : Value) (w : World) (hE : EnvN w) (hs : SecsIn w v xs) :
    Calls Tryz.prog 23 #[v, (vN c e).v] w fun r w' => r = .returned (.string (bs (numL xs c e))) ∧ Below w.heap.size w w' := by
  have HSg : ∀ V, Hid (Calls Tryz.prog 48 #[.agg #[.int .i64 c, .int .i64 e]] V fun r w' => r = .returned (.int .i64 (sgnT c e)) ∧ Below V.heap.size V w') := fun V => psign_any c e hc V
  have HCh : ∀ V, Below w.heap.size w V → Hid (Calls Tryz.prog 49 #[v, .int .i64 (sgnT c e)] V fun r w' => r = .returned (chosenS xs (sgnT c e)).v ∧ Below V.heap.size V w') := fun V b => chosen_any xs hx _ v V (hs.below b)
  have hxo := hok _ (chosen_mem hx (sgnT c e))
  have HSh : ∀ V, EnvN V → Hid (Calls Tryz.prog 22 #[(vN c e).v] V fun r w' => r = .returned (.string (showV (vN c e))) ∧ Below V.heap.size V w') := fun V h => vshow_any (vN c e) hc V h.env
  unfold numL outL
  obtain ⟨g, cp, rfl, _, _⟩ := hs
  generalize sgnT c e = sg at *
  generalize chosenS xs sg = x at *
  clear hok hx
  generalize xs.length = nl at *
  have HSc : ∀ V, Hid (Calls Tryz.prog 50 #[x.v, .agg #[.int .i64 c, .int .i64 e]] V fun r w' => r = .returned (tupV (scaledT x c e)) ∧ Below V.heap.size V w') := fun V => scaled_any x c e hc (Nat.le_trans hxo.pc (by decide)) V
  have ht := scaled_told x c e
  generalize scaledT x c e = t at *
  have HF : ∀ V, EnvN V → Hid (Calls Tryz.prog 51 #[x.v, .agg #[.int .i64 t.1, .int .i64 t.2.1]] V fun r w' => r = .returned (.string (bs (figL x (printS t.1 t.2.1).data.toList))) ∧ Below V.heap.size V w') := fun V h => fig_any x t.1 t.2.1 ht.1 ht.2 (Nat.le_trans hxo.ze (by decide)) (Nat.le_trans hxo.pz (by decide)) V h
  have hfl := fig_len x hxo _ (print_len ht.1 ht.2)
  have HS3 : ∀ V, Hid (Calls Tryz.prog 48 #[.agg #[.int .i64 t.1, .int .i64 t.2.1]] V fun r w' => r = .returned (.int .i64 (sgnT t.1 t.2.1)) ∧ Below V.heap.size V w') := fun V => psign_any t.1 t.2.1 ht.1 V
  generalize figL x (printS t.1 t.2.1).data.toList = F at *
  generalize sgnT t.1 t.2.1 = s3 at *
  obtain ⟨c3, e3, er⟩ := t
  dsimp only at *
  have e1 : bs (x.bf ++ F ++ x.af) = bs x.bf ++ bs F ++ bs x.af := by rw [bs_join2, bs_join2]
  have e2 : bs (45 :: (x.bf ++ F ++ x.af)) = ⟨#[45]⟩ ++ (bs x.bf ++ bs F ++ bs x.af) := by
    rw [← e1, show (⟨#[45]⟩ : ByteArray) = bs [45] from rfl, bs_join2]; rfl
  have z0 : (bs x.bf).size ≤ 100 := by rw [bs_size]; exact Nat.le_trans hxo.bf (by decide)
  have z1 : (bs x.af).size ≤ 100 := by rw [bs_size]; exact Nat.le_trans hxo.af (by decide)
  have zF : (bs F).size ≤ 2000 := by rw [bs_size]; omega
  obtain ⟨bf, af, wh, ze, pt, pa, pz, gr, pc, dg, tx⟩ := x
  dsimp only at *
  by_cases her : er = 0
  · rw [if_neg (by simpa using her)]
    by_cases hn : nl = 1
    · by_cases hsg : sg < 0
      · by_cases h3 : s3 = 0
        · rw [if_neg (fun h => h.2.2 h3), e1]
          subst hn
          exact num_c _ _ _ _ _ _ _ _ _ _ _ _ cp c e _ _ _ sg c3 e3 er w hE HSg HCh HSc (by simpa using her) (bs F) HF zF z0 z1 hsg s3 HS3 (by simpa using h3)
        · rw [if_pos ⟨hn, hsg, h3⟩, e2]
          subst hn
          exact num_minus _ _ _ _ _ _ _ _ _ _ _ _ cp c e _ _ _ sg c3 e3 er w hE HSg HCh HSc (by simpa using her) (bs F) HF zF z0 z1 hsg s3 HS3 (by simpa using h3)
      · rw [if_neg (fun h => hsg h.2.1), e1]
        subst hn
        exact num_b _ _ _ _ _ _ _ _ _ _ _ _ cp c e _ _ _ sg c3 e3 er w hE HSg HCh HSc (by simpa using her) (bs F) HF zF z0 z1 hsg
    · rw [if_neg (fun h => hn h.1), e1]
      exact num_a _ _ _ _ _ _ _ _ _ _ _ _ nl cp c e _ _ _ sg c3 e3 er w hE HSg HCh HSc (by simpa using her) (bs F) HF zF z0 z1 (by simp; omega)
  · rw [if_pos (by simpa using her)]
    exact num_show _ _ _ _ _ _ _ _ _ _ _ _ nl cp c e _ _ _ sg c3 e3 er w hE HSg HCh HSc (by simpa using her) _ HSh
end Go.Proofs.YtoncpcdepemlcaaGreatDoor
/- numfmt: Render of a number. -/
namespace Go.Proofs.YtoncpcdepemlcaaGreatDoor
open Go.RowKit Go.Shelf

set_option maxRecDepth 100000 in
set_option maxHeartbeats 2000000 in
theorem render_walk (l : List UInt8) (xs : List Sec) (hp : (parseS l).1 = xs) (hx : xs ≠ []) (k c e : Int) (s : ByteArray) (b : Bool) (x : Int) (hk : (k == 1) = true) (R : ByteArray)
    (HRt : ∀ V, Hid (Calls Tryz.prog 21 #[.agg #[.int .i64 k, .int .i64 c, .int .i64 e, .string s, .bool b, .int .i64 x]] V fun r w' => r = .returned (.bool true) ∧ Below V.heap.size V w'))
    (HNu : ∀ V sv, EnvN V → SecsIn V sv xs → Hid (Calls Tryz.prog 23 #[sv, .agg #[.int .i64 k, .int .i64 c, .int .i64 e, .string s, .bool b, .int .i64 x]] V fun r w' => r = .returned (.string R) ∧ Below V.heap.size V w')) (w : World) (hE : EnvN w) :
    Calls Tryz.prog 13 #[.string (bs l), .agg #[.int .i64 k, .int .i64 c, .int .i64 e, .string s, .bool b, .int .i64 x]] w fun r w' => r = .returned (.string R) ∧ Below w.heap.size w w' := by
  have h0 : NB w (w.alloc (.cells #[.int .i64 k, .int .i64 c, .int .i64 e, .string s, .bool b, .int .i64 x] 40)) #[.int .i64 k, .int .i64 c, .int .i64 e, .string s, .bool b, .int .i64 x] := ⟨Row.new w 40 _, below_allocS (Below.refl _ w) _⟩
  go_enter Tryz.func13, Tryz.ntmps13
  go_upto_region 1 with fail
  generalize w.alloc (.cells #[.int .i64 k, .int .i64 c, .int .i64 e, .string s, .bool b, .int .i64 x] 40) = W at *
  have hE0 := hE.next h0.2
  have HPa : Hid (Calls Tryz.prog 6 #[.string (bs l)] W (ParseR l W)) := nparse_any l W hE0.mx hE0.sz
  go_wp2_with fail
  refine Calls.mono HPa.out ?_
  rintro _ w1 ⟨v, rfl, hown, b1⟩
  rw [hp] at hown
  have hS := secs_of_own hown hx
  have h1 := h0.next b1
  have hE1 := hE0.next b1
  clear HPa hown b1 hp
  have hne : ¬ xs.length = 0 := fun h => hx (List.length_eq_zero_iff.1 h)
  obtain ⟨g, cp, hv, hg, hat⟩ := hS
  have hS : SecsIn w1 v xs := ⟨g, cp, hv, hg, hat⟩
  subst hv
  have g0 : (((xs.length : Nat) : Int) == 0) = false := by simp; exact hx
  clear hg hat hx hne
  generalize (parseS l).2 = er at *
  obtain ⟨m0, m1, m2, m3, m4, m5⟩ := h1.1.six
  generalize hnl : xs.length = nl at *
  have HNL : Hid (xs.length = nl) := hnl
  clear hnl
  go_wp2_with fail
  refine Calls.mono (HRt _).out ?_
  rintro _ w2 ⟨rfl, l2⟩
  have h2 := h1.next l2
  have hS2 := hS.below l2
  have hE2 := hE1.next l2
  clear m0 m1 m2 m3 m4 m5 l2 HRt hS
  obtain ⟨m0, m1, m2, m3, m4, m5⟩ := h2.1.six
  go_wp2_with fail
  refine Calls.mono (HNu _ _ hE2 hS2).out ?_
  rintro _ w3 ⟨rfl, l3⟩
  have h3 := h2.next l3
  go_wp2
  go_ret
  exact ⟨rfl, h3.2⟩
/-- Render of a right number by a code with sections. -/
theorem render_num (l : List UInt8) (xs : List Sec) (hp : (parseS l).1 = xs) (hx : xs ≠ []) (hok : ∀ x ∈ xs, SecOk x) (c e : Int) (hc : I64 c) (hr : rightB c e = true) (w : World) (hE : EnvN w) :
    Calls Tryz.prog 13 #[.string (bs l), (vN c e).v] w fun r w' => r = .returned (.string (bs (numL xs c e))) ∧ Below w.heap.size w w' := by
  refine render_walk l xs hp hx 1 c e .empty false 0 rfl _ (fun V => ?_) (fun V sv hV hs => numberS_any xs hx hok c e hc sv V hV hs) w hE
  have := vright_any (vN c e) hc V
  rw [show rightV (vN c e) = true by simp [rightV, vN, Vl.eqB, hr]] at this
  exact this
end Go.Proofs.YtoncpcdepemlcaaGreatDoor
/- numfmt: the chapter's examples. -/
namespace Go.Proofs.YtoncpcdepemlcaaGreatDoor
open Go.RowKit Go.Shelf

def okB (xs : List Sec) : Bool := xs.all (fun x => decide (x.bf.length ≤ 64) && (decide (x.af.length ≤ 64) && (decide (x.ze ≤ 64) && (decide (x.pz ≤ 64) && decide (x.pc ≤ 64)))))
theorem ok_of {xs : List Sec} (h : okB xs = true) : ∀ x ∈ xs, SecOk x := by
  intro x hx
  have := List.all_eq_true.1 h x hx
  simp only [Bool.and_eq_true, decide_eq_true_eq] at this
  exact ⟨this.1, this.2.1, this.2.2.1, this.2.2.2.1, this.2.2.2.2⟩
/-- What a code and a number give, reckoned. -/
def chk (l : List UInt8) (c e : Int) (out : List UInt8) : Bool := !(parseS l).1.isEmpty && (okB (parseS l).1 && (rightB c e && (decide (numL (parseS l).1 c e = out))))
theorem rend_of {l : List UInt8} {c e : Int} {out : List UInt8} (h : chk l c e out = true) (hc : I64 c) (w : World) (hE : EnvN w) :
    Calls Tryz.prog 13 #[.string (bs l), (vN c e).v] w fun r w' => r = .returned (.string (bs out)) ∧ Below w.heap.size w w' := by
  unfold chk at h
  simp only [Bool.and_eq_true, decide_eq_true_eq] at h
  obtain ⟨h1, h2, h3, h4⟩ := h
  have := render_num l _ rfl (by intro e; rw [e] at h1; cases h1) (ok_of h2) c e hc h3 w hE
  rw [h4] at this
  exact this
theorem ex0 : chk [35, 44, 35, 35, 48, 46, 48, 48] 12345 (-1) [49, 44, 50, 51, 52, 46, 53, 48] = true := by kernel_rfl
theorem ex1 : chk [48, 37] 256 (-3) [50, 54, 37] = true := by kernel_rfl
theorem ex2 : chk [48, 59, 40, 48, 41] (-3) 0 [40, 51, 41] = true := by kernel_rfl
theorem ex3 : chk [34, 120, 34, 48, 46, 35] 2 0 [120, 50, 46] = true := by kernel_rfl
theorem ex4 : chk [35] 0 0 [] = true := by kernel_rfl
theorem ex5 : chk [45] 7 0 [45] = true := by kernel_rfl
set_option maxRecDepth 100000 in
set_option maxHeartbeats 400000 in
theorem lawNum_any (c e : Int) (w : World) : Calls Tryz.prog 20 #[.int .i64 c, .int .i64 e] w fun r w' => r = .returned (vN c e).v ∧ Below w.heap.size w w' := by
  go_enter Tryz.func20, Tryz.ntmps20
  go_wp2
  refine bodyPost_ret (ret_one rfl (g := w.heap.size) rfl (load25 (Row.new w 40 _) rfl)) rfl ⟨rfl, ?_⟩
  exact (Below.refl _ w).alloc (Nat.le_refl _) _
set_option maxRecDepth 100000 in
set_option maxHeartbeats 4000000 in
theorem alive_any (w : World) (hE : EnvN w) : Calls Tryz.prog 12 #[] w fun r w' => r = .returned (.bool true) ∧ Below w.heap.size w w' := by
  obtain ⟨v0, hv0⟩ : ∃ v, (vN 12345 (-1)).v = v := ⟨_, rfl⟩
  have N0 : ∀ V, Hid (Calls Tryz.prog 20 #[.int .i64 12345, .int .i64 (-1)] V fun r w' => r = .returned v0 ∧ Below V.heap.size V w') := fun V => by have := lawNum_any 12345 (-1) V; rw [hv0] at this; exact this
  have R0 : ∀ V, EnvN V → Hid (Calls Tryz.prog 13 #[.string ⟨#[35, 44, 35, 35, 48, 46, 48, 48]⟩, v0] V fun r w' => r = .returned (.string ⟨#[49, 44, 50, 51, 52, 46, 53, 48]⟩) ∧ Below V.heap.size V w') := fun V h => by have := rend_of ex0 ⟨by decide, by decide⟩ V h; rw [hv0] at this; exact this
  clear hv0
  obtain ⟨v1, hv1⟩ : ∃ v, (vN 256 (-3)).v = v := ⟨_, rfl⟩
  have N1 : ∀ V, Hid (Calls Tryz.prog 20 #[.int .i64 256, .int .i64 (-3)] V fun r w' => r = .returned v1 ∧ Below V.heap.size V w') := fun V => by have := lawNum_any 256 (-3) V; rw [hv1] at this; exact this
  have R1 : ∀ V, EnvN V → Hid (Calls Tryz.prog 13 #[.string ⟨#[48, 37]⟩, v1] V fun r w' => r = .returned (.string ⟨#[50, 54, 37]⟩) ∧ Below V.heap.size V w') := fun V h => by have := rend_of ex1 ⟨by decide, by decide⟩ V h; rw [hv1] at this; exact this
  clear hv1
  obtain ⟨v2, hv2⟩ : ∃ v, (vN (-3) 0).v = v := ⟨_, rfl⟩
  have N2 : ∀ V, Hid (Calls Tryz.prog 20 #[.int .i64 (-3), .int .i64 0] V fun r w' => r = .returned v2 ∧ Below V.heap.size V w') := fun V => by have := lawNum_any (-3) 0 V; rw [hv2] at this; exact this
  have R2 : ∀ V, EnvN V → Hid (Calls Tryz.prog 13 #[.string ⟨#[48, 59, 40, 48, 41]⟩, v2] V fun r w' => r = .returned (.string ⟨#[40, 51, 41]⟩) ∧ Below V.heap.size V w') := fun V h => by have := rend_of ex2 ⟨by decide, by decide⟩ V h; rw [hv2] at this; exact this
  clear hv2
  obtain ⟨v3, hv3⟩ : ∃ v, (vN 2 0).v = v := ⟨_, rfl⟩
  have N3 : ∀ V, Hid (Calls Tryz.prog 20 #[.int .i64 2, .int .i64 0] V fun r w' => r = .returned v3 ∧ Below V.heap.size V w') := fun V => by have := lawNum_any 2 0 V; rw [hv3] at this; exact this
  have R3 : ∀ V, EnvN V → Hid (Calls Tryz.prog 13 #[.string ⟨#[34, 120, 34, 48, 46, 35]⟩, v3] V fun r w' => r = .returned (.string ⟨#[120, 50, 46]⟩) ∧ Below V.heap.size V w') := fun V h => by have := rend_of ex3 ⟨by decide, by decide⟩ V h; rw [hv3] at this; exact this
  clear hv3
  obtain ⟨v4, hv4⟩ : ∃ v, (vN 0 0).v = v := ⟨_, rfl⟩
  have N4 : ∀ V, Hid (Calls Tryz.prog 20 #[.int .i64 0, .int .i64 0] V fun r w' => r = .returned v4 ∧ Below V.heap.size V w') := fun V => by have := lawNum_any 0 0 V; rw [hv4] at this; exact this
  have R4 : ∀ V, EnvN V → Hid (Calls Tryz.prog 13 #[.string ⟨#[35]⟩, v4] V fun r w' => r = .returned (.string ⟨#[]⟩) ∧ Below V.heap.size V w') := fun V h => by have := rend_of ex4 ⟨by decide, by decide⟩ V h; rw [hv4] at this; exact this
  clear hv4
  obtain ⟨v5, hv5⟩ : ∃ v, (vN 7 0).v = v := ⟨_, rfl⟩
  have N5 : ∀ V, Hid (Calls Tryz.prog 20 #[.int .i64 7, .int .i64 0] V fun r w' => r = .returned v5 ∧ Below V.heap.size V w') := fun V => by have := lawNum_any 7 0 V; rw [hv5] at this; exact this
  have R5 : ∀ V, EnvN V → Hid (Calls Tryz.prog 13 #[.string ⟨#[45]⟩, v5] V fun r w' => r = .returned (.string ⟨#[45]⟩) ∧ Below V.heap.size V w') := fun V h => by have := rend_of ex5 ⟨by decide, by decide⟩ V h; rw [hv5] at this; exact this
  clear hv5
  have b0 : Below w.heap.size w w := Below.refl _ w
  go_enter Tryz.func12, Tryz.ntmps12
  go_wp2_with fail
  refine Calls.mono (N0 _).out ?_
  rintro _ a0 ⟨rfl, l0⟩
  have c0 : Below w.heap.size w a0 := b0.trans (l0.mono b0.size)
  clear l0 N0
  go_wp2_with fail
  refine Calls.mono (R0 _ (hE.next c0)).out ?_
  rintro _ d0 ⟨rfl, m0⟩
  have b1 : Below w.heap.size w d0 := c0.trans (m0.mono c0.size)
  clear m0 R0
  go_wp2_with fail
  refine Calls.mono (N1 _).out ?_
  rintro _ a1 ⟨rfl, l1⟩
  have c1 : Below w.heap.size w a1 := b1.trans (l1.mono b1.size)
  clear l1 N1
  go_wp2_with fail
  refine Calls.mono (R1 _ (hE.next c1)).out ?_
  rintro _ d1 ⟨rfl, m1⟩
  have b2 : Below w.heap.size w d1 := c1.trans (m1.mono c1.size)
  clear m1 R1
  go_wp2_with fail
  refine Calls.mono (N2 _).out ?_
  rintro _ a2 ⟨rfl, l2⟩
  have c2 : Below w.heap.size w a2 := b2.trans (l2.mono b2.size)
  clear l2 N2
  go_wp2_with fail
  refine Calls.mono (R2 _ (hE.next c2)).out ?_
  rintro _ d2 ⟨rfl, m2⟩
  have b3 : Below w.heap.size w d2 := c2.trans (m2.mono c2.size)
  clear m2 R2
  go_wp2_with fail
  refine Calls.mono (N3 _).out ?_
  rintro _ a3 ⟨rfl, l3⟩
  have c3 : Below w.heap.size w a3 := b3.trans (l3.mono b3.size)
  clear l3 N3
  go_wp2_with fail
  refine Calls.mono (R3 _ (hE.next c3)).out ?_
  rintro _ d3 ⟨rfl, m3⟩
  have b4 : Below w.heap.size w d3 := c3.trans (m3.mono c3.size)
  clear m3 R3
  go_wp2_with fail
  refine Calls.mono (N4 _).out ?_
  rintro _ a4 ⟨rfl, l4⟩
  have c4 : Below w.heap.size w a4 := b4.trans (l4.mono b4.size)
  clear l4 N4
  go_wp2_with fail
  refine Calls.mono (R4 _ (hE.next c4)).out ?_
  rintro _ d4 ⟨rfl, m4⟩
  have b5 : Below w.heap.size w d4 := c4.trans (m4.mono c4.size)
  clear m4 R4
  go_wp2_with fail
  refine Calls.mono (N5 _).out ?_
  rintro _ a5 ⟨rfl, l5⟩
  have c5 : Below w.heap.size w a5 := b5.trans (l5.mono b5.size)
  clear l5 N5
  go_wp2_with fail
  refine Calls.mono (R5 _ (hE.next c5)).out ?_
  rintro _ d5 ⟨rfl, m5⟩
  have b6 : Below w.heap.size w d5 := c5.trans (m5.mono c5.size)
  clear m5 R5
  go_wp2
  go_ret
  exact ⟨rfl, b6⟩
end Go.Proofs.YtoncpcdepemlcaaGreatDoor
/- numfmt: a number and its opposite by two sections (pure). -/
namespace Go.Proofs.YtoncpcdepemlcaaGreatDoor
open Go.RowKit Go.Shelf

def sx : Sec := ⟨[], [], 1, 1, true, 2, 1, false, 0, true, false⟩
def sy : Sec := ⟨[40], [41], 1, 1, true, 2, 1, false, 0, true, false⟩
theorem par1 : (parseS [48, 46, 48, 35]).1 = [sx] := by kernel_rfl
theorem par2 : (parseS [48, 46, 48, 35, 59, 40, 48, 46, 48, 35, 41]).1 = [sx, sy] := by kernel_rfl
theorem ok1 : okB [sx] = true := by kernel_rfl
theorem ok2 : okB [sx, sy] = true := by kernel_rfl
theorem tell_again {c e C E : Int} (h : tell c e = some (C, E)) : tell C E = some (C, E) := by
  obtain ⟨h1, h2, h3, h4, h5, h6, h7⟩ := tell_some h
  have := tell_same (m := min e (-18)) (c := c) (e := e) (C := C) (E := E) (by omega) (by omega) (h7 _ (by omega) (by omega))
  rw [this, h]
theorem V_pos {c e : Int} (hc : 0 < c) : 0 < V (-18) c e := by
  unfold V
  exact Int.mul_pos hc (Int.pow_pos (by decide))
theorem sgn_pos {c e : Int} (hc : 0 < c) (he : -18 ≤ e ∧ e ≤ 18) : sgnT c e = 1 := by
  unfold sgnT
  rw [if_pos he]
  exact Int.sign_eq_one_of_pos (V_pos hc)
theorem mul_one {c e : Int} (h : tell c e = some (c, e)) (he : -18 ≤ e ∧ e ≤ 18) : tup (mulD c e 1 (2 * ((0 : Nat) : Int))) = (c, e, 0) := by
  unfold mulD
  rw [if_pos ⟨he, by decide⟩]
  have h1 : V (-18) 1 (2 * ((0 : Nat) : Int)) = 10 ^ 18 := by unfold V; simp
  rw [h1]
  have h2 := tell_pow (V (-18) c e) (-18) 18
  rw [show (-18 : Int) - ((18 : Nat) : Int) = -36 by decide, tell_V _ _ _ he.1, h] at h2
  rw [h2]
  rfl
theorem scaled_eq {x y : Sec} {c e n m : Int} (hp : x.pc = y.pc) (hq : x.pa = y.pa) (ha : absT n m = absT c e) : scaledT y n m = scaledT x c e := by
  unfold scaledT
  rw [ha, hp, hq]
theorem abs_pos {c e : Int} (hc : 0 < c) (he : -18 ≤ e ∧ e ≤ 18) : absT c e = (c, e, 0) := by
  unfold absT
  rw [sgn_pos hc he, if_neg (by decide)]
/-- The opposite of a number: what it is. -/
theorem opp {c e n m : Int} (hc : 0 < c) (he : -18 ≤ e ∧ e ≤ 18) (h : tell c e = some (c, e)) (hn : subD 0 0 c e = decV (some (n, m))) : I64 n ∧ rightB n m = true ∧ sgnT n m < 0 ∧ absT n m = (c, e, 0) := by
  unfold subD at hn
  rw [if_pos ⟨by decide, he⟩] at hn
  have hV0 : V (-18) 0 0 = 0 := by unfold V; simp
  rw [hV0] at hn
  have ht : tell (0 - V (-18) c e) (-18) = some (n, m) := by
    cases h2 : tell (0 - V (-18) c e) (-18) with
    | none => rw [h2] at hn; simp [decV, dv] at hn
    | some p =>
      rw [h2] at hn
      obtain ⟨p1, p2⟩ := p
      simp [decV, dv] at hn
      rw [hn.1, hn.2]
  obtain ⟨h1, h2, h3, h4, h5, h6, h7⟩ := tell_some ht
  have hV := h7 (-18) (by decide) (by omega)
  have hVs : V (-18) (0 - V (-18) c e) (-18) = 0 - V (-18) c e := by unfold V; simp
  rw [hVs] at hV
  have hp := V_pos (e := e) hc
  have hs : sgnT n m < 0 := by
    unfold sgnT
    rw [if_pos ⟨h1, h2⟩, hV]
    have : (0 - V (-18) c e).sign = -1 := Int.sign_eq_neg_one_of_neg (by omega)
    omega
  refine ⟨⟨h3, h4⟩, right_rt ⟨h1, h2⟩ (tell_rt ht), hs, ?_⟩
  unfold absT
  rw [if_pos hs]
  unfold subD
  rw [if_pos ⟨by decide, ⟨h1, h2⟩⟩, hV0, hV, show (0 : Int) - (0 - V (-18) c e) = V (-18) c e by omega, tell_V _ _ _ he.1, h]
  rfl
theorem round_two {c e : Int} (hc : 0 < c) (hi : I64 c) (he : -18 ≤ e ∧ e ≤ 18) : (tup (roundV c e ((2 : Nat) : Int))).2.2 = 0 := by
  have hok : ∀ a b : Int, -18 ≤ b → b ≤ 18 → -9223372036854775808 ≤ a → a ≤ 9223372036854775807 → (tup (decV (tell a b))).2.2 = 0 := fun a b h1 h2 h3 h4 => by
    obtain ⟨C, E, h⟩ := tell_of_dec a b h1 h2 h3 h4
    rw [h]
    rfl
  obtain ⟨i1, i2⟩ := hi
  unfold roundV
  rw [if_pos ⟨he, by decide⟩]
  split
  · rename_i hk
    rw [if_neg (by omega)]
    generalize hkk : (-((2 : Nat) : Int) - e).toNat = k
    have hk1 : 1 ≤ k := by omega
    have hd : c.natAbs / 10 ^ k ≤ c.natAbs / 10 := Nat.div_le_div_left (Nat.le_self_pow (by omega) 10) (by decide)
    have hu : upN c.natAbs k ≤ 1 := by unfold upN; split <;> omega
    have hn := Int.natCast_nonneg (c.natAbs / 10 ^ k + upN c.natAbs k)
    refine hok _ _ (by decide) (by decide) ?_ ?_
    · omega
    · omega
  · exact hok _ _ he.1 he.2 i1 i2
theorem fig_xy (P : List UInt8) : figL sy P = figL sx P := rfl
/-- With two sections a number and its opposite are rendered by their own section alone. -/
theorem signs {c e n m : Int} (hc : 0 < c) (hi : I64 c) (he : -18 ≤ e ∧ e ≤ 18) (h : tell c e = some (c, e)) (hn : subD 0 0 c e = decV (some (n, m))) :
    numL [sx, sy] c e = numL [sx] c e ∧ numL [sx, sy] n m = [40] ++ numL [sx] c e ++ [41] := by
  obtain ⟨_, _, h3, h4⟩ := opp hc he h hn
  have hs := sgn_pos hc he
  have ha := abs_pos hc he
  have hz : (scaledT sx c e).2.2 = 0 := by
    unfold scaledT
    rw [ha]
    rw [if_neg (by simp)]
    have hm := mul_one h he
    rw [show (sx.pc : Int) = ((0 : Nat) : Int) from rfl, hm, if_neg (by simp)]
    exact round_two hc hi he
  have hy : scaledT sy n m = scaledT sx c e := scaled_eq rfl rfl (h4.trans ha.symm)
  have hx1 : chosenS [sx] (sgnT c e) = sx := by rw [hs]; rfl
  have hx2 : chosenS [sx, sy] (sgnT c e) = sx := by rw [hs]; rfl
  have hx3 : chosenS [sx, sy] (sgnT n m) = sy := by unfold chosenS; rw [if_pos ⟨h3, by decide⟩]; rfl
  have e1 : numL [sx] c e = outL sx (scaledT sx c e) := by
    unfold numL
    rw [hx1, if_neg (by simpa using hz), if_neg (fun h => by have := h.2.1; omega)]
  have e2 : numL [sx, sy] c e = outL sx (scaledT sx c e) := by
    unfold numL
    rw [hx2, if_neg (by simpa using hz), if_neg (fun h => by have := h.2.1; omega)]
  have e3 : numL [sx, sy] n m = outL sy (scaledT sx c e) := by
    unfold numL
    rw [hx3, hy, if_neg (by simpa using hz), if_neg (fun h => by have := h.1; simp at this)]
  rw [e1, e2, e3]
  refine ⟨rfl, ?_⟩
  unfold outL
  rw [fig_xy]
  simp [sx, sy]
end Go.Proofs.YtoncpcdepemlcaaGreatDoor
/- numfmt: NumfmtSigns' law. -/
namespace Go.Proofs.YtoncpcdepemlcaaGreatDoor
open Go.RowKit Go.Shelf

set_option maxRecDepth 100000 in
set_option maxHeartbeats 4000000 in
theorem sign_a (c e C E s : Int) (hs : s ≠ 0) (M : ∀ V, Hid (Calls Tryz.prog 15 #[.int .i64 c, .int .i64 e] V fun r w' => r = .returned (.tuple #[.agg #[.int .i64 C, .int .i64 E], .int .i64 s]) ∧ Below V.heap.size V w'))
    (HL : ∀ V, EnvN V → Hid (Calls Tryz.prog 12 #[] V fun r w' => r = .returned (.bool true) ∧ Below V.heap.size V w')) (w : World) (hE : EnvN w) : Calls Tryz.prog 5 #[.int .i64 c, .int .i64 e] w fun r w' => r = .returned (.bool true) ∧ Below w.heap.size w w' := by
  go_enter Tryz.func5, Tryz.ntmps5
  go_wp2_with fail
  refine Calls.mono (M _).out ?_
  rintro _ v1 ⟨rfl, l1⟩
  clear M
  go_upto_region 2 with fail
  have r0 := Row.new v1 38 #[.int .i64 C, .int .i64 E]
  have b0 := l1.alloc l1.size (.cells #[.int .i64 C, .int .i64 E] 38)
  generalize v1.alloc (.cells #[.int .i64 C, .int .i64 E] 38) = W0 at *
  generalize v1.heap.size = P at *
  clear l1
  obtain ⟨z0, z1⟩ := r0.duo
  go_wp2_with fail
  refine Calls.mono (HL _ (hE.next b0)).out ?_
  rintro _ v9 ⟨rfl, l9⟩
  have b9 := b0.trans (l9.mono b0.size)
  clear l9 HL
  go_wp2
  go_ret
  exact ⟨rfl, b9⟩
set_option maxRecDepth 100000 in
set_option maxHeartbeats 4000000 in
theorem sign_a2 (c e C E : Int) (hs : C < 0) (M : ∀ V, Hid (Calls Tryz.prog 15 #[.int .i64 c, .int .i64 e] V fun r w' => r = .returned (.tuple #[.agg #[.int .i64 C, .int .i64 E], .int .i64 0]) ∧ Below V.heap.size V w'))
    (HL : ∀ V, EnvN V → Hid (Calls Tryz.prog 12 #[] V fun r w' => r = .returned (.bool true) ∧ Below V.heap.size V w')) (w : World) (hE : EnvN w) : Calls Tryz.prog 5 #[.int .i64 c, .int .i64 e] w fun r w' => r = .returned (.bool true) ∧ Below w.heap.size w w' := by
  go_enter Tryz.func5, Tryz.ntmps5
  go_wp2_with fail
  refine Calls.mono (M _).out ?_
  rintro _ v1 ⟨rfl, l1⟩
  clear M
  go_upto_region 2 with fail
  have r0 := Row.new v1 38 #[.int .i64 C, .int .i64 E]
  have b0 := l1.alloc l1.size (.cells #[.int .i64 C, .int .i64 E] 38)
  generalize v1.alloc (.cells #[.int .i64 C, .int .i64 E] 38) = W0 at *
  generalize v1.heap.size = P at *
  clear l1
  obtain ⟨z0, z1⟩ := r0.duo
  go_wp2_with fail
  refine Calls.mono (HL _ (hE.next b0)).out ?_
  rintro _ v9 ⟨rfl, l9⟩
  have b9 := b0.trans (l9.mono b0.size)
  clear l9 HL
  go_wp2
  go_ret
  exact ⟨rfl, b9⟩
set_option maxRecDepth 100000 in
set_option maxHeartbeats 4000000 in
theorem sign_b (c e C E n m g : Int) (hs : 0 ≤ C) (hg : g ≠ 0) (M : ∀ V, Hid (Calls Tryz.prog 15 #[.int .i64 c, .int .i64 e] V fun r w' => r = .returned (.tuple #[.agg #[.int .i64 C, .int .i64 E], .int .i64 0]) ∧ Below V.heap.size V w'))
    (N : ∀ V, Hid (Calls Tryz.prog 16 #[.agg #[.int .i64 C, .int .i64 E]] V fun r w' => r = .returned (.tuple #[.agg #[.int .i64 n, .int .i64 m], .int .i64 g]) ∧ Below V.heap.size V w'))
    (HL : ∀ V, EnvN V → Hid (Calls Tryz.prog 12 #[] V fun r w' => r = .returned (.bool true) ∧ Below V.heap.size V w')) (w : World) (hE : EnvN w) : Calls Tryz.prog 5 #[.int .i64 c, .int .i64 e] w fun r w' => r = .returned (.bool true) ∧ Below w.heap.size w w' := by
  go_enter Tryz.func5, Tryz.ntmps5
  go_wp2_with fail
  refine Calls.mono (M _).out ?_
  rintro _ v1 ⟨rfl, l1⟩
  clear M
  go_wp2_with fail
  have r0 := Row.new v1 38 #[.int .i64 C, .int .i64 E]
  have b0 := l1.alloc l1.size (.cells #[.int .i64 C, .int .i64 E] 38)
  generalize v1.alloc (.cells #[.int .i64 C, .int .i64 E] 38) = W0 at *
  generalize v1.heap.size = P at *
  clear l1
  refine Calls.mono (N _).out ?_
  rintro _ v2 ⟨rfl, l2⟩
  have r1 := r0.below l2 r0.lt
  have b1 := b0.trans (l2.mono b0.size)
  clear l2 N r0 b0 W0
  go_upto_region 5 with fail
  have r2 := Row.new v2 38 #[.int .i64 n, .int .i64 m]
  have r3 := r1.below ((Below.refl _ v2).alloc (Nat.le_refl _) (.cells #[.int .i64 n, .int .i64 m] 38)) r1.lt
  have b2 := b1.alloc b1.size (.cells #[.int .i64 n, .int .i64 m] 38)
  generalize v2.alloc (.cells #[.int .i64 n, .int .i64 m] 38) = W1 at *
  generalize v2.heap.size = Q at *
  clear r1 b1
  obtain ⟨y0, y1⟩ := r3.duo
  go_wp2_with fail
  refine Calls.mono (HL _ (hE.next b2)).out ?_
  rintro _ v9 ⟨rfl, l9⟩
  have b9 := b2.trans (l9.mono b2.size)
  clear l9 HL
  go_wp2
  go_ret
  exact ⟨rfl, b9⟩
set_option maxRecDepth 100000 in
set_option maxHeartbeats 4000000 in
theorem sign_b2 (c e E n m : Int) (M : ∀ V, Hid (Calls Tryz.prog 15 #[.int .i64 c, .int .i64 e] V fun r w' => r = .returned (.tuple #[.agg #[.int .i64 0, .int .i64 E], .int .i64 0]) ∧ Below V.heap.size V w'))
    (N : ∀ V, Hid (Calls Tryz.prog 16 #[.agg #[.int .i64 0, .int .i64 E]] V fun r w' => r = .returned (.tuple #[.agg #[.int .i64 n, .int .i64 m], .int .i64 0]) ∧ Below V.heap.size V w'))
    (HL : ∀ V, EnvN V → Hid (Calls Tryz.prog 12 #[] V fun r w' => r = .returned (.bool true) ∧ Below V.heap.size V w')) (w : World) (hE : EnvN w) : Calls Tryz.prog 5 #[.int .i64 c, .int .i64 e] w fun r w' => r = .returned (.bool true) ∧ Below w.heap.size w w' := by
  go_enter Tryz.func5, Tryz.ntmps5
  go_wp2_with fail
  refine Calls.mono (M _).out ?_
  rintro _ v1 ⟨rfl, l1⟩
  clear M
  go_wp2_with fail
  have r0 := Row.new v1 38 #[.int .i64 0, .int .i64 E]
  have b0 := l1.alloc l1.size (.cells #[.int .i64 0, .int .i64 E] 38)
  generalize v1.alloc (.cells #[.int .i64 0, .int .i64 E] 38) = W0 at *
  generalize v1.heap.size = P at *
  clear l1
  refine Calls.mono (N _).out ?_
  rintro _ v2 ⟨rfl, l2⟩
  have r1 := r0.below l2 r0.lt
  have b1 := b0.trans (l2.mono b0.size)
  clear l2 N r0 b0 W0
  go_upto_region 5 with fail
  have r2 := Row.new v2 38 #[.int .i64 n, .int .i64 m]
  have r3 := r1.below ((Below.refl _ v2).alloc (Nat.le_refl _) (.cells #[.int .i64 n, .int .i64 m] 38)) r1.lt
  have b2 := b1.alloc b1.size (.cells #[.int .i64 n, .int .i64 m] 38)
  generalize v2.alloc (.cells #[.int .i64 n, .int .i64 m] 38) = W1 at *
  generalize v2.heap.size = Q at *
  clear r1 b1
  obtain ⟨y0, y1⟩ := r3.duo
  go_wp2_with fail
  refine Calls.mono (HL _ (hE.next b2)).out ?_
  rintro _ v9 ⟨rfl, l9⟩
  have b9 := b2.trans (l9.mono b2.size)
  clear l9 HL
  go_wp2
  go_ret
  exact ⟨rfl, b9⟩
set_option maxRecDepth 100000 in
set_option maxHeartbeats 4000000 in
theorem sign_c (c e C E n m : Int) (hs : 0 < C) (a b : ByteArray) (ha : a.size ≤ 1000000) (hab : ⟨#[40]⟩ ++ a ++ ⟨#[41]⟩ = b) (M : ∀ V, Hid (Calls Tryz.prog 15 #[.int .i64 c, .int .i64 e] V fun r w' => r = .returned (.tuple #[.agg #[.int .i64 C, .int .i64 E], .int .i64 0]) ∧ Below V.heap.size V w'))
    (N : ∀ V, Hid (Calls Tryz.prog 16 #[.agg #[.int .i64 C, .int .i64 E]] V fun r w' => r = .returned (.tuple #[.agg #[.int .i64 n, .int .i64 m], .int .i64 0]) ∧ Below V.heap.size V w'))
    (R1 : ∀ V, EnvN V → Hid (Calls Tryz.prog 13 #[.string ⟨#[48, 46, 48, 35]⟩, .agg #[.int .i64 1, .int .i64 C, .int .i64 E, .string .empty, .bool false, .int .i64 0]] V fun r w' => r = .returned (.string a) ∧ Below V.heap.size V w'))
    (R2 : ∀ V, EnvN V → Hid (Calls Tryz.prog 13 #[.string ⟨#[48, 46, 48, 35, 59, 40, 48, 46, 48, 35, 41]⟩, .agg #[.int .i64 1, .int .i64 n, .int .i64 m, .string .empty, .bool false, .int .i64 0]] V fun r w' => r = .returned (.string b) ∧ Below V.heap.size V w'))
    (R3 : ∀ V, EnvN V → Hid (Calls Tryz.prog 13 #[.string ⟨#[48, 46, 48, 35, 59, 40, 48, 46, 48, 35, 41]⟩, .agg #[.int .i64 1, .int .i64 C, .int .i64 E, .string .empty, .bool false, .int .i64 0]] V fun r w' => r = .returned (.string a) ∧ Below V.heap.size V w'))
    (HL : ∀ V, EnvN V → Hid (Calls Tryz.prog 12 #[] V fun r w' => r = .returned (.bool true) ∧ Below V.heap.size V w')) (w : World) (hE : EnvN w) : Calls Tryz.prog 5 #[.int .i64 c, .int .i64 e] w fun r w' => r = .returned (.bool true) ∧ Below w.heap.size w w' := by
  go_enter Tryz.func5, Tryz.ntmps5
  go_wp2_with fail
  refine Calls.mono (M _).out ?_
  rintro _ v1 ⟨rfl, l1⟩
  clear M
  go_wp2_with fail
  have r0 := Row.new v1 38 #[.int .i64 C, .int .i64 E]
  have b0 := l1.alloc l1.size (.cells #[.int .i64 C, .int .i64 E] 38)
  generalize v1.alloc (.cells #[.int .i64 C, .int .i64 E] 38) = W0 at *
  generalize v1.heap.size = P at *
  clear l1
  refine Calls.mono (N _).out ?_
  rintro _ v2 ⟨rfl, l2⟩
  have r1 := r0.below l2 r0.lt
  have b1 := b0.trans (l2.mono b0.size)
  clear l2 N r0 b0 W0
  go_upto_region 5 with fail
  have r2 := Row.new v2 38 #[.int .i64 n, .int .i64 m]
  have r3 := r1.below ((Below.refl _ v2).alloc (Nat.le_refl _) (.cells #[.int .i64 n, .int .i64 m] 38)) r1.lt
  have b2 := b1.alloc b1.size (.cells #[.int .i64 n, .int .i64 m] 38)
  generalize v2.alloc (.cells #[.int .i64 n, .int .i64 m] 38) = W1 at *
  generalize v2.heap.size = Q at *
  clear r1 b1
  obtain ⟨y0, y1⟩ := r3.duo
  go_wp2_with fail
  refine Calls.mono (R1 _ (hE.next b2)).out ?_
  rintro _ u0 ⟨rfl, m0⟩
  have b3 := b2.trans (m0.mono b2.size)
  have p0 := r3.below m0 r3.lt
  have q0 := r2.below m0 r2.lt
  clear m0 R1
  obtain ⟨x0, x1⟩ := q0.duo
  go_wp2_with fail
  refine Calls.mono (R2 _ (hE.next b3)).out ?_
  rintro _ u1 ⟨rfl, m1⟩
  have b4 := b3.trans (m1.mono b3.size)
  have p1 := p0.below m1 p0.lt
  have q1 := q0.below m1 q0.lt
  clear m1 R2
  obtain ⟨y0, y1⟩ := p1.duo
  go_wp2_with fail
  refine Calls.mono (R3 _ (hE.next b4)).out ?_
  rintro _ u2 ⟨rfl, m2⟩
  have b5 := b4.trans (m2.mono b4.size)
  have p2 := p1.below m2 p1.lt
  have q2 := q1.below m2 q1.lt
  clear m2 R3
  go_wp2_with fail
  refine Calls.mono (HL _ (hE.next b5)).out ?_
  rintro _ v9 ⟨rfl, l9⟩
  have b9 := b5.trans (l9.mono b5.size)
  clear l9 HL
  go_wp2
  go_ret
  exact ⟨rfl, b9⟩
theorem dec_two (o : Option (Int × Int)) : (∃ n m, o = some (n, m)) ∨ decV o = .tuple #[.agg #[.int .i64 0, .int .i64 0], .int .i64 30] := by
  cases o with
  | none => exact .inr rfl
  | some p => exact .inl ⟨p.1, p.2, rfl⟩
theorem num_len {c e : Int} (hc : 0 < c) (hi : I64 c) (he : -18 ≤ e ∧ e ≤ 18) (h : tell c e = some (c, e)) : (numL [sx] c e).length ≤ 1000000 := by
  have hs := sgn_pos hc he
  have hx1 : chosenS [sx] (sgnT c e) = sx := by rw [hs]; rfl
  have hok : SecOk sx := ok_of ok1 sx (by simp)
  have ht := scaled_told sx c e
  have hfl := fig_len sx hok _ (print_len ht.1 ht.2)
  have ha := abs_pos hc he
  have hz : (scaledT sx c e).2.2 = 0 := by
    unfold scaledT
    rw [ha]
    rw [if_neg (by simp)]
    have hm := mul_one h he
    rw [show (sx.pc : Int) = ((0 : Nat) : Int) from rfl, hm, if_neg (by simp)]
    exact round_two hc hi he
  unfold numL
  rw [hx1, if_neg (by simpa using hz), if_neg (fun h => by have := h.2.1; omega)]
  unfold outL
  simp [sx] at hfl ⊢
  omega
theorem signs_any (c e : Int) (hc : I64 c) (w : World) (hE : EnvN w) : Calls Tryz.prog 5 #[.int .i64 c, .int .i64 e] w fun r w' => r = .returned (.bool true) ∧ Below w.heap.size w w' := by
  have HL : ∀ V, EnvN V → Hid (Calls Tryz.prog 12 #[] V fun r w' => r = .returned (.bool true) ∧ Below V.heap.size V w') := fun V hV => alive_any V hV
  cases ht : tell c e with
  | none => exact sign_a c e 0 0 30 (by decide) (fun V => by have := rmake_any c e hc V; rw [ht] at this; exact this) HL w hE
  | some p =>
    obtain ⟨C, E⟩ := p
    have M : ∀ V, Hid (Calls Tryz.prog 15 #[.int .i64 c, .int .i64 e] V fun r w' => r = .returned (.tuple #[.agg #[.int .i64 C, .int .i64 E], .int .i64 0]) ∧ Below V.heap.size V w') := fun V => by have := rmake_any c e hc V; rw [ht] at this; exact this
    obtain ⟨h1, h2, h3, h4, _, _, _⟩ := tell_some ht
    have hC : I64 C := ⟨h3, h4⟩
    have hE' : -18 ≤ E ∧ E ≤ 18 := ⟨h1, h2⟩
    have N := fun V => rneg_any C E hC V
    by_cases hn : C < 0
    · exact sign_a2 c e C E hn M HL w hE
    by_cases h0 : C = 0
    · subst h0
      obtain ⟨p, q, s, hs⟩ := subD_form 0 0 0 E
      have : s = 0 := by
        unfold subD at hs
        rw [if_pos ⟨by decide, hE'⟩] at hs
        have hV0 : V (-18) 0 0 - V (-18) 0 E = 0 := by unfold V; simp
        rw [hV0, show tell 0 (-18) = some (0, 0) by simp [tell, tellW_zero]] at hs
        simp [decV, dv] at hs
        exact hs.2.symm
      subst this
      exact sign_b2 c e E p q M (fun V => by have := N V; rw [hs] at this; exact this) HL w hE
    have hpos : 0 < C := by omega
    have hag := tell_again ht
    have hsd : subD 0 0 C E = decV (tell (V (-18) 0 0 - V (-18) C E) (-18)) := by unfold subD; rw [if_pos ⟨by decide, hE'⟩]
    rcases dec_two (tell (V (-18) 0 0 - V (-18) C E) (-18)) with ⟨n, m, hnm⟩ | hbad
    · rw [hnm] at hsd
      obtain ⟨g1, g2, _, _⟩ := opp hpos hE' hag hsd
      obtain ⟨k1, k2⟩ := signs hpos hC hE' hag hsd
      have hr : rightB C E = true := right_rt hE' (tell_rt ht)
      have n1 := num_len hpos hC hE' hag
      have A := fun V hV => render_num _ _ par1 (by simp) (ok_of ok1) C E hC hr V hV
      have B := fun V hV => render_num _ _ par2 (by simp) (ok_of ok2) n m g1 g2 V hV
      have D := fun V hV => render_num _ _ par2 (by simp) (ok_of ok2) C E hC hr V hV
      rw [k2] at B
      rw [k1] at D
      refine sign_c c e C E n m hpos (bs (numL [sx] C E)) (bs ([40] ++ numL [sx] C E ++ [41])) (by simpa [bs, ByteArray.size] using n1) ?_ M (fun V => by have := N V; rw [hsd] at this; exact this) A B D HL w hE
      apply ByteArray.ext
      simp [bs]
    · exact sign_b c e C E 0 0 30 (by omega) (by decide) M (fun V => by have := N V; rw [hsd, hbad] at this; exact this) HL w hE
end Go.Proofs.YtoncpcdepemlcaaGreatDoor
