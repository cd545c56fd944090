/- CellsThere, one case. -/
import Derived.Test.YtnblbakjfpfipaaDoorWthp
namespace Go.Proofs.YtnblbakjfpfipaaDoor
open Go.RowKit

set_option maxRecDepth 100000 in
set_option maxHeartbeats 4000000 in
theorem there_ft (x y : Rf) (ha : x.ac = false) (hb' : x.ar = true) (dc dr : Int) (hc1 : -9223372036854775808 ≤ dc) (hc2 : dc ≤ 9223372036854775807) (hr1 : -9223372036854775808 ≤ dr) (hr2 : dr ≤ 9223372036854775807) (h : shiftR x dc dr = some y) (w : World) (hE : Env w) :
    Calls Tryd.prog 4 #[x.v, .int .i64 dc, .int .i64 dr] w fun e w' => e = .returned (.bool true) ∧ Below w.heap.size w w' := by
  have HS : ∀ W, Hid _ := fun W => shift_any x dc dr hc1 hc2 hr1 hr2 W
  rw [h] at HS
  have HA : ∀ W, Env W → Hid _ := fun W hW => alive_any W hW
  obtain ⟨g1, g2, g3, g4, g5, g6, g7⟩ := shiftR_some h
  have hb := rightB_bounds g1
  have hb2 := rightB_bounds g2
  obtain ⟨ec, hec⟩ : ∃ ec, wrap64 (-dc) = ec := ⟨_, rfl⟩
  obtain ⟨er, her⟩ : ∃ er, wrap64 (-dr) = er := ⟨_, rfl⟩
  have hback : shiftR y ec er = some x := shiftR_back h (fun ha => by
    rw [ha] at g6
    simp at g6
    rw [← hec, wrap64_id _ (by omega)]) (fun ha => by
    rw [ha] at g7
    simp at g7
    rw [← her, wrap64_id _ (by omega)])
  have HT : ∀ W, Hid _ := fun W => shift_any y ec er (by rw [← hec]; unfold wrap64; omega) (by rw [← hec]; unfold wrap64; omega) (by rw [← her]; unfold wrap64; omega) (by rw [← her]; unfold wrap64; omega) W
  rw [hback] at HT
  have HR : ∀ W, Hid _ := fun W => right_any y W
  rw [g2] at HR
  obtain ⟨s, c, r, ac, ar⟩ := x
  obtain ⟨s2, c2, r2, ac2, ar2⟩ := y
  simp only at g3 g4 g5 g6 g7
  simp only at ha hb'
  subst g3 g4 g5
  subst ha hb'
  have e6 : false = true → c2 = c := fun e => by first | exact absurd e (by decide) | (simp at g6; exact g6)
  have e7 : true = true → r2 = r := fun e => by first | exact absurd e (by decide) | (simp at g7; exact g7)
  have e7 := e7 rfl
  clear e6
  subst e7
  unfold Rf.v at *
  simp only [Option.getD_some, Option.isSome_some] at HS HT HR ⊢
  clear h hc1 hc2 hr1 hr2 hback g1 g2 g6 g7 hb hb2
  have EC : Hid (wrap64 (-dc) = ec) := hec
  have ER : Hid (wrap64 (-dr) = er) := her
  clear hec her
  go_enter Tryd.func4, Tryd.ntmps4
  go_wp2_with fail
  refine Calls.mono (HS _).out ?_
  rintro _ w1 ⟨rfl, b1⟩
  obtain ⟨hA0, hB0⟩ := one_row w w1 _ _ b1
  have hA := hA0.alloc (.cells #[.string s2, .int .i64 c2, .int .i64 r2, .bool false, .bool true] 23)
  have hY := Row.new w1 23 #[.string s2, .int .i64 c2, .int .i64 r2, .bool false, .bool true]
  have hB := below_allocS hB0 (.cells #[.string s2, .int .i64 c2, .int .i64 r2, .bool false, .bool true] 23)
  clear b1 HS hA0 hB0
  go_wp2_with fail
  rw [EC.out, ER.out]
  refine Calls.mono (HT _).out ?_
  rintro _ w2 ⟨rfl, b2⟩
  have hA2 := (hA.below b2 hA.lt).alloc (.cells #[.string s2, .int .i64 c, .int .i64 r2, .bool false, .bool true] 23)
  have hY2 := (hY.below b2 hY.lt).alloc (.cells #[.string s2, .int .i64 c, .int .i64 r2, .bool false, .bool true] 23)
  have hX2 := Row.new w2 23 #[.string s2, .int .i64 c, .int .i64 r2, .bool false, .bool true]
  have hB2 := below_allocS (hB.trans (b2.mono hB.size)) (.cells #[.string s2, .int .i64 c, .int .i64 r2, .bool false, .bool true] 23)
  have hYo := hY.below b2 hY.lt
  clear b2 HT hA hY hB
  obtain ⟨y0, y1, y2, y3, y4⟩ := hY2.five
  have hltY := hYo.lt
  clear hYo
  go_wp2_with fail
  refine Calls.mono (HR _).out ?_
  rintro _ w3 ⟨rfl, b3⟩
  have hA3 := hA2.below b3 hA2.lt
  have hY3 := hY2.below b3 hY2.lt
  have hX3 := hX2.below b3 hX2.lt
  have hB3 := hB2.trans (b3.mono hB2.size)
  clear b3 HR y0 y1 y2 y3 y4 hA2 hY2 hX2 hB2
  obtain ⟨y0, y1, y2, y3, y4⟩ := hY3.five
  obtain ⟨a0, a1, a2, a3, a4⟩ := hA3.five
  obtain ⟨x0, x1, x2, x3, x4⟩ := hX3.five
  have HB3 : Hid (Below w.heap.size w w3) := hB3
  have HE3 : Hid (Env w3) := hE.below hB3
  clear hA3 hY3 hX3 hB3 hE hltY EC ER
  generalize (Value.tuple #[.agg #[.string s2, .int .i64 c2, .int .i64 r2, .bool false, .bool true], .bool true]) = t1
  generalize (Value.tuple #[.agg #[.string s2, .int .i64 c, .int .i64 r2, .bool false, .bool true], .bool true]) = t2
  generalize (Value.agg #[.string s2, .int .i64 c2, .int .i64 r2, .bool false, .bool true]) = t3
  generalize (Value.agg #[.string s2, .int .i64 c, .int .i64 r2, .bool false, .bool true]) = t4
  have q1 := same23 s2 c r2 false true
  have hss : (s2.toList == s2.toList) = true := by simp
  have hcc : (c2 == c2) = true := by simp
  have hrr : (r2 == r2) = true := by simp
  go_wp2_with fail
  all_goals first | (exfalso; apply undef_bool; assumption) | skip
  refine Calls.mono (HA _ HE3.out).out ?_
  rintro _ w4 ⟨rfl, b4⟩
  clear HA
  go_wp2
  go_ret
  exact ⟨rfl, HB3.out.trans (b4.mono HB3.out.size)⟩
end Go.Proofs.YtnblbakjfpfipaaDoor
