/- The spending where there is no symbol at all. -/
import Derived.Test.YtiakploggmmklaaSpd
namespace Go.Proofs.Ytiakploggmmklaa
open Go.RowKit Go.Shelf

attribute [local go_sem] Oper.semAt_some

set_option maxRecDepth 100000 in
set_option maxHeartbeats 4000000 in
theorem spend_zero (S0 : Nat → Prop) (b : Option Addr) (cb GA GL limit cl N : Nat) (sl : List Coin) (os ls : List Int) (w : World) (hS0 : ∀ k, S0 k → k < w.heap.size) (hR : RowsIn N w GA limit sl limit) (hO : IntsIn S0 w (.slice b os.length cb) os) (hL : Row w GL 3 (intsV ls)) (hne : ¬ S0 GL)
    (_h1 : 1 ≤ limit) (h15 : limit ≤ 15) (h0 : Hid (os.length = 0)) (hsl : sl.length = os.length) (hlo : os.length ≤ 320) (_hos : ∀ z ∈ os, 0 ≤ z ∧ z < ls.length) (hls : ∀ v ∈ ls, v = 0) (hsafe : ∀ k, k < limit → (spR sl os ls 0 limit k).2 ≤ (rowN sl (limit - 1 - k)).length) :
    CallsIn Fence.wide 6 Try.prog 12 #[.slice (some ⟨GA, 0, none⟩) limit limit, .slice b os.length cb, .slice (some ⟨GL, 0, none⟩) ls.length cl] w fun e w' =>
      e = .returned (.tuple #[]) ∧ Row w' GL 3 (intsV (spR sl os ls 0 limit limit).1) ∧ Kept (fun k => k < w.heap.size ∧ k ≠ GL) w w' := by
  have hlsk : ∀ k, k ≤ limit → (spR sl os ls 0 limit k).1.length = ls.length ∧ ∀ v ∈ (spR sl os ls 0 limit k).1, 0 ≤ v ∧ v ≤ ((1000 * k : Nat) : Int) := by
    intro k
    induction k with
    | zero => exact fun _ => ⟨rfl, fun v hv => by have := hls v hv; omega⟩
    | succ k ih =>
      intro hk
      obtain ⟨h1', h2'⟩ := ih (by omega)
      refine ⟨by rw [spR]; exact (spA_length _ _ _ _).trans h1', fun v hv => ?_⟩
      rw [spR] at hv
      have := spA_bd os (rowN sl (limit - 1 - k)) _ _ h2' _ v hv
      have h3 := hsafe k (by omega)
      have h4 := rowN_length sl (limit - 1 - k)
      omega
  obtain ⟨g, cs, hRA, hcs, hcc, hgg⟩ := hR
  have hp : ¬ (0 : Int) < (2 : Int) * os.length - 2 := by have := h0.out; omega
  have hp2 : (2 : Int) * os.length - 2 = -2 := by have := h0.out; omega
  have hmx : Try.prog.follows .mixedOrders = true := by kernel_rfl
  have hGL := hL.lt
  have hGA := hRA.lt
  refine callsIn_of_wp_marks Try.func12 rfl trivial ?_ rfl
  simp only [Try.ntmps12, List.size_toArray, List.length_cons, List.length_nil, Nat.reduceAdd, Nat.reduceSub, Array.replicate_succ, Array.replicate_zero, List.push_toArray, List.append_toArray, List.nil_append, List.cons_append]
  gi_wp2_with (refine ⟨trivial, ?_⟩; gi_at_call 19; refine (backward_in Fence.wide _ trivial rfl _ _ _ _).mono ?_; rintro e w' ⟨rfl, rfl⟩)
  have b0 := Row.new w 22 #[.slice b os.length cb]
  have b1 := Row.new (w.alloc (.cells #[.slice b os.length cb] 22)) 22 #[.slice (some ⟨GL, 0, none⟩) ls.length cl]
  have b2 := Row.new ((w.alloc (.cells #[.slice b os.length cb] 22)).alloc (.cells #[.slice (some ⟨GL, 0, none⟩) ls.length cl] 22)) 3 #[.int .i64 0]
  have b3 := Row.new (((w.alloc (.cells #[.slice b os.length cb] 22)).alloc (.cells #[.slice (some ⟨GL, 0, none⟩) ls.length cl] 22)).alloc (.cells #[.int .i64 0] 3)) 35 #[.slice (some ⟨GA, 0, none⟩) limit limit]
  simp only [World.size_alloc] at b1 b2 b3
  have b0 := ((b0.alloc (.cells #[.slice (some ⟨GL, 0, none⟩) ls.length cl] 22)).alloc (.cells #[.int .i64 0] 3)).alloc (.cells #[.slice (some ⟨GA, 0, none⟩) limit limit] 35)
  have b1 := (b1.alloc (.cells #[.int .i64 0] 3)).alloc (.cells #[.slice (some ⟨GA, 0, none⟩) limit limit] 35)
  have b2 := b2.alloc (.cells #[.slice (some ⟨GA, 0, none⟩) limit limit] 35)
  have hBw : Below w.heap.size w ((((w.alloc (.cells #[.slice b os.length cb] 22)).alloc (.cells #[.slice (some ⟨GL, 0, none⟩) ls.length cl] 22)).alloc (.cells #[.int .i64 0] 3)).alloc (.cells #[.slice (some ⟨GA, 0, none⟩) limit limit] 35)) := ((((Below.refl _ w).alloc (Nat.le_refl _) _).alloc (by simp) _).alloc (by simp; omega) _).alloc (by simp; omega) _
  have hsz : ((((w.alloc (.cells #[.slice b os.length cb] 22)).alloc (.cells #[.slice (some ⟨GL, 0, none⟩) ls.length cl] 22)).alloc (.cells #[.int .i64 0] 3)).alloc (.cells #[.slice (some ⟨GA, 0, none⟩) limit limit] 35)).heap.size = w.heap.size + 4 := by simp
  have dL := hL.below hBw hGL
  have dA := hRA.below hBw hGA
  have dg := fun i hi => (hgg i hi).1.below hBw (hgg i hi).1.lt
  have hgl : ∀ i, i < limit → g i < w.heap.size := fun i hi => (hgg i hi).1.lt
  have hgn : ∀ i, i < limit → g i ≠ GL := fun i hi e => by
    have h1 : w.heap[g i]? = _ := (hgg i hi).1
    rw [e, show w.heap[GL]? = _ from hL] at h1
    simp at h1
  have hAn : GA ≠ GL := fun e => by
    have h1 : w.heap[GA]? = _ := hRA
    rw [e, show w.heap[GL]? = _ from hL] at h1
    simp at h1
  have dO : IntsIn (fun k => k < w.heap.size + 4 ∧ k ≠ GL ∧ k ≠ w.heap.size + 1 + 1) ((((w.alloc (.cells #[.slice b os.length cb] 22)).alloc (.cells #[.slice (some ⟨GL, 0, none⟩) ls.length cl] 22)).alloc (.cells #[.int .i64 0] 3)).alloc (.cells #[.slice (some ⟨GA, 0, none⟩) limit limit] 35)) (.slice b os.length cb) os := (hO.kept (Kept.of_below hBw hS0)).mono (fun k hk => ⟨by have := hS0 k hk; omega, fun e => hne (e ▸ hk), by have := hS0 k hk; omega⟩)
  clear hL hRA hgg hO
  generalize (((w.alloc (.cells #[.slice b os.length cb] 22)).alloc (.cells #[.slice (some ⟨GL, 0, none⟩) ls.length cl] 22)).alloc (.cells #[.int .i64 0] 3)).alloc (.cells #[.slice (some ⟨GA, 0, none⟩) limit limit] 35) = wd at b0 b1 b2 b3 hBw hsz dL dA dg dO ⊢
  refine wpIn_range_rel rfl (by omega) (gf := 26) (lb := #[.pointer (some ⟨w.heap.size + 1 + 1 + 1, 0, none⟩)]) rfl trivial (enters_of Try.func26 (by kernel_rfl) rfl)
    (bwd_seq Fence.wide 5 trivial rfl (by omega) (w.heap.size + 1 + 1 + 1) GA limit (fun k => k < w.heap.size + 4 ∧ k ≠ GL ∧ k ≠ w.heap.size + 1 + 1) (fun i => .slice (some ⟨g i, 0, none⟩) (rowN sl i).length (rowN sl i).length) ⟨by omega, by omega, by omega⟩ ⟨by omega, hAn, by omega⟩ h15 wd (fun k hk => by omega) (b3.cell rfl) (fun i hi => dA.cell (hcc i hi)))
    Kept.trans (keptK_b (fun x hx => by omega)) (fun _ => rfl)
    (fun pre W => Row W GL 3 (intsV (spR sl os ls 0 limit pre.length).1) ∧ Row W (w.heap.size + 1 + 1) 3 #[.int .i64 ((spR sl os ls 0 limit pre.length).2 : Int)] ∧ Kept (fun k => k < w.heap.size + 4 ∧ k ≠ GL ∧ k ≠ w.heap.size + 1 + 1) wd W)
    (fun s A B row hs hg hr => ⟨row_grown2 hs.1 hg (fun r e => (hr r e).2), row_grown2 hs.2.1 hg (fun r e => (hr r e).2), hs.2.2.grown hg (fun k hk => by have := hs.2.2.size; omega) (fun k e hk => by have := (hr k e).1; omega)⟩)
    ⟨dL, b2, Kept.refl _ _⟩
    (fun x => { tmps := #[.slice (some ⟨GA, 0, none⟩) limit limit, .slice b os.length cb, .slice (some ⟨GL, 0, none⟩) ls.length cl, undef, .pointer (some ⟨w.heap.size, 0, none⟩), .pointer (some ⟨w.heap.size + 1, 0, none⟩), .pointer (some ⟨w.heap.size + 1 + 1, 0, none⟩), undef, .slice (some ⟨g x.1, 0, none⟩) (rowN sl x.1).length (rowN sl x.1).length, undef, undef, undef, .slice b os.length cb, .int .i64 os.length, .int .i64 (2 * os.length), .int .i64 (-2), .int .i64 0, .slice (some ⟨GA, 0, none⟩) limit limit, .func (.func 26) #[] #[.pointer (some ⟨w.heap.size + 1 + 1 + 1, 0, none⟩)], .int .i64 x.1, .slice (some ⟨g x.1, 0, none⟩) (rowN sl x.1).length (rowN sl x.1).length, undef, undef, undef, undef, undef, undef, undef, undef, undef, undef, undef, undef, undef, undef, undef, undef, undef, undef, undef, undef, undef, undef, undef, undef, undef, undef], defers := [] }) ?assign ?body ?done
  case assign =>
    intro l x W K hK
    gi_wp2
    exact hK
  case body =>
    rintro l pre x W ⟨I0, I1, IK⟩ hRx
    have hxl : x.1 < limit := x.2
    have hxk : limit - 1 - pre.length = x.1 := by omega
    have hts := hsafe pre.length (by omega)
    rw [hxk] at hts
    have HN1 : Hid ((spR sl os ls 0 limit (pre ++ [x]).length).1 = (spA os (rowN sl x.1) (spR sl os ls 0 limit pre.length).1 (spR sl os ls 0 limit pre.length).2).1) := by
      show _ = _
      rw [List.length_append, List.length_singleton, spR, hxk]
    have HN2 : Hid ((spR sl os ls 0 limit (pre ++ [x]).length).2 = 2 * ((spR sl os ls 0 limit pre.length).2 - (spA os (rowN sl x.1) (spR sl os ls 0 limit pre.length).1 (spR sl os ls 0 limit pre.length).2).2)) := by
      show _ = _
      rw [List.length_append, List.length_singleton, spR, hxk]
    have HKL := hlsk pre.length (by omega)
    have Dg : Row W (g x.1) 54 (coinA (rowN sl x.1)) := (dg x.1 hxl).kept IK ⟨by have := hgl x.1 hxl; omega, hgn x.1 hxl, by have := hgl x.1 hxl; omega⟩
    have D0 := b0.kept IK ⟨by omega, by omega, by omega⟩
    have D1 := b1.kept IK ⟨by omega, by omega, by omega⟩
    have DO := dO.kept IK
    have hrl := rowN_length sl x.1
    have hrc := rowN_count sl x.1
    clear dA dg hsafe b0 b1 b2 b3 dL dO hxk hcc
    generalize hlk : (spR sl os ls 0 limit pre.length).1 = lk at I0 HN1 HN2 HKL
    generalize htk : (spR sl os ls 0 limit pre.length).2 = t at I1 HN1 HN2 hts
    clear hlk htk
    generalize rowN sl x.1 = row at Dg HN1 HN2 hts hrl hrc ⊢
    have cT := I1.cell (i := 0) (v := .int .i64 (t : Int)) rfl
    have hfit : (t : Int) ≤ row.length := by omega
    gi_wp2
    gi_loopw [9, 25] (fun v9 v25 wr => ∃ m : Nat, m ≤ t ∧ v9 = .int .i64 ((spA os row lk m).2 : Int) ∧ v25 = .int .i64 m ∧ Row wr GL 3 (intsV (spA os row lk m).1) ∧ Row wr (w.heap.size + 1 + 1) 3 #[.int .i64 (t : Int)] ∧ Kept (fun k => k < w.heap.size + 4 ∧ k ≠ GL ∧ k ≠ w.heap.size + 1 + 1) W wr ∧ KeepsOthers W wr)
      (fun _ v25 _ => t - (intOf v25).toNat)
    case atStart => exact ⟨0, Nat.zero_le _, rfl, rfl, I0, I1, Kept.refl _ _, KeepsOthers.refl _⟩
    case round =>
      obtain ⟨m, hm, rfl, rfl, J0, J1, JK, JO⟩ := hrel
      by_cases hlt : m < t
      · exfalso
        have := h0.out
        omega
      · obtain rfl : m = t := by omega
        have cT' := J1.cell (i := 0) (v := .int .i64 (m : Int)) rfl
        have fT' := J1.frozen 0
        have hS1 := spA_le os row lk m
        have HFIN : Hid (relPost wd.heap.size (Kept fun k => k < w.heap.size + 4 ∧ k ≠ GL ∧ k ≠ w.heap.size + 1 + 1) (fun pre W => Row W GL 3 (intsV (spR sl os ls 0 limit pre.length).1) ∧ Row W (w.heap.size + 1 + 1) 3 #[.int .i64 ((spR sl os ls 0 limit pre.length).2 : Int)] ∧ Kept (fun k => k < w.heap.size + 4 ∧ k ≠ GL ∧ k ≠ w.heap.size + 1 + 1) wd W) (pre ++ [x]) W .normal { tmps := #[], defers := [] } (wr.setCell ⟨w.heap.size + 1 + 1, 0, none⟩ (.int .i64 (2 * ((m : Int) - (spA os row lk m).2))))) := by
          have hk : Kept (fun k => k ≠ w.heap.size + 1 + 1) wr (wr.setCell ⟨w.heap.size + 1 + 1, 0, none⟩ (.int .i64 (2 * ((m : Int) - (spA os row lk m).2)))) := (Kept.refl _ wr).setCell (p := ⟨w.heap.size + 1 + 1, 0, none⟩) (by simp) _
          refine ⟨(JO.trans (KeepsOthers.setCell _ _ _)).from _, JK.trans (hk.mono (fun k hk => hk.2.2)), ?_, ?_, IK.trans (JK.trans (hk.mono (fun k hk => hk.2.2)))⟩
          · rw [HN1.out]
            exact J0.kept hk (by omega)
          · have := J1.set 0 (.int .i64 (2 * ((m : Int) - (spA os row lk m).2)))
            rw [HN2.out]
            have e : ((2 * (m - (spA os row lk m).2) : Nat) : Int) = 2 * ((m : Int) - (spA os row lk m).2) := by omega
            rw [e]
            simpa using this
        clear J0 J1 JK JO HN1 HN2
        generalize (spA os row lk m).2 = s at HFIN hS1
        gi_wp2
        exact HFIN.out
  case done =>
    rintro D ys W hD hE ⟨I0, I1, IK⟩ hK
    gi_wp2
    refine ⟨by simp, .inl ⟨_, _, rfl, run_takeDeferred hK, ?_⟩⟩
    refine ⟨_, results_none rfl _ _ _, rfl, ?_, ?_⟩
    · have := I0.kept (Kept.putObj (S := fun k => k = GL) W D (.deferred none) (by omega)) rfl
      rwa [hE] at this
    · exact ((Kept.of_below hBw (fun k hk => hk.1)).trans (IK.mono (fun k hk => ⟨by omega, hk.2, by omega⟩))).trans (Kept.putObj W D _ (fun h => by omega))
end Go.Proofs.Ytiakploggmmklaa
