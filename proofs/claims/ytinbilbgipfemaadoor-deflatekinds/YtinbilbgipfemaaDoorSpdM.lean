import Derived.Test.YtinbilbgipfemaaDoorOflM
import Derived.Test.YtinbilbgipfemaaDoorMrgM
import Derived.Test.YtinbilbgipfemaaDoorTabM
import Derived.Stop.RegionWithIn
import Derived.Test.YtinbilbgipfemaaDoorInsM
import Derived.Test.YtinbilbgipfemaaDoorApp
import Derived.Maps.AppendAt
/- spend: the cheapest coins of the last row, and of each row before those that they are made of. -/
namespace Go.Proofs.YtinbilbgipfemaaDoor
open Go.RowKit Go.Shelf

attribute [local go_sem] Oper.semAt_some

/-- The first m coins of a row are taken: the lengths, and how many were single. -/
def spA (os : List Int) (row : List Coin) (ls : List Int) : Nat → List Int × Nat
  | 0 => (ls, 0)
  | m + 1 => if (row[m]?.getD (0, false)).2 then ((spA os row ls m).1.set (os[(spA os row ls m).2]?.getD 0).toNat ((spA os row ls m).1[(os[(spA os row ls m).2]?.getD 0).toNat]?.getD 0 + 1), (spA os row ls m).2 + 1) else spA os row ls m
/-- k rows are done: the lengths, and how many coins to take of the next row. -/
def spR (sl : List Coin) (os ls : List Int) (take limit : Nat) : Nat → List Int × Nat
  | 0 => (ls, take)
  | k + 1 => ((spA os (rowN sl (limit - 1 - k)) (spR sl os ls take limit k).1 (spR sl os ls take limit k).2).1,
      2 * ((spR sl os ls take limit k).2 - (spA os (rowN sl (limit - 1 - k)) (spR sl os ls take limit k).1 (spR sl os ls take limit k).2).2))

theorem intsV_at (l : List Int) (i : Nat) (h : i < l.length) : (intsV l)[i]? = some (.int .i64 l[i]) := by simp [intsV, h]
theorem intsV_set (l : List Int) (i : Nat) (v : Int) : (intsV l).setIfInBounds i (.int .i64 v) = intsV (l.set i v) := by simp [intsV, List.map_set]
theorem spA_length (os : List Int) (row : List Coin) (ls : List Int) (m : Nat) : (spA os row ls m).1.length = ls.length := by
  induction m with
  | zero => rfl
  | succ m ih => rw [spA]; split <;> simp [ih]
theorem spA_count (os : List Int) (row : List Coin) (ls : List Int) (m : Nat) (hm : m ≤ row.length) : (spA os row ls m).2 = (row.take m).countP (·.2) := by
  induction m with
  | zero => rfl
  | succ m ih =>
    have hlt : m < row.length := by omega
    have ih := ih (by omega)
    rw [spA, List.take_succ_eq_append_getElem hlt, List.countP_append]
    simp only [hlt, List.getElem?_eq_getElem, Option.getD_some]
    cases h : row[m].2 <;> simp [h, ih]
theorem spA_le (os : List Int) (row : List Coin) (ls : List Int) (m : Nat) : (spA os row ls m).2 ≤ m := by
  induction m with
  | zero => exact Nat.le_refl _
  | succ m ih =>
    rw [spA]
    split
    · show (spA os row ls m).2 + 1 ≤ m + 1
      omega
    · omega
theorem spA_bd (os : List Int) (row : List Coin) (ls : List Int) (B : Int) (h : ∀ v ∈ ls, 0 ≤ v ∧ v ≤ B) (m : Nat) : ∀ v ∈ (spA os row ls m).1, 0 ≤ v ∧ v ≤ B + m := by
  induction m with
  | zero => simpa [spA] using h
  | succ m ih =>
    intro v hv
    rw [spA] at hv
    split at hv
    · rcases List.mem_or_eq_of_mem_set hv with hv | rfl
      · have := ih v hv; omega
      · by_cases hi : (os[(spA os row ls m).2]?.getD 0).toNat < (spA os row ls m).1.length
        · have := ih _ (List.getElem_mem hi)
          simp only [hi, List.getElem?_eq_getElem, Option.getD_some]
          omega
        · rw [List.set_eq_of_length_le (by omega)] at hv
          exact (fun h => by omega : _ → _) (ih _ hv)
    · have := ih v hv; omega
theorem mergeL_count : ∀ a b : List Coin, (mergeL a b).countP (·.2) = a.countP (·.2) + b.countP (·.2)
  | [], b => by rw [mergeL_nil]; simp
  | x :: a, [] => by rw [mergeL_nil']; simp
  | x :: a, y :: b => by
    rw [mergeL]
    split
    · rw [List.countP_cons, mergeL_count, List.countP_cons, List.countP_cons]; omega
    · rw [List.countP_cons, mergeL_count, List.countP_cons, List.countP_cons]; omega
termination_by a b => a.length + b.length
theorem rowN_count (sl : List Coin) (k : Nat) : (rowN sl k).countP (·.2) ≤ sl.length := by
  cases k with
  | zero => exact List.countP_le_length
  | succ k =>
    rw [rowN, mergeL_count]
    have h1 : (pairsL (rowN sl k)).countP (·.2) = 0 := by
      rw [List.countP_eq_zero]
      intro c hc
      simp only [pairsL, upto, List.mem_map, List.mem_range] at hc
      obtain ⟨i, _, rfl⟩ := hc
      simp [pairF]
    have h2 : sl.countP (·.2) ≤ sl.length := List.countP_le_length
    omega
theorem count_lt (row : List Coin) (m : Nat) (h : m < row.length) (hs : row[m].2 = true) : (row.take m).countP (·.2) < row.countP (·.2) := by
  have e : row.countP (·.2) = (row.take (m + 1)).countP (·.2) + (row.drop (m + 1)).countP (·.2) := by
    rw [← List.countP_append, List.take_append_drop]
  rw [e, List.take_succ_eq_append_getElem h, List.countP_append]
  simp [hs]
  omega

theorem row_grown2 {W W' : World} {B : Nat} {t : TypeId} {cs : Array Value} {row : Option Nat} (h : Row W B t cs) (hg : W.grownBy W' row) (hrow : ∀ r, row = some r → ∃ o : Obj, W.heap[r]? = some o ∧ o.isCells = false) : Row W' B t cs :=
  (grownBy_keeps_cells hg hrow h rfl).trans h

set_option maxRecDepth 100000 in
set_option maxHeartbeats 4000000 in
theorem spend_in (S0 : Nat → Prop) (b : Option Addr) (cb GA GL limit cl N : Nat) (sl : List Coin) (os ls : List Int) (w : World) (hS0 : ∀ k, S0 k → k < w.heap.size) (hR : RowsIn N w GA limit sl limit) (hO : IntsIn S0 w (.slice b os.length cb) os) (hL : Row w GL 3 (intsV ls)) (hne : ¬ S0 GL)
    (h1 : 1 ≤ limit) (h15 : limit ≤ 15) (h0 : 2 ≤ os.length) (hsl : sl.length = os.length) (hlo : os.length ≤ 320) (hos : ∀ z ∈ os, 0 ≤ z ∧ z < ls.length) (hls : ∀ v ∈ ls, v = 0) (hsafe : ∀ k, k < limit → (spR sl os ls (2 * os.length - 2) limit k).2 ≤ (rowN sl (limit - 1 - k)).length) :
    CallsIn Fence.wide 6 Tryd.prog 85 #[.slice (some ⟨GA, 0, none⟩) limit limit, .slice b os.length cb, .slice (some ⟨GL, 0, none⟩) ls.length cl] w fun e w' =>
      e = .returned (.tuple #[]) ∧ Row w' GL 3 (intsV (spR sl os ls (2 * os.length - 2) limit limit).1) ∧ Kept (fun k => k < w.heap.size ∧ k ≠ GL) w w' := by
  have hlsk : ∀ k, k ≤ limit → (spR sl os ls (2 * os.length - 2) limit k).1.length = ls.length ∧ ∀ v ∈ (spR sl os ls (2 * os.length - 2) limit k).1, 0 ≤ v ∧ v ≤ ((1000 * k : Nat) : Int) := by
    intro k
    induction k with
    | zero => exact fun _ => ⟨rfl, fun v hv => by have := hls v hv; omega⟩
    | succ k ih =>
      intro hk
      obtain ⟨h1', h2'⟩ := ih (by omega)
      refine ⟨by rw [spR]; exact (spA_length _ _ _ _).trans h1', fun v hv => ?_⟩
      rw [spR] at hv
      have := spA_bd os (rowN sl (limit - 1 - k)) _ _ h2' _ v hv
      have h3 := hsafe k (by omega)
      have h4 := rowN_length sl (limit - 1 - k)
      omega
  obtain ⟨g, cs, hRA, hcs, hcc, hgg⟩ := hR
  have hp : (0 : Int) < ((2 * os.length - 2 : Nat) : Int) := by omega
  have hp2 : (2 : Int) * os.length - 2 = ((2 * os.length - 2 : Nat) : Int) := by omega
  have hmx : Tryd.prog.follows .mixedOrders = true := by kernel_rfl
  have hGL := hL.lt
  have hGA := hRA.lt
  refine callsIn_of_wp_marks Tryd.func85 rfl trivial ?_ rfl
  simp only [Tryd.ntmps85, List.size_toArray, List.length_cons, List.length_nil, Nat.reduceAdd, Nat.reduceSub, Array.replicate_succ, Array.replicate_zero, List.push_toArray, List.append_toArray, List.nil_append, List.cons_append]
  gi_wp2_with (refine ⟨trivial, ?_⟩; gi_at_call 90; refine (backward_in Fence.wide _ trivial rfl _ _ _ _).mono ?_; rintro e w' ⟨rfl, rfl⟩)
  have b0 := Row.new w 40 #[.slice b os.length cb]
  have b1 := Row.new (w.alloc (.cells #[.slice b os.length cb] 40)) 40 #[.slice (some ⟨GL, 0, none⟩) ls.length cl]
  have b2 := Row.new ((w.alloc (.cells #[.slice b os.length cb] 40)).alloc (.cells #[.slice (some ⟨GL, 0, none⟩) ls.length cl] 40)) 3 #[.int .i64 ((2 * os.length - 2 : Nat) : Int)]
  have b3 := Row.new (((w.alloc (.cells #[.slice b os.length cb] 40)).alloc (.cells #[.slice (some ⟨GL, 0, none⟩) ls.length cl] 40)).alloc (.cells #[.int .i64 ((2 * os.length - 2 : Nat) : Int)] 3)) 134 #[.slice (some ⟨GA, 0, none⟩) limit limit]
  simp only [World.size_alloc] at b1 b2 b3
  have b0 := ((b0.alloc (.cells #[.slice (some ⟨GL, 0, none⟩) ls.length cl] 40)).alloc (.cells #[.int .i64 ((2 * os.length - 2 : Nat) : Int)] 3)).alloc (.cells #[.slice (some ⟨GA, 0, none⟩) limit limit] 134)
  have b1 := (b1.alloc (.cells #[.int .i64 ((2 * os.length - 2 : Nat) : Int)] 3)).alloc (.cells #[.slice (some ⟨GA, 0, none⟩) limit limit] 134)
  have b2 := b2.alloc (.cells #[.slice (some ⟨GA, 0, none⟩) limit limit] 134)
  have hBw : Below w.heap.size w ((((w.alloc (.cells #[.slice b os.length cb] 40)).alloc (.cells #[.slice (some ⟨GL, 0, none⟩) ls.length cl] 40)).alloc (.cells #[.int .i64 ((2 * os.length - 2 : Nat) : Int)] 3)).alloc (.cells #[.slice (some ⟨GA, 0, none⟩) limit limit] 134)) := ((((Below.refl _ w).alloc (Nat.le_refl _) _).alloc (by simp) _).alloc (by simp; omega) _).alloc (by simp; omega) _
  have hsz : ((((w.alloc (.cells #[.slice b os.length cb] 40)).alloc (.cells #[.slice (some ⟨GL, 0, none⟩) ls.length cl] 40)).alloc (.cells #[.int .i64 ((2 * os.length - 2 : Nat) : Int)] 3)).alloc (.cells #[.slice (some ⟨GA, 0, none⟩) limit limit] 134)).heap.size = w.heap.size + 4 := by simp
  have dL := hL.below hBw hGL
  have dA := hRA.below hBw hGA
  have dg := fun i hi => (hgg i hi).1.below hBw (hgg i hi).1.lt
  have hgl : ∀ i, i < limit → g i < w.heap.size := fun i hi => (hgg i hi).1.lt
  have hgn : ∀ i, i < limit → g i ≠ GL := fun i hi e => by
    have h1 : w.heap[g i]? = _ := (hgg i hi).1
    rw [e, show w.heap[GL]? = _ from hL] at h1
    simp at h1
  have hAn : GA ≠ GL := fun e => by
    have h1 : w.heap[GA]? = _ := hRA
    rw [e, show w.heap[GL]? = _ from hL] at h1
    simp at h1
  have dO : IntsIn (fun k => k < w.heap.size + 4 ∧ k ≠ GL ∧ k ≠ w.heap.size + 1 + 1) ((((w.alloc (.cells #[.slice b os.length cb] 40)).alloc (.cells #[.slice (some ⟨GL, 0, none⟩) ls.length cl] 40)).alloc (.cells #[.int .i64 ((2 * os.length - 2 : Nat) : Int)] 3)).alloc (.cells #[.slice (some ⟨GA, 0, none⟩) limit limit] 134)) (.slice b os.length cb) os := (hO.kept (Kept.of_below hBw hS0)).mono (fun k hk => ⟨by have := hS0 k hk; omega, fun e => hne (e ▸ hk), by have := hS0 k hk; omega⟩)
  clear hL hRA hgg hO
  generalize (((w.alloc (.cells #[.slice b os.length cb] 40)).alloc (.cells #[.slice (some ⟨GL, 0, none⟩) ls.length cl] 40)).alloc (.cells #[.int .i64 ((2 * os.length - 2 : Nat) : Int)] 3)).alloc (.cells #[.slice (some ⟨GA, 0, none⟩) limit limit] 134) = wd at b0 b1 b2 b3 hBw hsz dL dA dg dO ⊢
  refine wpIn_range_rel rfl (by omega) (gf := 98) (lb := #[.pointer (some ⟨w.heap.size + 1 + 1 + 1, 0, none⟩)]) rfl trivial (enters_of Tryd.func98 (by kernel_rfl) rfl)
    (bwd_seq Fence.wide 5 trivial rfl (by omega) (w.heap.size + 1 + 1 + 1) GA limit (fun k => k < w.heap.size + 4 ∧ k ≠ GL ∧ k ≠ w.heap.size + 1 + 1) (fun i => .slice (some ⟨g i, 0, none⟩) (rowN sl i).length (rowN sl i).length) ⟨by omega, by omega, by omega⟩ ⟨by omega, hAn, by omega⟩ h15 wd (fun k hk => by omega) (b3.cell rfl) (fun i hi => dA.cell (hcc i hi)))
    Kept.trans (keptK_b (fun x hx => by omega)) (fun _ => rfl)
    (fun pre W => Row W GL 3 (intsV (spR sl os ls (2 * os.length - 2) limit pre.length).1) ∧ Row W (w.heap.size + 1 + 1) 3 #[.int .i64 ((spR sl os ls (2 * os.length - 2) limit pre.length).2 : Int)] ∧ Kept (fun k => k < w.heap.size + 4 ∧ k ≠ GL ∧ k ≠ w.heap.size + 1 + 1) wd W)
    (fun s A B row hs hg hr => ⟨row_grown2 hs.1 hg (fun r e => (hr r e).2), row_grown2 hs.2.1 hg (fun r e => (hr r e).2), hs.2.2.grown hg (fun k hk => by have := hs.2.2.size; omega) (fun k e hk => by have := (hr k e).1; omega)⟩)
    ⟨dL, b2, Kept.refl _ _⟩
    (fun x => { tmps := #[.slice (some ⟨GA, 0, none⟩) limit limit, .slice b os.length cb, .slice (some ⟨GL, 0, none⟩) ls.length cl, undef, .pointer (some ⟨w.heap.size, 0, none⟩), .pointer (some ⟨w.heap.size + 1, 0, none⟩), .pointer (some ⟨w.heap.size + 1 + 1, 0, none⟩), undef, .slice (some ⟨g x.1, 0, none⟩) (rowN sl x.1).length (rowN sl x.1).length, undef, undef, undef, .slice b os.length cb, .int .i64 os.length, .int .i64 (2 * os.length), .int .i64 ((2 * os.length - 2 : Nat) : Int), .int .i64 ((2 * os.length - 2 : Nat) : Int), .slice (some ⟨GA, 0, none⟩) limit limit, .func (.func 98) #[] #[.pointer (some ⟨w.heap.size + 1 + 1 + 1, 0, none⟩)], .int .i64 x.1, .slice (some ⟨g x.1, 0, none⟩) (rowN sl x.1).length (rowN sl x.1).length, undef, undef, undef, undef, undef, undef, undef, undef, undef, undef, undef, undef, undef, undef, undef, undef, undef, undef, undef, undef, undef, undef, undef, undef, undef, undef], defers := [] }) ?assign ?body ?done
  case assign =>
    intro l x W K hK
    gi_wp2
    exact hK
  case body =>
    rintro l pre x W ⟨I0, I1, IK⟩ hRx
    have hxl : x.1 < limit := x.2
    have hxk : limit - 1 - pre.length = x.1 := by omega
    have hts := hsafe pre.length (by omega)
    rw [hxk] at hts
    have HN1 : Hid ((spR sl os ls (2 * os.length - 2) limit (pre ++ [x]).length).1 = (spA os (rowN sl x.1) (spR sl os ls (2 * os.length - 2) limit pre.length).1 (spR sl os ls (2 * os.length - 2) limit pre.length).2).1) := by
      show _ = _
      rw [List.length_append, List.length_singleton, spR, hxk]
    have HN2 : Hid ((spR sl os ls (2 * os.length - 2) limit (pre ++ [x]).length).2 = 2 * ((spR sl os ls (2 * os.length - 2) limit pre.length).2 - (spA os (rowN sl x.1) (spR sl os ls (2 * os.length - 2) limit pre.length).1 (spR sl os ls (2 * os.length - 2) limit pre.length).2).2)) := by
      show _ = _
      rw [List.length_append, List.length_singleton, spR, hxk]
    have HKL := hlsk pre.length (by omega)
    have Dg : Row W (g x.1) 147 (coinA (rowN sl x.1)) := (dg x.1 hxl).kept IK ⟨by have := hgl x.1 hxl; omega, hgn x.1 hxl, by have := hgl x.1 hxl; omega⟩
    have D0 := b0.kept IK ⟨by omega, by omega, by omega⟩
    have D1 := b1.kept IK ⟨by omega, by omega, by omega⟩
    have DO := dO.kept IK
    have hrl := rowN_length sl x.1
    have hrc := rowN_count sl x.1
    clear dA dg hsafe b0 b1 b2 b3 dL dO hxk hcc
    generalize hlk : (spR sl os ls (2 * os.length - 2) limit pre.length).1 = lk at I0 HN1 HN2 HKL
    generalize htk : (spR sl os ls (2 * os.length - 2) limit pre.length).2 = t at I1 HN1 HN2 hts
    clear hlk htk
    generalize rowN sl x.1 = row at Dg HN1 HN2 hts hrl hrc ⊢
    have cT := I1.cell (i := 0) (v := .int .i64 (t : Int)) rfl
    have hfit : (t : Int) ≤ row.length := by omega
    gi_wp2
    gi_loopw [9, 25] (fun v9 v25 wr => ∃ m : Nat, m ≤ t ∧ v9 = .int .i64 ((spA os row lk m).2 : Int) ∧ v25 = .int .i64 m ∧ Row wr GL 3 (intsV (spA os row lk m).1) ∧ Row wr (w.heap.size + 1 + 1) 3 #[.int .i64 (t : Int)] ∧ Kept (fun k => k < w.heap.size + 4 ∧ k ≠ GL ∧ k ≠ w.heap.size + 1 + 1) W wr ∧ KeepsOthers W wr)
      (fun _ v25 _ => t - (intOf v25).toNat)
    case atStart => exact ⟨0, Nat.zero_le _, rfl, rfl, I0, I1, Kept.refl _ _, KeepsOthers.refl _⟩
    case round =>
      obtain ⟨m, hm, rfl, rfl, J0, J1, JK, JO⟩ := hrel
      by_cases hlt : m < t
      · have Dg' := Dg.kept JK ⟨by have := hgl x.1 hxl; omega, hgn x.1 hxl, by have := hgl x.1 hxl; omega⟩
        have cw := Dg'.cell (coinA_at0 row m (by omega))
        have cs := Dg'.cell (coinA_at1 row m (by omega))
        have hS1 := spA_le os row lk m
        have hSc := spA_count os row lk m (by omega)
        have hbd := spA_bd os row lk _ HKL.2 m
        have hal := spA_length os row lk m
        have hsucc : spA os row lk (m + 1) = if row[m].2 then ((spA os row lk m).1.set (os[(spA os row lk m).2]?.getD 0).toNat ((spA os row lk m).1[(os[(spA os row lk m).2]?.getD 0).toNat]?.getD 0 + 1), (spA os row lk m).2 + 1) else spA os row lk m := by
          rw [spA]
          simp [show m < row.length by omega]
        have hcl := count_lt row m (by omega)
        rw [← hSc] at hcl
        have HSU : Hid _ := hsucc
        have HAL : Hid _ := hal
        have HBD : Hid _ := hbd
        clear hsucc hal hbd hSc
        have HM : Hid (m + 1 ≤ t) := hlt
        have HWR : Hid (∀ o, Kept (fun k => k < w.heap.size + 4 ∧ k ≠ GL ∧ k ≠ w.heap.size + 1 + 1) W (wr.alloc o)) := fun o => JK.alloc (fun k hk => by have := IK.size; have := JK.size; omega) o
        have HJO : Hid (∀ o, KeepsOthers W (wr.alloc o)) := fun o => JO.trans (KeepsOthers.alloc _ _)
        have hwrs : w.heap.size + 4 ≤ wr.heap.size := by have := IK.size; have := JK.size; omega
        generalize hspm : spA os row lk m = st at J0 HSU HAL HBD hS1 hcl ⊢
        obtain ⟨so, sn⟩ := st
        simp only at J0 HSU HAL HBD hS1 hcl ⊢
        clear hspm
        have hal : so.length = lk.length := HAL.out
        have HKL1 : Hid (lk.length = ls.length) := HKL.1
        generalize hrm : row[m] = c at cw cs HSU hcl
        obtain ⟨cv, cb'⟩ := c
        simp only at cw cs HSU hcl
        clear hrm Dg' hm
        cases cb' with
        | false =>
          have e : spA os row lk (m + 1) = (so, sn) := HSU.out
          have HE : Hid (spA os row lk (m + 1) = (so, sn)) := e
          have J0' := J0.alloc (.cells #[.int .i64 cv, .bool false] 147)
          have J1' := J1.alloc (.cells #[.int .i64 cv, .bool false] 147)
          have HRL : Hid (∃ m' : Nat, m' ≤ t ∧ (.int .i64 (sn : Int) : Value) = .int .i64 ((spA os row lk m').2 : Int) ∧ (.int .i64 ((m : Int) + 1) : Value) = .int .i64 m' ∧ Row (wr.alloc (.cells #[.int .i64 cv, .bool false] 147)) GL 3 (intsV (spA os row lk m').1) ∧ Row (wr.alloc (.cells #[.int .i64 cv, .bool false] 147)) (w.heap.size + 1 + 1) 3 #[.int .i64 (t : Int)] ∧ Kept (fun k => k < w.heap.size + 4 ∧ k ≠ GL ∧ k ≠ w.heap.size + 1 + 1) W (wr.alloc (.cells #[.int .i64 cv, .bool false] 147)) ∧ KeepsOthers W (wr.alloc (.cells #[.int .i64 cv, .bool false] 147))) :=
            ⟨m + 1, HM.out, by rw [e], by simp, by rw [e]; exact J0', J1', HWR.out _, HJO.out _⟩
          clear e J0 J1 J0' J1' JK JO HSU
          gi_wp2
          go_roundw
          case rel => exact HRL.out
          case measure => simp [intOf]; omega
        | true =>
          have hsn : sn < os.length := by have := hcl rfl; omega
          have hz := hos _ (List.getElem_mem hsn)
          have ez : os[sn]?.getD 0 = os[sn] := by simp [hsn]
          obtain ⟨z, hzz⟩ := Int.eq_ofNat_of_zero_le hz.1
          have hzl : z < so.length := by have := HKL1.out; omega
          have e : spA os row lk (m + 1) = (so.set z (so[z] + 1), sn + 1) := by
            rw [show spA os row lk (m + 1) = _ from HSU.out, ez, hzz]
            simp [hzl]
          have hvb := HBD.out _ (List.getElem_mem hzl)
          obtain ⟨bo, oo, hbo, hbs, eo⟩ := DO.at sn hsn
          subst hbo
          rw [ez, hzz] at eo
          have D0' := (D0.kept JK ⟨by omega, by omega, by omega⟩).alloc (.cells #[.int .i64 cv, .bool true] 147)
          have D1' := (D1.kept JK ⟨by omega, by omega, by omega⟩).alloc (.cells #[.int .i64 cv, .bool true] 147)
          have J0' := J0.alloc (.cells #[.int .i64 cv, .bool true] 147)
          have J1' := J1.alloc (.cells #[.int .i64 cv, .bool true] 147)
          have KW := HWR.out (.cells #[.int .i64 cv, .bool true] 147)
          have KO := HJO.out (.cells #[.int .i64 cv, .bool true] 147)
          have c1 : (wr.alloc (.cells #[.int .i64 cv, .bool true] 147)).cell? ⟨bo, oo + sn, none⟩ = some (.int .i64 z) := (KW.cell (p := ⟨bo, oo + sn, none⟩) hbs).trans eo
          have hnb : (wr.alloc (.cells #[.int .i64 cv, .bool true] 147)).cell? ⟨wr.heap.size, 1, none⟩ = some (.bool true) := (Row.new wr 147 #[.int .i64 cv, .bool true]).cell rfl
          clear eo HSU D0 D1 DO J0 J1 JK JO ez hzz
          gi_wp2
          have d0 := D0'.cell (i := 0) (v := .slice (some ⟨bo, oo, none⟩) os.length cb) rfl
          have d1 := D1'.cell (i := 0) (v := .slice (some ⟨GL, 0, none⟩) ls.length cl) rfl
          have cL := J0'.cell (intsV_at so z hzl)
          have fL := J0'.frozen z
          have hzl' : z < ls.length := by have := HKL1.out; omega
          clear D0' D1' hnb cw cs hwrs
          generalize wr.alloc (.cells #[.int .i64 cv, .bool true] 147) = wq at J0' J1' KW KO c1 d0 d1 cL fL ⊢
          have HRL : Hid (∃ m' : Nat, m' ≤ t ∧ (.int .i64 ((sn : Int) + 1) : Value) = .int .i64 ((spA os row lk m').2 : Int) ∧ (.int .i64 ((m : Int) + 1) : Value) = .int .i64 m' ∧ Row (wq.setCell ⟨GL, z, none⟩ (.int .i64 (so[z] + 1))).drew GL 3 (intsV (spA os row lk m').1) ∧ Row (wq.setCell ⟨GL, z, none⟩ (.int .i64 (so[z] + 1))).drew (w.heap.size + 1 + 1) 3 #[.int .i64 (t : Int)] ∧ Kept (fun k => k < w.heap.size + 4 ∧ k ≠ GL ∧ k ≠ w.heap.size + 1 + 1) W (wq.setCell ⟨GL, z, none⟩ (.int .i64 (so[z] + 1))).drew ∧ KeepsOthers W (wq.setCell ⟨GL, z, none⟩ (.int .i64 (so[z] + 1))).drew) := by
            have hk : Kept (fun k => k ≠ GL) wq (wq.setCell ⟨GL, z, none⟩ (.int .i64 (so[z] + 1))) := (Kept.refl _ wq).setCell (p := ⟨GL, z, none⟩) (by simp) _
            refine ⟨m + 1, HM.out, by rw [e]; simp, by simp, ?_, Row.kept (S := fun k => k ≠ GL) J1' hk.drew (fun e => by omega), (KW.trans (hk.mono (fun k hk => hk.2.1))).drew, (KO.trans (KeepsOthers.setCell _ _ _)).trans (KeepsOthers.drew _)⟩
            have := J0'.set z (.int .i64 (so[z] + 1))
            rw [intsV_set] at this
            rw [e]
            exact this
          clear e J0' J1' KW KO
          generalize so[z] = v at cL hvb HRL
          gi_region_with_o (fail)
          all_goals gi_wp2
          all_goals go_roundw
          all_goals first | exact HRL.out | (simp [intOf]; omega)
      · obtain rfl : m = t := by omega
        have cT' := J1.cell (i := 0) (v := .int .i64 (m : Int)) rfl
        have fT' := J1.frozen 0
        have hS1 := spA_le os row lk m
        have HFIN : Hid (relPost wd.heap.size (Kept fun k => k < w.heap.size + 4 ∧ k ≠ GL ∧ k ≠ w.heap.size + 1 + 1) (fun pre W => Row W GL 3 (intsV (spR sl os ls (2 * os.length - 2) limit pre.length).1) ∧ Row W (w.heap.size + 1 + 1) 3 #[.int .i64 ((spR sl os ls (2 * os.length - 2) limit pre.length).2 : Int)] ∧ Kept (fun k => k < w.heap.size + 4 ∧ k ≠ GL ∧ k ≠ w.heap.size + 1 + 1) wd W) (pre ++ [x]) W .normal { tmps := #[], defers := [] } (wr.setCell ⟨w.heap.size + 1 + 1, 0, none⟩ (.int .i64 (2 * ((m : Int) - (spA os row lk m).2))))) := by
          have hk : Kept (fun k => k ≠ w.heap.size + 1 + 1) wr (wr.setCell ⟨w.heap.size + 1 + 1, 0, none⟩ (.int .i64 (2 * ((m : Int) - (spA os row lk m).2)))) := (Kept.refl _ wr).setCell (p := ⟨w.heap.size + 1 + 1, 0, none⟩) (by simp) _
          refine ⟨(JO.trans (KeepsOthers.setCell _ _ _)).from _, JK.trans (hk.mono (fun k hk => hk.2.2)), ?_, ?_, IK.trans (JK.trans (hk.mono (fun k hk => hk.2.2)))⟩
          · rw [HN1.out]
            exact J0.kept hk (by omega)
          · have := J1.set 0 (.int .i64 (2 * ((m : Int) - (spA os row lk m).2)))
            rw [HN2.out]
            have e : ((2 * (m - (spA os row lk m).2) : Nat) : Int) = 2 * ((m : Int) - (spA os row lk m).2) := by omega
            rw [e]
            simpa using this
        clear J0 J1 JK JO HN1 HN2
        generalize (spA os row lk m).2 = s at HFIN hS1
        gi_wp2
        exact HFIN.out
  case done =>
    rintro D ys W hD hE ⟨I0, I1, IK⟩ hK
    gi_wp2
    refine ⟨by simp, .inl ⟨_, _, rfl, run_takeDeferred hK, ?_⟩⟩
    refine ⟨_, results_none rfl _ _ _, rfl, ?_, ?_⟩
    · have := I0.kept (Kept.putObj (S := fun k => k = GL) W D (.deferred none) (by omega)) rfl
      rwa [hE] at this
    · exact ((Kept.of_below hBw (fun k hk => hk.1)).trans (IK.mono (fun k hk => ⟨by omega, hk.2, by omega⟩))).trans (Kept.putObj W D _ (fun h => by omega))
end Go.Proofs.YtinbilbgipfemaaDoor
/- Lengths, where two symbols or more come, and fewer than twenty. -/
namespace Go.Proofs.YtinbilbgipfemaaDoor
open Go.RowKit Go.Shelf

/-- The symbols below k that come at all. -/
def ordL (fs : List Int) : Nat → List Int
  | 0 => []
  | k + 1 => if 0 < fs[k]?.getD 0 then ordL fs k ++ [(k : Int)] else ordL fs k
theorem ordL_length (fs : List Int) (k : Nat) : (ordL fs k).length ≤ k := by
  induction k with
  | zero => exact Nat.le_refl _
  | succ k ih =>
    rw [ordL]
    split
    · simp; omega
    · omega
theorem ordL_mem (fs : List Int) (k : Nat) : ∀ z ∈ ordL fs k, 0 ≤ z ∧ z < (k : Int) := by
  induction k with
  | zero => intro z hz; simp [ordL] at hz
  | succ k ih =>
    intro z hz
    rw [ordL] at hz
    split at hz
    · rcases List.mem_append.1 hz with h | h
      · have := ih z h; omega
      · simp at h; omega
    · have := ih z hz; omega
theorem ordIn_of_owns {W : World} {base : Nat} {v : Value} {l : List Int} (h : W.ownsRow base 3 1 v l.length (l.map (Value.int .i64))) (h0 : 0 < l.length) : ∃ G cap, v = .slice (some ⟨G, 0, none⟩) l.length cap ∧ base ≤ G ∧ OrdIn W G l := by
  rcases h.2 with ⟨_, h1⟩ | ⟨g, cap, cur, rfl, hb, hg, hn, _, hs, ht⟩
  · omega
  · refine ⟨g, cap, rfl, hb, cur, hg, by omega, fun i hi => ?_⟩
    have := congrArg (fun x => x[i]?) ht
    simp only [Nat.mul_one, List.getElem?_take, hi, if_true, List.getElem?_map, List.getElem?_eq_getElem, Option.map_some] at this
    simpa using this

theorem Tryd.info3 : (Tryd.prog.info? 3).map (fun i => (i.zero, i.size, i.bytes)) = some (some (.int .i64 0), 1, 8) := by kernel_rfl
theorem intsV_made (n : Nat) : madeCells #[.int .i64 0] n = intsV (List.replicate n 0) := by
  apply Array.toList_inj.1
  rw [toList_madeCells_one]
  simp [intsV]

end Go.Proofs.YtinbilbgipfemaaDoor
/- Packages of coins, merged: what is taken of a row is taken of the rows before (pure). -/
namespace Go.Proofs.YtinbilbgipfemaaDoor

def wsum (l : List Coin) : Int := (l.map (·.1)).sum
def SC (l : List Coin) : Prop := l.Pairwise (fun a b => a.1 ≤ b.1)
theorem wsum_append (a b : List Coin) : wsum (a ++ b) = wsum a + wsum b := by simp [wsum]
theorem sum_perm {a b : List Int} (h : a.Perm b) : a.sum = b.sum := by
  induction h with
  | nil => rfl
  | cons x _ ih => rw [List.sum_cons, List.sum_cons, ih]
  | swap x y l => simp only [List.sum_cons]; omega
  | trans _ _ ih1 ih2 => exact ih1.trans ih2
theorem wsum_perm {a b : List Coin} (h : a.Perm b) : wsum a = wsum b := sum_perm (h.map _)
theorem SC.at {l : List Coin} (h : SC l) {i j : Nat} (hi : i ≤ j) (hj : j < l.length) : (l[i]'(by omega)).1 ≤ l[j].1 := by
  by_cases e : i = j
  · subst e; exact Int.le_refl _
  · exact List.pairwise_iff_getElem.1 h i j (by omega) hj (by omega)

theorem merge_take : ∀ (a b : List Coin), SC a → ∀ t, t ≤ a.length + b.length → ∃ x y, x + y = t ∧ x ≤ a.length ∧ y ≤ b.length ∧ ((mergeL a b).take t).Perm (a.take x ++ b.take y) ∧ ∀ i j (hi : i < a.length) (hj : j < b.length), j < y → a[i].1 ≤ b[j].1 → i < x
  | [], b, _, t, ht => ⟨0, t, by omega, by simp, by simpa using ht, by rw [mergeL_nil]; simp, fun i j hi => by simp at hi⟩
  | x :: a, [], _, t, ht => ⟨t, 0, by omega, by simpa using ht, by simp, by rw [mergeL_nil']; simp, fun i j hi hj => by simp at hj⟩
  | x :: a, y :: b, hs, 0, ht => ⟨0, 0, rfl, by simp, by simp, by simp, fun i j _ _ h => by omega⟩
  | x :: a, y :: b, hs, t + 1, ht => by
    by_cases c : x.1 ≤ y.1
    · obtain ⟨p, q, h1, h2, h3, h4, h5⟩ := merge_take a (y :: b) (List.Pairwise.of_cons hs) t (by simp at ht ⊢; omega)
      refine ⟨p + 1, q, by omega, by simp; omega, h3, ?_, fun i j hi hj hjq hle => ?_⟩
      · rw [mergeL, if_pos c, List.take_succ_cons, List.take_succ_cons]
        exact h4.cons _
      · cases i with
        | zero => omega
        | succ i => have := h5 i j (by simpa using hi) hj hjq (by simpa using hle); omega
    · obtain ⟨p, q, h1, h2, h3, h4, h5⟩ := merge_take (x :: a) b hs t (by simp at ht ⊢; omega)
      refine ⟨p, q + 1, by omega, h2, by simp; omega, ?_, fun i j hi hj hjq hle => ?_⟩
      · rw [mergeL, if_neg c, List.take_succ_cons, List.take_succ_cons]
        exact (h4.cons y).trans List.perm_middle.symm
      · cases j with
        | zero =>
          exfalso
          have := SC.at hs (Nat.zero_le i) hi
          simp only [List.getElem_cons_zero] at this hle
          omega
        | succ j => exact h5 i j hi (by simpa using hj) (by omega) (by simpa using hle)
termination_by a b => a.length + b.length
theorem merge_sorted : ∀ (a b : List Coin), SC a → SC b → SC (mergeL a b)
  | [], b, _, hb => by rw [mergeL_nil]; exact hb
  | x :: a, [], ha, _ => by rw [mergeL_nil']; exact ha
  | x :: a, y :: b, ha, hb => by
    rw [mergeL]
    split
    · rename_i c
      refine List.pairwise_cons.2 ⟨fun z hz => ?_, merge_sorted a (y :: b) (List.Pairwise.of_cons ha) hb⟩
      rcases mergeL_mem _ _ _ hz with h | h
      · exact List.rel_of_pairwise_cons ha h
      · rcases List.mem_cons.1 h with rfl | h
        · exact c
        · have := List.rel_of_pairwise_cons hb h; omega
    · rename_i c
      refine List.pairwise_cons.2 ⟨fun z hz => ?_, merge_sorted (x :: a) b ha (List.Pairwise.of_cons hb)⟩
      rcases mergeL_mem _ _ _ hz with h | h
      · rcases List.mem_cons.1 h with rfl | h
        · omega
        · have := List.rel_of_pairwise_cons ha h; omega
      · exact List.rel_of_pairwise_cons hb h
termination_by a b => a.length + b.length
theorem pairs_get (r : List Coin) (j : Nat) (hj : j < (pairsL r).length) : (pairsL r)[j] = pairF r j := by simp [pairsL, upto]
theorem pairF_eq (r : List Coin) (j : Nat) (hj : 2 * j + 1 < r.length) : pairF r j = ((r[2 * j]'(by omega)).1 + r[2 * j + 1].1, false) := by
  unfold pairF
  rw [List.getElem?_eq_getElem (by omega), List.getElem?_eq_getElem hj]
  rfl
theorem pairs_sorted {r : List Coin} (h : SC r) : SC (pairsL r) := by
  refine List.pairwise_iff_getElem.2 (fun i j hi hj hij => ?_)
  have hl := pairsL_length r
  rw [pairs_get, pairs_get, pairF_eq r i (by omega), pairF_eq r j (by omega)]
  have h1 := h.at (i := 2 * i) (j := 2 * j) (by omega) (by omega)
  have h2 := h.at (i := 2 * i + 1) (j := 2 * j + 1) (by omega) (by omega)
  show _ + _ ≤ _ + _
  omega
theorem row_sorted {sl : List Coin} (h : SC sl) : ∀ k, SC (rowN sl k)
  | 0 => h
  | k + 1 => merge_sorted _ _ h (pairs_sorted (row_sorted h k))
theorem row_len (sl : List Coin) (k : Nat) : (rowN sl (k + 1)).length = sl.length + (rowN sl k).length / 2 := by
  rw [rowN, mergeL_length, pairsL_length]
theorem pairs_sum (r : List Coin) : ∀ y, 2 * y ≤ r.length → wsum ((pairsL r).take y) = wsum (r.take (2 * y))
  | 0, _ => rfl
  | y + 1, h => by
    have hl := pairsL_length r
    have ih := pairs_sum r y (by omega)
    rw [List.take_succ_eq_append_getElem (by omega), wsum_append, ih, pairs_get, pairF_eq r y (by omega), show 2 * (y + 1) = 2 * y + 1 + 1 by omega, List.take_succ_eq_append_getElem (by omega), List.take_succ_eq_append_getElem (by omega), wsum_append, wsum_append]
    simp [wsum]
    omega
theorem pairs_two (r : List Coin) : ∀ c ∈ pairsL r, c.2 = false := by
  intro c hc
  unfold pairsL upto at hc
  obtain ⟨j, _, rfl⟩ := List.mem_map.1 hc
  rfl

/-- All singles, by weight, none below 0. -/
structure Sing (sl : List Coin) : Prop where
  srt : SC sl
  one : ∀ c ∈ sl, c.2 = true
  pos : ∀ c ∈ sl, 0 ≤ c.1
theorem row_pos {sl : List Coin} (h : Sing sl) (k : Nat) : ∀ c ∈ rowN sl k, 0 ≤ c.1 := by
  induction k with
  | zero => exact h.pos
  | succ k ih =>
    intro c hc
    rcases mergeL_mem _ _ _ hc with h1 | h1
    · exact h.pos c h1
    · unfold pairsL upto at h1
      obtain ⟨j, hj, rfl⟩ := List.mem_map.1 h1
      have hj' : j < (rowN sl k).length / 2 := by simpa using hj
      rw [pairF_eq _ j (by omega)]
      have a1 := ih _ (List.getElem_mem (show 2 * j < (rowN sl k).length by omega))
      have a2 := ih _ (List.getElem_mem (show 2 * j + 1 < (rowN sl k).length by omega))
      show 0 ≤ _ + _
      omega
def ones (l : List Coin) : Nat := l.countP (·.2)
theorem ones_all {l : List Coin} (h : ∀ c ∈ l, c.2 = true) : ones l = l.length := by
  unfold ones
  rw [List.countP_eq_length]
  exact h
theorem ones_none {l : List Coin} (h : ∀ c ∈ l, c.2 = false) : ones l = 0 := by
  unfold ones
  rw [List.countP_eq_zero]
  intro c hc
  rw [h c hc]
  simp

/-- What is taken of a row: singles from the front, and packages from the front. -/
structure Lvl (sl r : List Coin) (R : List Coin) (t s y : Nat) : Prop where
  sum : s + y = t
  sn : s ≤ sl.length
  yn : 2 * y ≤ r.length
  cnt : ones (R.take t) = s
  wt : wsum (R.take t) = wsum (sl.take s) + wsum (r.take (2 * y))
  mono : ∀ y0, y0 ≤ y → ones (r.take (2 * y0)) ≤ s
theorem ones_row {sl : List Coin} (h : Sing sl) (k t : Nat) (ht : t ≤ (rowN sl k).length) : ∃ x, ones ((rowN sl k).take t) = x ∧ x ≤ sl.length ∧ ∀ i (hi : i < sl.length), i < x → sl[i] ∈ (rowN sl k).take t := by
  cases k with
  | zero =>
    refine ⟨t, ?_, ht, fun i hi hx => ?_⟩
    · rw [rowN, ones_all (fun c hc => h.one c (List.mem_of_mem_take hc)), List.length_take]
      exact Nat.min_eq_left ht
    · rw [List.mem_take_iff_getElem]
      exact ⟨i, by rw [rowN]; omega, rfl⟩
  | succ k =>
    obtain ⟨x, y, h1, h2, h3, h4, _⟩ := merge_take sl (pairsL (rowN sl k)) h.srt t (by rw [← mergeL_length]; exact ht)
    refine ⟨x, ?_, h2, fun i hi hx => ?_⟩
    · unfold ones
      rw [rowN, h4.countP_eq, List.countP_append]
      have a1 := ones_all (l := sl.take x) (fun c hc => h.one c (List.mem_of_mem_take hc))
      have a2 := ones_none (l := (pairsL (rowN sl k)).take y) (fun c hc => pairs_two _ c (List.mem_of_mem_take hc))
      unfold ones at a1 a2
      rw [a1, a2, List.length_take]
      omega
    · refine h4.mem_iff.2 (List.mem_append.2 (.inl ?_))
      rw [List.mem_take_iff_getElem]
      exact ⟨i, by omega, rfl⟩
theorem lvl {sl : List Coin} (h : Sing sl) (k t : Nat) (ht : t ≤ (rowN sl (k + 1)).length) : ∃ s y, Lvl sl (rowN sl k) (rowN sl (k + 1)) t s y := by
  obtain ⟨x, y, h1, h2, h3, h4, h5⟩ := merge_take sl (pairsL (rowN sl k)) h.srt t (by rw [← mergeL_length]; exact ht)
  have hl := pairsL_length (rowN sl k)
  refine ⟨x, y, h1, h2, by omega, ?_, ?_, fun y0 hy0 => ?_⟩
  · unfold ones
    rw [rowN, h4.countP_eq, List.countP_append]
    have a1 := ones_all (l := sl.take x) (fun c hc => h.one c (List.mem_of_mem_take hc))
    have a2 := ones_none (l := (pairsL (rowN sl k)).take y) (fun c hc => pairs_two _ c (List.mem_of_mem_take hc))
    unfold ones at a1 a2
    rw [a1, a2, List.length_take]
    omega
  · rw [rowN, wsum_perm h4, wsum_append, pairs_sum _ _ (by omega)]
  · obtain ⟨p, hp1, hp2, hp3⟩ := ones_row h k (2 * y0) (by omega)
    rw [hp1]
    rcases Nat.eq_zero_or_pos p with h0 | h0
    · omega
    · have hm := hp3 (p - 1) (by omega) (by omega)
      obtain ⟨q, hq, he⟩ := List.mem_take_iff_getElem.1 hm
      have hy0' : 0 < y0 := by omega
      have hq2 : q < 2 * y0 := by omega
      have s1 := (row_sorted h.srt k).at (i := q) (j := 2 * (y0 - 1) + 1) (by omega) (by omega)
      have p1 := row_pos h k _ (List.getElem_mem (show 2 * (y0 - 1) < (rowN sl k).length by omega))
      have := h5 (p - 1) (y0 - 1) (by omega) (by omega) (by omega) (by
        rw [pairs_get, pairF_eq _ _ (by omega), ← he]
        show _ ≤ _ + _
        omega)
      omega
theorem row_long (sl : List Coin) : ∀ k c, 1 ≤ c → sl.length ≤ c * 2 ^ k → 2 * sl.length ≤ (rowN sl k).length + c
  | 0, c, _, h => by rw [rowN]; simp at h; omega
  | k + 1, c, hc, h => by
    have := row_long sl k (2 * c) (by omega) (by rw [Nat.pow_succ] at h; rw [Nat.mul_comm 2 c, Nat.mul_assoc, Nat.mul_comm 2]; exact h)
    rw [row_len]
    omega
theorem row_all {sl : List Coin} (h : Sing sl) (h2 : 2 ≤ sl.length) : ∀ k, 2 * sl.length - 2 ≤ (rowN sl k).length → ones ((rowN sl k).take (2 * sl.length - 2)) = sl.length
  | 0, hk => by
    rw [rowN] at hk ⊢
    rw [List.take_of_length_le (by omega), ones_all h.one]
  | k + 1, hk => by
    obtain ⟨s, y, L⟩ := lvl h k _ hk
    rw [L.cnt]
    have a := L.sum
    have b := L.sn
    have c := L.yn
    by_cases e : s = sl.length
    · exact e
    · exfalso
      have ih := row_all h h2 k (by omega)
      have m := L.mono (sl.length - 1) (by omega)
      rw [show 2 * (sl.length - 1) = 2 * sl.length - 2 by omega, ih] at m
      omega
end Go.Proofs.YtinbilbgipfemaaDoor
/- What the spending makes: lengths that are right and cost what the first coins of the last row weigh (pure). -/
namespace Go.Proofs.YtinbilbgipfemaaDoor

def sumTo (f : Nat → Int) : Nat → Int
  | 0 => 0
  | k + 1 => sumTo f k + f k
theorem sumTo_congr {f g : Nat → Int} : ∀ n, (∀ j, j < n → f j = g j) → sumTo f n = sumTo g n
  | 0, _ => rfl
  | n + 1, h => by rw [sumTo, sumTo, sumTo_congr n (fun j hj => h j (by omega)), h n (by omega)]
theorem sumTo_add (f g : Nat → Int) : ∀ n, sumTo (fun j => f j + g j) n = sumTo f n + sumTo g n
  | 0 => rfl
  | n + 1 => by simp only [sumTo, sumTo_add f g n]; omega
theorem sumTo_sub (f g : Nat → Int) : ∀ n, sumTo (fun j => f j - g j) n = sumTo f n - sumTo g n
  | 0 => rfl
  | n + 1 => by simp only [sumTo, sumTo_sub f g n]; omega
theorem sumTo_part (g : Nat → Int) (s : Nat) : ∀ n, s ≤ n → sumTo (fun j => if j < s then g j else 0) n = sumTo g s
  | 0, h => by
    obtain rfl : s = 0 := by omega
    rfl
  | n + 1, h => by
    by_cases e : s = n + 1
    · subst e
      exact sumTo_congr _ (fun j hj => if_pos hj)
    · rw [sumTo, sumTo_part g s n (by omega), if_neg (by omega)]
      omega
theorem sumTo_const (c : Int) : ∀ n : Nat, sumTo (fun _ => c) n = n * c
  | 0 => by simp [sumTo]
  | n + 1 => by
    rw [sumTo, sumTo_const c n]
    have : ((n + 1 : Nat) : Int) * c = n * c + c := by rw [Int.natCast_add, Int.add_mul]; simp
    omega

def wAt (sl : List Coin) (j : Nat) : Int := (sl[j]?.getD (0, false)).1
theorem wsum_take (sl : List Coin) : ∀ s, s ≤ sl.length → wsum (sl.take s) = sumTo (wAt sl) s
  | 0, _ => rfl
  | s + 1, h => by
    rw [List.take_succ_eq_append_getElem (by omega), wsum_append, wsum_take sl s (by omega), sumTo]
    congr 1
    unfold wAt
    rw [List.getElem?_eq_getElem (by omega)]
    simp [wsum]

def posN (os : List Int) (j : Nat) : Nat := (os[j]?.getD 0).toNat
def lam (os ls : List Int) (j : Nat) : Int := ls[posN os j]?.getD 0
/-- The symbols: each once, each with a place. -/
structure Ords (os : List Int) (N : Nat) : Prop where
  inj : ∀ i j, i < os.length → j < os.length → posN os i = posN os j → i = j
  lt : ∀ j, j < os.length → posN os j < N
theorem spA_ok (os : List Int) (row : List Coin) (ls : List Int) (hO : Ords os ls.length) : ∀ m, m ≤ row.length → ones (row.take m) ≤ os.length →
    (spA os row ls m).2 = ones (row.take m) ∧ (spA os row ls m).1.length = ls.length ∧ (∀ j, j < os.length → lam os (spA os row ls m).1 j = lam os ls j + (if j < ones (row.take m) then 1 else 0)) ∧ (∀ z, (∀ j, j < os.length → posN os j ≠ z) → (spA os row ls m).1[z]?.getD 0 = ls[z]?.getD 0)
  | 0, _, _ => ⟨rfl, rfl, fun j _ => by simp [spA, ones], fun z _ => rfl⟩
  | m + 1, hm, hn => by
    have hlt : m < row.length := by omega
    have e1 : ones (row.take (m + 1)) = ones (row.take m) + (if row[m].2 then 1 else 0) := by
      unfold ones
      rw [List.take_succ_eq_append_getElem hlt, List.countP_append]
      simp
    have e2 : row[m]?.getD (0, false) = row[m] := by rw [List.getElem?_eq_getElem hlt]; rfl
    obtain ⟨i1, i2, i3, i4⟩ := spA_ok os row ls hO m (by omega) (by omega)
    rw [spA, e2, e1]
    by_cases c : row[m].2 = true
    · rw [if_pos c, if_pos c]
      rw [if_pos c] at e1
      refine ⟨by rw [i1], by simp [i2], fun j hj => ?_, fun z hz => ?_⟩
      · have hc : (spA os row ls m).2 < os.length := by omega
        show ((spA os row ls m).1.set (posN os (spA os row ls m).2) _)[posN os j]?.getD 0 = _
        rw [List.getElem?_set]
        by_cases e : j = (spA os row ls m).2
        · rw [if_pos (by rw [e]), if_pos (by rw [i2, ← e]; exact hO.lt j hj)]
          have h3 := i3 j hj
          rw [if_neg (by omega)] at h3
          rw [if_pos (by omega), Option.getD_some, ← e]
          show (spA os row ls m).1[posN os j]?.getD 0 + 1 = _
          unfold lam at h3 ⊢
          omega
        · rw [if_neg (fun h => e (hO.inj _ _ hc hj h).symm)]
          have h3 := i3 j hj
          show lam os (spA os row ls m).1 j = _
          rw [h3]
          congr 1
          by_cases d : j < ones (row.take m)
          · rw [if_pos d, if_pos (by omega)]
          · rw [if_neg d, if_neg (by omega)]
      · have hc : (spA os row ls m).2 < os.length := by omega
        show ((spA os row ls m).1.set (posN os (spA os row ls m).2) _)[z]?.getD 0 = _
        rw [List.getElem?_set, if_neg (hz _ hc)]
        exact i4 z hz
    · have c' : row[m].2 = false := by simpa using c
      rw [if_neg c, if_neg c, Nat.add_zero]
      exact ⟨i1, i2, i3, i4⟩

/-- Behind i rows. -/
structure SpSt (sl : List Coin) (os : List Int) (N limit i : Nat) (ls : List Int) (T S : Nat) : Prop where
  len : ls.length = N
  fit : i < limit → T ≤ (rowN sl (limit - 1 - i)).length
  fin : i = limit → T = 0
  one : i < limit → ones ((rowN sl (limit - 1 - i)).take T) ≤ S
  sn : S ≤ os.length
  top : ∀ j, j < S → lam os ls j = i
  bd : ∀ j, j < os.length → 0 ≤ lam os ls j ∧ lam os ls j ≤ i ∧ (1 ≤ i → 1 ≤ lam os ls j)
  out : ∀ z, (∀ j, j < os.length → posN os j ≠ z) → ls[z]?.getD 0 = 0
  kraft : 2 * sumTo (fun j => (2 : Int) ^ (limit - (lam os ls j).toNat)) os.length = 2 * 2 ^ limit + T * 2 ^ (limit - i)
  cost : sumTo (fun j => wAt sl j * lam os ls j) os.length + (if i < limit then wsum ((rowN sl (limit - 1 - i)).take T) else 0) = wsum ((rowN sl (limit - 1)).take (2 * os.length - 2))
theorem two_pow (limit : Nat) (h : 1 ≤ limit) : 2 * 2 ^ (limit - 1) = 2 ^ limit := by
  obtain ⟨q, rfl⟩ : ∃ q, limit = q + 1 := ⟨limit - 1, by omega⟩
  rw [Nat.add_sub_cancel, Nat.pow_succ, Nat.mul_comm]
theorem sp_start {sl : List Coin} {os : List Int} {limit : Nat} (ls : List Int) (h : Sing sl) (hsl : sl.length = os.length) (hz : ∀ z : Nat, ls[z]?.getD 0 = 0) (h1 : 1 ≤ limit) (h2 : 2 ≤ os.length) (hlim : os.length ≤ 2 ^ limit) : SpSt sl os ls.length limit 0 ls (2 * os.length - 2) os.length := by
  have hl0 : ∀ j, lam os ls j = 0 := fun j => hz _
  have hlong := row_long sl (limit - 1) 2 (by omega) (by rw [hsl, two_pow limit h1]; exact hlim)
  refine ⟨rfl, fun _ => by rw [Nat.sub_zero]; omega, fun e => by omega, fun _ => ?_, Nat.le_refl _, fun j _ => hl0 j, fun j _ => by rw [hl0]; omega, fun z _ => hz z, ?_, ?_⟩
  · rw [Nat.sub_zero]
    have := row_all h (by omega) (limit - 1) (by omega)
    rw [hsl] at this
    omega
  · rw [sumTo_congr (g := fun _ => (2 : Int) ^ limit) _ (fun j _ => by rw [hl0]; rfl), sumTo_const, Nat.sub_zero]
    generalize (2 : Int) ^ limit = P
    rw [show ((2 * os.length - 2 : Nat) : Int) = 2 * (os.length : Int) - 2 by omega, Int.sub_mul, ← Int.mul_assoc]
    omega
  · rw [if_pos (by omega), Nat.sub_zero, sumTo_congr (g := fun _ => (0 : Int)) _ (fun j _ => by rw [hl0]; simp), sumTo_const]
    simp
theorem sp_row {sl : List Coin} {os : List Int} {N limit i T S : Nat} {ls : List Int} (h : Sing sl) (hsl : sl.length = os.length) (hi : i < limit) (st : SpSt sl os N limit i ls T S) :
    ∃ s y, s + y = T ∧ ones ((rowN sl (limit - 1 - i)).take T) = s ∧ s ≤ os.length ∧ (i + 1 < limit → 2 * y ≤ (rowN sl (limit - 1 - (i + 1))).length ∧ ones ((rowN sl (limit - 1 - (i + 1))).take (2 * y)) ≤ s) ∧ (i + 1 = limit → y = 0) ∧
      wsum ((rowN sl (limit - 1 - i)).take T) = sumTo (wAt sl) s + (if i + 1 < limit then wsum ((rowN sl (limit - 1 - (i + 1))).take (2 * y)) else 0) := by
  have hf := st.fit hi
  by_cases c : i + 1 < limit
  · obtain ⟨k, hk⟩ : ∃ k, limit - 1 - i = k + 1 := ⟨limit - 1 - i - 1, by omega⟩
    have hk' : limit - 1 - (i + 1) = k := by omega
    rw [hk] at hf ⊢
    rw [hk']
    obtain ⟨s, y, L⟩ := lvl h k T hf
    refine ⟨s, y, L.sum, L.cnt, by rw [← hsl]; exact L.sn, fun _ => ⟨L.yn, L.mono y (Nat.le_refl _)⟩, fun e => by omega, ?_⟩
    rw [L.wt, wsum_take sl s L.sn, if_pos c]
  · have hk : limit - 1 - i = 0 := by omega
    rw [hk] at hf ⊢
    rw [rowN] at hf ⊢
    refine ⟨T, 0, rfl, ?_, by omega, fun e => by omega, fun _ => rfl, ?_⟩
    · rw [ones_all (fun c hc => h.one c (List.mem_of_mem_take hc)), List.length_take]
      omega
    · rw [wsum_take sl T hf, if_neg c]
      omega
theorem sp_step {sl : List Coin} {os : List Int} {N limit i T S : Nat} {ls : List Int} (h : Sing sl) (hsl : sl.length = os.length) (hO : Ords os N) (hi : i < limit) (st : SpSt sl os N limit i ls T S) (h0 : i = 0 → ones ((rowN sl (limit - 1 - i)).take T) = os.length) :
    ∃ S', SpSt sl os N limit (i + 1) (spA os (rowN sl (limit - 1 - i)) ls T).1 (2 * (T - (spA os (rowN sl (limit - 1 - i)) ls T).2)) S' := by
  obtain ⟨s, y, a1, a2, a3, a4, a5, a6⟩ := sp_row h hsl hi st
  have hf := st.fit hi
  have hone := st.one hi
  have hO' : Ords os ls.length := by rw [st.len]; exact hO
  obtain ⟨b1, b2, b3, b4⟩ := spA_ok os (rowN sl (limit - 1 - i)) ls hO' T hf (by rw [a2]; exact a3)
  rw [a2] at b1 b3 hone
  rw [b1, show T - s = y by omega]
  generalize (spA os (rowN sl (limit - 1 - i)) ls T).1 = ls' at b2 b3 b4
  refine ⟨s, b2.trans st.len, fun c => (a4 c).1, fun e => by rw [a5 e], fun c => (a4 c).2, a3, fun j hj => ?_, fun j hj => ?_, fun z hz => (b4 z hz).trans (st.out z hz), ?_, ?_⟩
  · rw [b3 j (by omega), if_pos hj, st.top j (by omega)]
    simp
  · have c1 := st.bd j hj
    rw [b3 j hj]
    by_cases d : j < s
    · rw [if_pos d]
      omega
    · rw [if_neg d]
      refine ⟨by omega, by omega, fun _ => ?_⟩
      rcases Nat.eq_zero_or_pos i with e | e
      · have := h0 e
        omega
      · have := c1.2.2 e
        omega
  · have hk := st.kraft
    obtain ⟨q, hq⟩ : ∃ q, limit - i = q + 1 := ⟨limit - i - 1, by omega⟩
    have hq' : limit - (i + 1) = q := by omega
    rw [hq] at hk
    rw [hq', sumTo_congr (g := fun j => (2 : Int) ^ (limit - (lam os ls j).toNat) - (if j < s then (2 : Int) ^ q else 0)) _ (fun j hj => ?_), sumTo_sub, sumTo_part _ s _ a3, sumTo_const]
    · rw [Int.pow_succ] at hk
      generalize (2 : Int) ^ q = P at hk ⊢
      generalize sumTo (fun j => (2 : Int) ^ (limit - (lam os ls j).toNat)) os.length = Q at hk ⊢
      have e1 : (T : Int) = s + y := by omega
      rw [e1, Int.add_mul] at hk
      rw [show ((2 * y : Nat) : Int) = 2 * (y : Int) by omega, Int.mul_assoc]
      have e2 : (s : Int) * (P * 2) = 2 * ((s : Int) * P) := by rw [Int.mul_comm P 2, ← Int.mul_assoc, Int.mul_comm (s : Int) 2, Int.mul_assoc]
      have e3 : (y : Int) * (P * 2) = 2 * ((y : Int) * P) := by rw [Int.mul_comm P 2, ← Int.mul_assoc, Int.mul_comm (y : Int) 2, Int.mul_assoc]
      rw [e2, e3] at hk
      omega
    · rw [b3 j hj]
      by_cases d : j < s
      · rw [if_pos d, if_pos d, st.top j (by omega), show ((i : Int) + 1).toNat = i + 1 by omega, Int.toNat_natCast, hq, hq', Int.pow_succ]
        omega
      · rw [if_neg d, if_neg d]
        simp
  · have hc := st.cost
    rw [if_pos hi, a6] at hc
    rw [← hc, sumTo_congr (g := fun j => wAt sl j * lam os ls j + (if j < s then wAt sl j else 0)) _ (fun j hj => ?_), sumTo_add, sumTo_part _ s _ a3]
    · omega
    · rw [b3 j hj, Int.mul_add]
      congr 1
      split <;> simp
/-- All rows are spent. -/
theorem sp_all {sl : List Coin} {os : List Int} {limit : Nat} (ls : List Int) (h : Sing sl) (hsl : sl.length = os.length) (hO : Ords os ls.length) (hz : ∀ z : Nat, ls[z]?.getD 0 = 0) (h1 : 1 ≤ limit) (h2 : 2 ≤ os.length) (hlim : os.length ≤ 2 ^ limit) :
    ∀ i, i ≤ limit → ∃ S, SpSt sl os ls.length limit i (spR sl os ls (2 * os.length - 2) limit i).1 (spR sl os ls (2 * os.length - 2) limit i).2 S
  | 0, _ => ⟨_, sp_start ls h hsl hz h1 h2 hlim⟩
  | i + 1, hi => by
    obtain ⟨S, st⟩ := sp_all ls h hsl hO hz h1 h2 hlim i (by omega)
    refine sp_step h hsl hO (by omega) st (fun e => ?_)
    subst e
    have hlong := row_long sl (limit - 1) 2 (by omega) (by rw [hsl, two_pow limit h1]; exact hlim)
    have := row_all h (by omega) (limit - 1) (by omega)
    rw [hsl] at this
    exact this
end Go.Proofs.YtinbilbgipfemaaDoor
