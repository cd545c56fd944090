/- spend: the cheapest coins of the last row, and of each row before those that they are made of. -/
import Derived.Test.YtiakploggmmklaaBwd
import Derived.Test.YtiakploggmmklaaRws
import Derived.Test.YtiakploggmmklaaFul
import Derived.Stop.RegionWithIn
namespace Go.Proofs.Ytiakploggmmklaa
open Go.RowKit Go.Shelf

attribute [local go_sem] Oper.semAt_some

/-- The first m coins of a row are taken: the lengths, and how many were single. -/
def spA (os : List Int) (row : List Coin) (ls : List Int) : Nat → List Int × Nat
  | 0 => (ls, 0)
  | m + 1 => if (row[m]?.getD (0, false)).2 then ((spA os row ls m).1.set (os[(spA os row ls m).2]?.getD 0).toNat ((spA os row ls m).1[(os[(spA os row ls m).2]?.getD 0).toNat]?.getD 0 + 1), (spA os row ls m).2 + 1) else spA os row ls m
/-- k rows are done: the lengths, and how many coins to take of the next row. -/
def spR (sl : List Coin) (os ls : List Int) (take limit : Nat) : Nat → List Int × Nat
  | 0 => (ls, take)
  | k + 1 => ((spA os (rowN sl (limit - 1 - k)) (spR sl os ls take limit k).1 (spR sl os ls take limit k).2).1,
      2 * ((spR sl os ls take limit k).2 - (spA os (rowN sl (limit - 1 - k)) (spR sl os ls take limit k).1 (spR sl os ls take limit k).2).2))

theorem intsV_at (l : List Int) (i : Nat) (h : i < l.length) : (intsV l)[i]? = some (.int .i64 l[i]) := by simp [intsV, h]
theorem intsV_set (l : List Int) (i : Nat) (v : Int) : (intsV l).setIfInBounds i (.int .i64 v) = intsV (l.set i v) := by simp [intsV, List.map_set]
theorem spA_length (os : List Int) (row : List Coin) (ls : List Int) (m : Nat) : (spA os row ls m).1.length = ls.length := by
  induction m with
  | zero => rfl
  | succ m ih => rw [spA]; split <;> simp [ih]
theorem spA_count (os : List Int) (row : List Coin) (ls : List Int) (m : Nat) (hm : m ≤ row.length) : (spA os row ls m).2 = (row.take m).countP (·.2) := by
  induction m with
  | zero => rfl
  | succ m ih =>
    have hlt : m < row.length := by omega
    have ih := ih (by omega)
    rw [spA, List.take_succ_eq_append_getElem hlt, List.countP_append]
    simp only [hlt, List.getElem?_eq_getElem, Option.getD_some]
    cases h : row[m].2 <;> simp [h, ih]
theorem spA_le (os : List Int) (row : List Coin) (ls : List Int) (m : Nat) : (spA os row ls m).2 ≤ m := by
  induction m with
  | zero => exact Nat.le_refl _
  | succ m ih =>
    rw [spA]
    split
    · show (spA os row ls m).2 + 1 ≤ m + 1
      omega
    · omega
theorem spA_bd (os : List Int) (row : List Coin) (ls : List Int) (B : Int) (h : ∀ v ∈ ls, 0 ≤ v ∧ v ≤ B) (m : Nat) : ∀ v ∈ (spA os row ls m).1, 0 ≤ v ∧ v ≤ B + m := by
  induction m with
  | zero => simpa [spA] using h
  | succ m ih =>
    intro v hv
    rw [spA] at hv
    split at hv
    · rcases List.mem_or_eq_of_mem_set hv with hv | rfl
      · have := ih v hv; omega
      · by_cases hi : (os[(spA os row ls m).2]?.getD 0).toNat < (spA os row ls m).1.length
        · have := ih _ (List.getElem_mem hi)
          simp only [hi, List.getElem?_eq_getElem, Option.getD_some]
          omega
        · rw [List.set_eq_of_length_le (by omega)] at hv
          exact (fun h => by omega : _ → _) (ih _ hv)
    · have := ih v hv; omega
theorem mergeL_count : ∀ a b : List Coin, (mergeL a b).countP (·.2) = a.countP (·.2) + b.countP (·.2)
  | [], b => by rw [mergeL_nil]; simp
  | x :: a, [] => by rw [mergeL_nil']; simp
  | x :: a, y :: b => by
    rw [mergeL]
    split
    · rw [List.countP_cons, mergeL_count, List.countP_cons, List.countP_cons]; omega
    · rw [List.countP_cons, mergeL_count, List.countP_cons, List.countP_cons]; omega
termination_by a b => a.length + b.length
theorem rowN_count (sl : List Coin) (k : Nat) : (rowN sl k).countP (·.2) ≤ sl.length := by
  cases k with
  | zero => exact List.countP_le_length
  | succ k =>
    rw [rowN, mergeL_count]
    have h1 : (pairsL (rowN sl k)).countP (·.2) = 0 := by
      rw [List.countP_eq_zero]
      intro c hc
      simp only [pairsL, upto, List.mem_map, List.mem_range] at hc
      obtain ⟨i, _, rfl⟩ := hc
      simp [pairF]
    have h2 : sl.countP (·.2) ≤ sl.length := List.countP_le_length
    omega
theorem count_lt (row : List Coin) (m : Nat) (h : m < row.length) (hs : row[m].2 = true) : (row.take m).countP (·.2) < row.countP (·.2) := by
  have e : row.countP (·.2) = (row.take (m + 1)).countP (·.2) + (row.drop (m + 1)).countP (·.2) := by
    rw [← List.countP_append, List.take_append_drop]
  rw [e, List.take_succ_eq_append_getElem h, List.countP_append]
  simp [hs]
  omega

theorem row_grown2 {W W' : World} {B : Nat} {t : TypeId} {cs : Array Value} {row : Option Nat} (h : Row W B t cs) (hg : W.grownBy W' row) (hrow : ∀ r, row = some r → ∃ o : Obj, W.heap[r]? = some o ∧ o.isCells = false) : Row W' B t cs :=
  (grownBy_keeps_cells hg hrow h rfl).trans h

set_option maxRecDepth 100000 in
set_option maxHeartbeats 4000000 in
theorem spend_in (S0 : Nat → Prop) (b : Option Addr) (cb GA GL limit cl N : Nat) (sl : List Coin) (os ls : List Int) (w : World) (hS0 : ∀ k, S0 k → k < w.heap.size) (hR : RowsIn N w GA limit sl limit) (hO : IntsIn S0 w (.slice b os.length cb) os) (hL : Row w GL 3 (intsV ls)) (hne : ¬ S0 GL)
    (h1 : 1 ≤ limit) (h15 : limit ≤ 15) (h0 : 2 ≤ os.length) (hsl : sl.length = os.length) (hlo : os.length ≤ 320) (hos : ∀ z ∈ os, 0 ≤ z ∧ z < ls.length) (hls : ∀ v ∈ ls, v = 0) (hsafe : ∀ k, k < limit → (spR sl os ls (2 * os.length - 2) limit k).2 ≤ (rowN sl (limit - 1 - k)).length) :
    CallsIn Fence.wide 6 Try.prog 12 #[.slice (some ⟨GA, 0, none⟩) limit limit, .slice b os.length cb, .slice (some ⟨GL, 0, none⟩) ls.length cl] w fun e w' =>
      e = .returned (.tuple #[]) ∧ Row w' GL 3 (intsV (spR sl os ls (2 * os.length - 2) limit limit).1) ∧ Kept (fun k => k < w.heap.size ∧ k ≠ GL) w w' := by
  have hlsk : ∀ k, k ≤ limit → (spR sl os ls (2 * os.length - 2) limit k).1.length = ls.length ∧ ∀ v ∈ (spR sl os ls (2 * os.length - 2) limit k).1, 0 ≤ v ∧ v ≤ ((1000 * k : Nat) : Int) := by
    intro k
    induction k with
    | zero => exact fun _ => ⟨rfl, fun v hv => by have := hls v hv; omega⟩
    | succ k ih =>
      intro hk
      obtain ⟨h1', h2'⟩ := ih (by omega)
      refine ⟨by rw [spR]; exact (spA_length _ _ _ _).trans h1', fun v hv => ?_⟩
      rw [spR] at hv
      have := spA_bd os (rowN sl (limit - 1 - k)) _ _ h2' _ v hv
      have h3 := hsafe k (by omega)
      have h4 := rowN_length sl (limit - 1 - k)
      omega
  obtain ⟨g, cs, hRA, hcs, hcc, hgg⟩ := hR
  have hp : (0 : Int) < ((2 * os.length - 2 : Nat) : Int) := by omega
  have hp2 : (2 : Int) * os.length - 2 = ((2 * os.length - 2 : Nat) : Int) := by omega
  have hmx : Try.prog.follows .mixedOrders = true := by kernel_rfl
  have hGL := hL.lt
  have hGA := hRA.lt
  refine callsIn_of_wp_marks Try.func12 rfl trivial ?_ rfl
  simp only [Try.ntmps12, List.size_toArray, List.length_cons, List.length_nil, Nat.reduceAdd, Nat.reduceSub, Array.replicate_succ, Array.replicate_zero, List.push_toArray, List.append_toArray, List.nil_append, List.cons_append]
  gi_wp2_with (refine ⟨trivial, ?_⟩; gi_at_call 19; refine (backward_in Fence.wide _ trivial rfl _ _ _ _).mono ?_; rintro e w' ⟨rfl, rfl⟩)
  have b0 := Row.new w 22 #[.slice b os.length cb]
  have b1 := Row.new (w.alloc (.cells #[.slice b os.length cb] 22)) 22 #[.slice (some ⟨GL, 0, none⟩) ls.length cl]
  have b2 := Row.new ((w.alloc (.cells #[.slice b os.length cb] 22)).alloc (.cells #[.slice (some ⟨GL, 0, none⟩) ls.length cl] 22)) 3 #[.int .i64 ((2 * os.length - 2 : Nat) : Int)]
  have b3 := Row.new (((w.alloc (.cells #[.slice b os.length cb] 22)).alloc (.cells #[.slice (some ⟨GL, 0, none⟩) ls.length cl] 22)).alloc (.cells #[.int .i64 ((2 * os.length - 2 : Nat) : Int)] 3)) 35 #[.slice (some ⟨GA, 0, none⟩) limit limit]
  simp only [World.size_alloc] at b1 b2 b3
  have b0 := ((b0.alloc (.cells #[.slice (some ⟨GL, 0, none⟩) ls.length cl] 22)).alloc (.cells #[.int .i64 ((2 * os.length - 2 : Nat) : Int)] 3)).alloc (.cells #[.slice (some ⟨GA, 0, none⟩) limit limit] 35)
  have b1 := (b1.alloc (.cells #[.int .i64 ((2 * os.length - 2 : Nat) : Int)] 3)).alloc (.cells #[.slice (some ⟨GA, 0, none⟩) limit limit] 35)
  have b2 := b2.alloc (.cells #[.slice (some ⟨GA, 0, none⟩) limit limit] 35)
  have hBw : Below w.heap.size w ((((w.alloc (.cells #[.slice b os.length cb] 22)).alloc (.cells #[.slice (some ⟨GL, 0, none⟩) ls.length cl] 22)).alloc (.cells #[.int .i64 ((2 * os.length - 2 : Nat) : Int)] 3)).alloc (.cells #[.slice (some ⟨GA, 0, none⟩) limit limit] 35)) := ((((Below.refl _ w).alloc (Nat.le_refl _) _).alloc (by simp) _).alloc (by simp; omega) _).alloc (by simp; omega) _
  have hsz : ((((w.alloc (.cells #[.slice b os.length cb] 22)).alloc (.cells #[.slice (some ⟨GL, 0, none⟩) ls.length cl] 22)).alloc (.cells #[.int .i64 ((2 * os.length - 2 : Nat) : Int)] 3)).alloc (.cells #[.slice (some ⟨GA, 0, none⟩) limit limit] 35)).heap.size = w.heap.size + 4 := by simp
  have dL := hL.below hBw hGL
  have dA := hRA.below hBw hGA
  have dg := fun i hi => (hgg i hi).1.below hBw (hgg i hi).1.lt
  have hgl : ∀ i, i < limit → g i < w.heap.size := fun i hi => (hgg i hi).1.lt
  have hgn : ∀ i, i < limit → g i ≠ GL := fun i hi e => by
    have h1 : w.heap[g i]? = _ := (hgg i hi).1
    rw [e, show w.heap[GL]? = _ from hL] at h1
    simp at h1
  have hAn : GA ≠ GL := fun e => by
    have h1 : w.heap[GA]? = _ := hRA
    rw [e, show w.heap[GL]? = _ from hL] at h1
    simp at h1
  have dO : IntsIn (fun k => k < w.heap.size + 4 ∧ k ≠ GL ∧ k ≠ w.heap.size + 1 + 1) ((((w.alloc (.cells #[.slice b os.length cb] 22)).alloc (.cells #[.slice (some ⟨GL, 0, none⟩) ls.length cl] 22)).alloc (.cells #[.int .i64 ((2 * os.length - 2 : Nat) : Int)] 3)).alloc (.cells #[.slice (some ⟨GA, 0, none⟩) limit limit] 35)) (.slice b os.length cb) os := (hO.kept (Kept.of_below hBw hS0)).mono (fun k hk => ⟨by have := hS0 k hk; omega, fun e => hne (e ▸ hk), by have := hS0 k hk; omega⟩)
  clear hL hRA hgg hO
  generalize (((w.alloc (.cells #[.slice b os.length cb] 22)).alloc (.cells #[.slice (some ⟨GL, 0, none⟩) ls.length cl] 22)).alloc (.cells #[.int .i64 ((2 * os.length - 2 : Nat) : Int)] 3)).alloc (.cells #[.slice (some ⟨GA, 0, none⟩) limit limit] 35) = wd at b0 b1 b2 b3 hBw hsz dL dA dg dO ⊢
  refine wpIn_range_rel rfl (by omega) (gf := 26) (lb := #[.pointer (some ⟨w.heap.size + 1 + 1 + 1, 0, none⟩)]) rfl trivial (enters_of Try.func26 (by kernel_rfl) rfl)
    (bwd_seq Fence.wide 5 trivial rfl (by omega) (w.heap.size + 1 + 1 + 1) GA limit (fun k => k < w.heap.size + 4 ∧ k ≠ GL ∧ k ≠ w.heap.size + 1 + 1) (fun i => .slice (some ⟨g i, 0, none⟩) (rowN sl i).length (rowN sl i).length) ⟨by omega, by omega, by omega⟩ ⟨by omega, hAn, by omega⟩ h15 wd (fun k hk => by omega) (b3.cell rfl) (fun i hi => dA.cell (hcc i hi)))
    Kept.trans (keptK_b (fun x hx => by omega)) (fun _ => rfl)
    (fun pre W => Row W GL 3 (intsV (spR sl os ls (2 * os.length - 2) limit pre.length).1) ∧ Row W (w.heap.size + 1 + 1) 3 #[.int .i64 ((spR sl os ls (2 * os.length - 2) limit pre.length).2 : Int)] ∧ Kept (fun k => k < w.heap.size + 4 ∧ k ≠ GL ∧ k ≠ w.heap.size + 1 + 1) wd W)
    (fun s A B row hs hg hr => ⟨row_grown2 hs.1 hg (fun r e => (hr r e).2), row_grown2 hs.2.1 hg (fun r e => (hr r e).2), hs.2.2.grown hg (fun k hk => by have := hs.2.2.size; omega) (fun k e hk => by have := (hr k e).1; omega)⟩)
    ⟨dL, b2, Kept.refl _ _⟩
    (fun x => { tmps := #[.slice (some ⟨GA, 0, none⟩) limit limit, .slice b os.length cb, .slice (some ⟨GL, 0, none⟩) ls.length cl, undef, .pointer (some ⟨w.heap.size, 0, none⟩), .pointer (some ⟨w.heap.size + 1, 0, none⟩), .pointer (some ⟨w.heap.size + 1 + 1, 0, none⟩), undef, .slice (some ⟨g x.1, 0, none⟩) (rowN sl x.1).length (rowN sl x.1).length, undef, undef, undef, .slice b os.length cb, .int .i64 os.length, .int .i64 (2 * os.length), .int .i64 ((2 * os.length - 2 : Nat) : Int), .int .i64 ((2 * os.length - 2 : Nat) : Int), .slice (some ⟨GA, 0, none⟩) limit limit, .func (.func 26) #[] #[.pointer (some ⟨w.heap.size + 1 + 1 + 1, 0, none⟩)], .int .i64 x.1, .slice (some ⟨g x.1, 0, none⟩) (rowN sl x.1).length (rowN sl x.1).length, undef, undef, undef, undef, undef, undef, undef, undef, undef, undef, undef, undef, undef, undef, undef, undef, undef, undef, undef, undef, undef, undef, undef, undef, undef, undef], defers := [] }) ?assign ?body ?done
  case assign =>
    intro l x W K hK
    gi_wp2
    exact hK
  case body =>
    rintro l pre x W ⟨I0, I1, IK⟩ hRx
    have hxl : x.1 < limit := x.2
    have hxk : limit - 1 - pre.length = x.1 := by omega
    have hts := hsafe pre.length (by omega)
    rw [hxk] at hts
    have HN1 : Hid ((spR sl os ls (2 * os.length - 2) limit (pre ++ [x]).length).1 = (spA os (rowN sl x.1) (spR sl os ls (2 * os.length - 2) limit pre.length).1 (spR sl os ls (2 * os.length - 2) limit pre.length).2).1) := by
      show _ = _
      rw [List.length_append, List.length_singleton, spR, hxk]
    have HN2 : Hid ((spR sl os ls (2 * os.length - 2) limit (pre ++ [x]).length).2 = 2 * ((spR sl os ls (2 * os.length - 2) limit pre.length).2 - (spA os (rowN sl x.1) (spR sl os ls (2 * os.length - 2) limit pre.length).1 (spR sl os ls (2 * os.length - 2) limit pre.length).2).2)) := by
      show _ = _
      rw [List.length_append, List.length_singleton, spR, hxk]
    have HKL := hlsk pre.length (by omega)
    have Dg : Row W (g x.1) 54 (coinA (rowN sl x.1)) := (dg x.1 hxl).kept IK ⟨by have := hgl x.1 hxl; omega, hgn x.1 hxl, by have := hgl x.1 hxl; omega⟩
    have D0 := b0.kept IK ⟨by omega, by omega, by omega⟩
    have D1 := b1.kept IK ⟨by omega, by omega, by omega⟩
    have DO := dO.kept IK
    have hrl := rowN_length sl x.1
    have hrc := rowN_count sl x.1
    clear dA dg hsafe b0 b1 b2 b3 dL dO hxk hcc
    generalize hlk : (spR sl os ls (2 * os.length - 2) limit pre.length).1 = lk at I0 HN1 HN2 HKL
    generalize htk : (spR sl os ls (2 * os.length - 2) limit pre.length).2 = t at I1 HN1 HN2 hts
    clear hlk htk
    generalize rowN sl x.1 = row at Dg HN1 HN2 hts hrl hrc ⊢
    have cT := I1.cell (i := 0) (v := .int .i64 (t : Int)) rfl
    have hfit : (t : Int) ≤ row.length := by omega
    gi_wp2
    gi_loopw [9, 25] (fun v9 v25 wr => ∃ m : Nat, m ≤ t ∧ v9 = .int .i64 ((spA os row lk m).2 : Int) ∧ v25 = .int .i64 m ∧ Row wr GL 3 (intsV (spA os row lk m).1) ∧ Row wr (w.heap.size + 1 + 1) 3 #[.int .i64 (t : Int)] ∧ Kept (fun k => k < w.heap.size + 4 ∧ k ≠ GL ∧ k ≠ w.heap.size + 1 + 1) W wr ∧ KeepsOthers W wr)
      (fun _ v25 _ => t - (intOf v25).toNat)
    case atStart => exact ⟨0, Nat.zero_le _, rfl, rfl, I0, I1, Kept.refl _ _, KeepsOthers.refl _⟩
    case round =>
      obtain ⟨m, hm, rfl, rfl, J0, J1, JK, JO⟩ := hrel
      by_cases hlt : m < t
      · have Dg' := Dg.kept JK ⟨by have := hgl x.1 hxl; omega, hgn x.1 hxl, by have := hgl x.1 hxl; omega⟩
        have cw := Dg'.cell (coinA_at0 row m (by omega))
        have cs := Dg'.cell (coinA_at1 row m (by omega))
        have hS1 := spA_le os row lk m
        have hSc := spA_count os row lk m (by omega)
        have hbd := spA_bd os row lk _ HKL.2 m
        have hal := spA_length os row lk m
        have hsucc : spA os row lk (m + 1) = if row[m].2 then ((spA os row lk m).1.set (os[(spA os row lk m).2]?.getD 0).toNat ((spA os row lk m).1[(os[(spA os row lk m).2]?.getD 0).toNat]?.getD 0 + 1), (spA os row lk m).2 + 1) else spA os row lk m := by
          rw [spA]
          simp [show m < row.length by omega]
        have hcl := count_lt row m (by omega)
        rw [← hSc] at hcl
        have HSU : Hid _ := hsucc
        have HAL : Hid _ := hal
        have HBD : Hid _ := hbd
        clear hsucc hal hbd hSc
        have HM : Hid (m + 1 ≤ t) := hlt
        have HWR : Hid (∀ o, Kept (fun k => k < w.heap.size + 4 ∧ k ≠ GL ∧ k ≠ w.heap.size + 1 + 1) W (wr.alloc o)) := fun o => JK.alloc (fun k hk => by have := IK.size; have := JK.size; omega) o
        have HJO : Hid (∀ o, KeepsOthers W (wr.alloc o)) := fun o => JO.trans (KeepsOthers.alloc _ _)
        have hwrs : w.heap.size + 4 ≤ wr.heap.size := by have := IK.size; have := JK.size; omega
        generalize hspm : spA os row lk m = st at J0 HSU HAL HBD hS1 hcl ⊢
        obtain ⟨so, sn⟩ := st
        simp only at J0 HSU HAL HBD hS1 hcl ⊢
        clear hspm
        have hal : so.length = lk.length := HAL.out
        have HKL1 : Hid (lk.length = ls.length) := HKL.1
        generalize hrm : row[m] = c at cw cs HSU hcl
        obtain ⟨cv, cb'⟩ := c
        simp only at cw cs HSU hcl
        clear hrm Dg' hm
        cases cb' with
        | false =>
          have e : spA os row lk (m + 1) = (so, sn) := HSU.out
          have HE : Hid (spA os row lk (m + 1) = (so, sn)) := e
          have J0' := J0.alloc (.cells #[.int .i64 cv, .bool false] 54)
          have J1' := J1.alloc (.cells #[.int .i64 cv, .bool false] 54)
          have HRL : Hid (∃ m' : Nat, m' ≤ t ∧ (.int .i64 (sn : Int) : Value) = .int .i64 ((spA os row lk m').2 : Int) ∧ (.int .i64 ((m : Int) + 1) : Value) = .int .i64 m' ∧ Row (wr.alloc (.cells #[.int .i64 cv, .bool false] 54)) GL 3 (intsV (spA os row lk m').1) ∧ Row (wr.alloc (.cells #[.int .i64 cv, .bool false] 54)) (w.heap.size + 1 + 1) 3 #[.int .i64 (t : Int)] ∧ Kept (fun k => k < w.heap.size + 4 ∧ k ≠ GL ∧ k ≠ w.heap.size + 1 + 1) W (wr.alloc (.cells #[.int .i64 cv, .bool false] 54)) ∧ KeepsOthers W (wr.alloc (.cells #[.int .i64 cv, .bool false] 54))) :=
            ⟨m + 1, HM.out, by rw [e], by simp, by rw [e]; exact J0', J1', HWR.out _, HJO.out _⟩
          clear e J0 J1 J0' J1' JK JO HSU
          gi_wp2
          go_roundw
          case rel => exact HRL.out
          case measure => simp [intOf]; omega
        | true =>
          have hsn : sn < os.length := by have := hcl rfl; omega
          have hz := hos _ (List.getElem_mem hsn)
          have ez : os[sn]?.getD 0 = os[sn] := by simp [hsn]
          obtain ⟨z, hzz⟩ := Int.eq_ofNat_of_zero_le hz.1
          have hzl : z < so.length := by have := HKL1.out; omega
          have e : spA os row lk (m + 1) = (so.set z (so[z] + 1), sn + 1) := by
            rw [show spA os row lk (m + 1) = _ from HSU.out, ez, hzz]
            simp [hzl]
          have hvb := HBD.out _ (List.getElem_mem hzl)
          obtain ⟨bo, oo, hbo, hbs, eo⟩ := DO.at sn hsn
          subst hbo
          rw [ez, hzz] at eo
          have D0' := (D0.kept JK ⟨by omega, by omega, by omega⟩).alloc (.cells #[.int .i64 cv, .bool true] 54)
          have D1' := (D1.kept JK ⟨by omega, by omega, by omega⟩).alloc (.cells #[.int .i64 cv, .bool true] 54)
          have J0' := J0.alloc (.cells #[.int .i64 cv, .bool true] 54)
          have J1' := J1.alloc (.cells #[.int .i64 cv, .bool true] 54)
          have KW := HWR.out (.cells #[.int .i64 cv, .bool true] 54)
          have KO := HJO.out (.cells #[.int .i64 cv, .bool true] 54)
          have c1 : (wr.alloc (.cells #[.int .i64 cv, .bool true] 54)).cell? ⟨bo, oo + sn, none⟩ = some (.int .i64 z) := (KW.cell (p := ⟨bo, oo + sn, none⟩) hbs).trans eo
          have hnb : (wr.alloc (.cells #[.int .i64 cv, .bool true] 54)).cell? ⟨wr.heap.size, 1, none⟩ = some (.bool true) := (Row.new wr 54 #[.int .i64 cv, .bool true]).cell rfl
          clear eo HSU D0 D1 DO J0 J1 JK JO ez hzz
          gi_wp2
          have d0 := D0'.cell (i := 0) (v := .slice (some ⟨bo, oo, none⟩) os.length cb) rfl
          have d1 := D1'.cell (i := 0) (v := .slice (some ⟨GL, 0, none⟩) ls.length cl) rfl
          have cL := J0'.cell (intsV_at so z hzl)
          have fL := J0'.frozen z
          have hzl' : z < ls.length := by have := HKL1.out; omega
          clear D0' D1' hnb cw cs hwrs
          generalize wr.alloc (.cells #[.int .i64 cv, .bool true] 54) = wq at J0' J1' KW KO c1 d0 d1 cL fL ⊢
          have HRL : Hid (∃ m' : Nat, m' ≤ t ∧ (.int .i64 ((sn : Int) + 1) : Value) = .int .i64 ((spA os row lk m').2 : Int) ∧ (.int .i64 ((m : Int) + 1) : Value) = .int .i64 m' ∧ Row (wq.setCell ⟨GL, z, none⟩ (.int .i64 (so[z] + 1))).drew GL 3 (intsV (spA os row lk m').1) ∧ Row (wq.setCell ⟨GL, z, none⟩ (.int .i64 (so[z] + 1))).drew (w.heap.size + 1 + 1) 3 #[.int .i64 (t : Int)] ∧ Kept (fun k => k < w.heap.size + 4 ∧ k ≠ GL ∧ k ≠ w.heap.size + 1 + 1) W (wq.setCell ⟨GL, z, none⟩ (.int .i64 (so[z] + 1))).drew ∧ KeepsOthers W (wq.setCell ⟨GL, z, none⟩ (.int .i64 (so[z] + 1))).drew) := by
            have hk : Kept (fun k => k ≠ GL) wq (wq.setCell ⟨GL, z, none⟩ (.int .i64 (so[z] + 1))) := (Kept.refl _ wq).setCell (p := ⟨GL, z, none⟩) (by simp) _
            refine ⟨m + 1, HM.out, by rw [e]; simp, by simp, ?_, Row.kept (S := fun k => k ≠ GL) J1' hk.drew (fun e => by omega), (KW.trans (hk.mono (fun k hk => hk.2.1))).drew, (KO.trans (KeepsOthers.setCell _ _ _)).trans (KeepsOthers.drew _)⟩
            have := J0'.set z (.int .i64 (so[z] + 1))
            rw [intsV_set] at this
            rw [e]
            exact this
          clear e J0' J1' KW KO
          generalize so[z] = v at cL hvb HRL
          gi_region_with_o (fail)
          all_goals gi_wp2
          all_goals go_roundw
          all_goals first | exact HRL.out | (simp [intOf]; omega)
      · obtain rfl : m = t := by omega
        have cT' := J1.cell (i := 0) (v := .int .i64 (m : Int)) rfl
        have fT' := J1.frozen 0
        have hS1 := spA_le os row lk m
        have HFIN : Hid (relPost wd.heap.size (Kept fun k => k < w.heap.size + 4 ∧ k ≠ GL ∧ k ≠ w.heap.size + 1 + 1) (fun pre W => Row W GL 3 (intsV (spR sl os ls (2 * os.length - 2) limit pre.length).1) ∧ Row W (w.heap.size + 1 + 1) 3 #[.int .i64 ((spR sl os ls (2 * os.length - 2) limit pre.length).2 : Int)] ∧ Kept (fun k => k < w.heap.size + 4 ∧ k ≠ GL ∧ k ≠ w.heap.size + 1 + 1) wd W) (pre ++ [x]) W .normal { tmps := #[], defers := [] } (wr.setCell ⟨w.heap.size + 1 + 1, 0, none⟩ (.int .i64 (2 * ((m : Int) - (spA os row lk m).2))))) := by
          have hk : Kept (fun k => k ≠ w.heap.size + 1 + 1) wr (wr.setCell ⟨w.heap.size + 1 + 1, 0, none⟩ (.int .i64 (2 * ((m : Int) - (spA os row lk m).2)))) := (Kept.refl _ wr).setCell (p := ⟨w.heap.size + 1 + 1, 0, none⟩) (by simp) _
          refine ⟨(JO.trans (KeepsOthers.setCell _ _ _)).from _, JK.trans (hk.mono (fun k hk => hk.2.2)), ?_, ?_, IK.trans (JK.trans (hk.mono (fun k hk => hk.2.2)))⟩
          · rw [HN1.out]
            exact J0.kept hk (by omega)
          · have := J1.set 0 (.int .i64 (2 * ((m : Int) - (spA os row lk m).2)))
            rw [HN2.out]
            have e : ((2 * (m - (spA os row lk m).2) : Nat) : Int) = 2 * ((m : Int) - (spA os row lk m).2) := by omega
            rw [e]
            simpa using this
        clear J0 J1 JK JO HN1 HN2
        generalize (spA os row lk m).2 = s at HFIN hS1
        gi_wp2
        exact HFIN.out
  case done =>
    rintro D ys W hD hE ⟨I0, I1, IK⟩ hK
    gi_wp2
    refine ⟨by simp, .inl ⟨_, _, rfl, run_takeDeferred hK, ?_⟩⟩
    refine ⟨_, results_none rfl _ _ _, rfl, ?_, ?_⟩
    · have := I0.kept (Kept.putObj (S := fun k => k = GL) W D (.deferred none) (by omega)) rfl
      rwa [hE] at this
    · exact ((Kept.of_below hBw (fun k hk => hk.1)).trans (IK.mono (fun k hk => ⟨by omega, hk.2, by omega⟩))).trans (Kept.putObj W D _ (fun h => by omega))
end Go.Proofs.Ytiakploggmmklaa
