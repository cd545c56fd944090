import Derived.Test.YtinbilbgipfemaaDoorSeaM
import Derived.Test.YtinbilbgipfemaaDoorSgnM
import Derived.Test.YtinbilbgipfemaaDoorSgnM
import Derived.Test.YtinbilbgipfemaaDoorOrdM
import Derived.Test.YtinbilbgipfemaaDoorFle
/- The items and the block's end are written by codes. -/
namespace Go.Proofs.YtinbilbgipfemaaDoor
open Go.RowKit

/-- An item that can be written: a byte, or a copy. -/
def ItOk (r : It) : Prop := (r.l = 0 ∧ ∃ b : Nat, r.b = (b : Int) ∧ b ≤ 255) ∨ ∃ l d : Nat, r.l = (l : Int) ∧ r.d = (d : Int) ∧ 3 ≤ l ∧ l ≤ 258 ∧ 1 ≤ d ∧ d ≤ 32768

theorem FldIn.at {S : Nat → Prop} {W : World} {G : Nat} {fs : List Fd} (h : FldIn S W (some ⟨G, 0, none⟩) fs) (j : Nat) (hj : j < fs.length) : W.cell? ⟨G, j * 2, none⟩ = some (.int .u32 ((fs[j]?.getD (0, 0)).1 : Int)) ∧ W.cell? ⟨G, j * 2 + 1, none⟩ = some (.int .i64 ((fs[j]?.getD (0, 0)).2 : Int)) := by
  rcases h with rfl | ⟨b, off, e, hb, hc⟩
  · simp at hj
  · simp only [Option.some.injEq, Addr.mk.injEq, and_true] at e
    obtain ⟨rfl, rfl⟩ := e
    have := hc j fs[j] (List.getElem?_eq_getElem hj)
    rw [Nat.zero_add] at this
    rw [List.getElem?_eq_getElem hj]
    exact this

theorem getD_ok {fs : List Fd} (h : ∀ f ∈ fs, FdOk f) {i : Nat} (hi : i < fs.length) : FdOk (fs[i]?.getD (0, 0)) := by
  rw [List.getElem?_eq_getElem hi]
  exact h _ (List.getElem_mem hi)
theorem lenF_ok (l : Nat) (h3 : 3 ≤ l) (h : l ≤ 258) : FdOk (lenF l) := by
  have := litT_bd (lenI l) (lenI_ok l h3 h).2.1
  constructor
  · show l - _ < _; omega
  · show litX _ ≤ 32; omega
theorem dstF_ok (d : Nat) (h1 : 1 ≤ d) (h : d ≤ 32768) : FdOk (dstF d) := by
  have := distT_bd (distI d) (distI_ok d h1 h).2.1
  constructor
  · show d - _ < _; omega
  · show distX _ ≤ 32; omega
theorem take_snoc {α : Type} {l : List α} {k : Nat} {r : α} (h : l[k]? = some r) : l.take (k + 1) = l.take k ++ [r] := by
  obtain ⟨hk, rfl⟩ := List.getElem?_eq_some_iff.1 h
  exact List.take_succ_eq_append_getElem hk
theorem itsF_append (lc dc : List Fd) (a b : List It) : itsF lc dc (a ++ b) = itsF lc dc a ++ itsF lc dc b := List.flatMap_append
theorem itsF_take (lc dc : List Fd) (its : List It) (k : Nat) (r : It) (h : its[k]? = some r) : widF (itsF lc dc (its.take k)) + widF (itF lc dc r) ≤ widF (itsF lc dc its) := by
  have e : its = its.take (k + 1) ++ its.drop (k + 1) := (List.take_append_drop _ _).symm
  have h1 : widF (itsF lc dc its) = widF (itsF lc dc (its.take (k + 1))) + widF (itsF lc dc (its.drop (k + 1))) := by
    rw [← widF_append, ← itsF_append, ← e]
  rw [h1, take_snoc h, itsF_snoc, widF_append]
  omega

set_option maxRecDepth 100000 in
set_option maxHeartbeats 2000000 in
theorem putItems_any (T : Nat → Prop) (K R GL GD : Nat) (bs : List Bool) (ia : Option Addr) (ic lk dk : Nat) (its : List It) (lc dc : List Fd) (w : World) (hK : w.cell? ⟨K, 2, none⟩ = some (.slice ia its.length ic)) (hIt : ItsIn T w ia its) (hok : ∀ r ∈ its, ItOk r)
    (hL : FldIn T w (some ⟨GL, 0, none⟩) lc) (hD : FldIn T w (some ⟨GD, 0, none⟩) dc) (hll : 286 ≤ lc.length ∧ lc.length ≤ 1000) (hdl : 30 ≤ dc.length ∧ dc.length ≤ 1000) (hlo : ∀ f ∈ lc, FdOk f) (hdo : ∀ f ∈ dc, FdOk f) (hlen : its.length < 2000000)
    (hW : IsWb T w R bs) (hT : ∀ k, T k → k < w.heap.size) (hTR : ¬ T R) (hsz : bs.length + widF (itsF lc dc its) + 64 < 140737488355328) :
    Calls Tryd.prog 72 #[.pointer (some ⟨K, 0, none⟩), .pointer (some ⟨R, 0, none⟩), .slice (some ⟨GL, 0, none⟩) lc.length lk, .slice (some ⟨GD, 0, none⟩) dc.length dk] w fun e w' => e = .returned (.tuple #[]) ∧ IsWb T w' R (bs ++ fieldsB (itsF lc dc its ++ [lc[256]?.getD (0, 0)])) ∧ Kept T w w' := by
  have HOK : Hid (∀ r ∈ its, ItOk r) := hok
  have HLO : Hid (∀ f ∈ lc, FdOk f) := hlo
  have HDO : Hid (∀ f ∈ dc, FdOk f) := hdo
  have HSZ : Hid (bs.length + widF (itsF lc dc its) + 64 < 140737488355328) := hsz
  have HFL : Hid (FldIn T w (some ⟨GL, 0, none⟩) lc) := hL
  have HFD : Hid (FldIn T w (some ⟨GD, 0, none⟩) dc) := hD
  clear hok hlo hdo hsz
  go_enter Tryd.func72, Tryd.ntmps72
  go_wp2
  go_loopw [17] (fun v17 wr => ∃ k : Nat, k ≤ its.length ∧ v17 = .int .i64 (k : Int) ∧ IsWb T wr R (bs ++ fieldsB (itsF lc dc (its.take k))) ∧ Kept T w wr) (fun v17 _ => its.length - (intOf v17).toNat)
  case atStart => exact ⟨0, by omega, rfl, by simpa [fieldsB, itsF] using hW, Kept.refl _ _⟩
  case round =>
    obtain ⟨k, hk, rfl, hI, hKp⟩ := hrel
    by_cases hlt : k < its.length
    · rcases hIt.kept hKp with rfl | ⟨b, off, rfl, hb, hc⟩
      · simp at hlt
      obtain ⟨r, hr⟩ : ∃ r, its[k]? = some r := ⟨_, List.getElem?_eq_getElem hlt⟩
      have hit := hc k r hr
      have hrok := HOK.out r (List.mem_of_getElem? hr)
      obtain ⟨rb, rl, rd⟩ := r
      have i0 := hit.cb
      have i1 := hit.cl
      have i2 := hit.cd
      simp only at i0 i1 i2
      have hbl : b < wr.heap.size := Nat.lt_of_lt_of_le (hT b hb) hKp.size
      rcases hrok with ⟨h0, x, hx, hx255⟩ | ⟨l, d, hl, hd, l3, l258, d1, d32⟩
      · simp only at h0 hx
        subst h0 hx
        have hxl : x < lc.length := by omega
        obtain ⟨⟨lc1, lc2⟩, HEl⟩ : ∃ y, Hid (lc[x]?.getD (0, 0) = y) := ⟨_, rfl⟩
        obtain ⟨g0, g1⟩ := (HFL.out.kept hKp).at x hxl
        rw [HEl.out] at g0 g1
        simp only at g0 g1
        have hGL : GL < wr.heap.size := World.block_lt_of_cell? _ _ g0
        have HFS : Hid (itF lc dc ⟨(x : Int), 0, rd⟩ = [(lc1, lc2)]) := by
          show _ = _
          unfold itF
          rw [if_pos rfl]
          simp only [Int.toNat_natCast]
          rw [HEl.out]
        have HFO : Hid (∀ f ∈ ([(lc1, lc2)] : List Fd), FdOk f) := by
          intro f hf
          simp only [List.mem_cons, List.not_mem_nil, or_false] at hf
          subst hf
          rw [← HEl.out]; exact getD_ok HLO.out hxl
        obtain ⟨wS, hwS⟩ : ∃ y, wr.alloc (.cells #[.int .i64 (x : Int), .int .i64 0, .int .i64 rd] 32) = y := ⟨_, rfl⟩
        have hIS : IsWb T wS R (bs ++ fieldsB (itsF lc dc (its.take k))) := by rw [← hwS]; exact hI.alloc _
        have hKS : Kept T w wS := by rw [← hwS]; exact hKp.alloc (fun j hj => by have := hT j hj; have := hKp.size; omega) _
        have hGS : Below wr.heap.size wr wS := by rw [← hwS]; exact (Below.refl _ wr).alloc (Nat.le_refl _) _
        have e0 := (hGS.cell (p := ⟨GL, x * 2, none⟩) hGL).trans g0
        have e1 := (hGS.cell (p := ⟨GL, x * 2 + 1, none⟩) hGL).trans g1
        have rS : Row wS wr.heap.size 32 #[.int .i64 (x : Int), .int .i64 0, .int .i64 rd] := by rw [← hwS]; exact Row.new wr 32 _
        have s0 : wS.cell? ⟨wr.heap.size, 0, none⟩ = some (.int .i64 (x : Int)) := rS.cell (i := 0) rfl
        have s1 : wS.cell? ⟨wr.heap.size, 1, none⟩ = some (.int .i64 0) := rS.cell (i := 1) rfl
        have HPT : Hid (Calls Tryd.prog 71 #[.pointer (some ⟨R, 0, none⟩), .slice (some ⟨wS.heap.size, 0, none⟩) 1 1] (wS.alloc (.cells #[.int .u32 (lc1 : Int), .int .i64 (lc2 : Int)] 79)) _) :=
          putFresh T R (bs ++ fieldsB (itsF lc dc (its.take k))) [(lc1, lc2)] 1 1 rfl wS hIS HFO.out (by simp) (fun q hq => Nat.lt_of_lt_of_le (hT q hq) hKS.size) hTR (by
            have h1 := HSZ.out
            have h2 := itsF_take lc dc its k _ hr
            rw [HFS.out] at h2
            rw [List.length_append, fieldsB_length]
            omega)
        have HTK : Hid (bs ++ fieldsB (itsF lc dc (its.take (k + 1))) = bs ++ fieldsB (itsF lc dc (its.take k)) ++ fieldsB [(lc1, lc2)]) := by
          show _ = _
          rw [take_snoc hr, itsF_snoc, HFS.out, fieldsB_append, List.append_assoc]
        have HKW : Hid (Kept T w wS) := hKS
        clear HFS HFO hI hKp hIt hc hit hr hL hD hW hIS hKS hGS rS g0 g1
        go_wp2_with fail
        clear hwS i0 i1 i2
        refine HPT.out.mono ?_
        clear HPT
        rintro e w9 ⟨rfl, hI9, hK9⟩
        go_wp2
        refine ⟨⟨k + 1, by omega, by go_num, ?_, HKW.out.trans hK9⟩, by simp [intOf]; omega⟩
        rw [HTK.out]
        exact hI9
      · simp only at hl hd
        subst hl hd
        have t0 : ((l : Int) == 0) = false := by simp; omega
        obtain ⟨ls, HEls⟩ : ∃ x, Hid (257 + lenI l = x) := ⟨_, rfl⟩
        obtain ⟨ds, HEds⟩ : ∃ x, Hid (distI d = x) := ⟨_, rfl⟩
        obtain ⟨⟨lv, lx⟩, HElf⟩ : ∃ x, Hid (lenF l = x) := ⟨_, rfl⟩
        obtain ⟨⟨dv, dx⟩, HEdf⟩ : ∃ x, Hid (dstF d = x) := ⟨_, rfl⟩
        have HLn : Hid (∀ W : World, Calls Tryd.prog 30 #[.int .i64 (l : Int)] W fun e w' => e = .returned (.agg #[.int .i64 (ls : Int), .int .u32 (lv : Int), .int .i64 (lx : Int)]) ∧ Below W.heap.size W w') := fun W => by
          have := lengthSign_any l l3 l258 W
          rw [HEls.out, HElf.out] at this
          exact this
        have HDs : Hid (∀ W : World, Calls Tryd.prog 31 #[.int .i64 (d : Int)] W fun e w' => e = .returned (.agg #[.int .i64 (ds : Int), .int .u32 (dv : Int), .int .i64 (dx : Int)]) ∧ Below W.heap.size W w') := fun W => by
          have := distSign_any d d1 d32 W
          rw [HEds.out, HEdf.out] at this
          exact this
        obtain ⟨wS, hwS⟩ : ∃ x, wr.alloc (.cells #[.int .i64 rb, .int .i64 (l : Int), .int .i64 (d : Int)] 32) = x := ⟨_, rfl⟩
        have rS : Row wS wr.heap.size 32 #[.int .i64 rb, .int .i64 (l : Int), .int .i64 (d : Int)] := by rw [← hwS]; exact Row.new wr 32 _
        have s1 : wS.cell? ⟨wr.heap.size, 1, none⟩ = some (.int .i64 (l : Int)) := rS.cell (i := 1) rfl
        have s2 : wS.cell? ⟨wr.heap.size, 2, none⟩ = some (.int .i64 (d : Int)) := rS.cell (i := 2) rfl
        have HIS : Hid (IsWb T wS R (bs ++ fieldsB (itsF lc dc (its.take k))) ∧ Kept T w wS) := by
          rw [← hwS]; exact ⟨hI.alloc _, hKp.alloc (fun j hj => by have := hT j hj; have := hKp.size; omega) _⟩
        have HIT : Hid (its[k]? = some ⟨rb, (l : Int), (d : Int)⟩) := hr
        clear hI hKp hIt hc hit hr hL hD hW
        go_wp2_with fail
        clear hwS i0 i1 i2
        refine wp_mono (Q := regEx (fun a' w' => ∃ B1 B2, a' = { tmps := #[.pointer (some ⟨K, 0, none⟩), .pointer (some ⟨R, 0, none⟩), .slice (some ⟨GL, 0, none⟩) lc.length lk, .slice (some ⟨GD, 0, none⟩) dc.length dk, undef, undef, undef, undef, undef, .pointer (some ⟨wr.heap.size, 0, none⟩), .pointer (some ⟨B1, 0, none⟩), .pointer (some ⟨B2, 0, none⟩), .pointer (some ⟨K, 0, none⟩), .pointer (some ⟨K, 0, none⟩), .pointer (some ⟨K, 2, none⟩), .slice (some ⟨b, off, none⟩) its.length ic, .int .i64 (its.length : Int), .int .i64 (k : Int), .bool true, .pointer (some ⟨b, off + k * 3, none⟩), .agg #[.int .i64 rb, .int .i64 (l : Int), .int .i64 (d : Int)], .pointer (some ⟨wr.heap.size, 1, none⟩), .int .i64 (l : Int), .bool false, u24, u25, u26, u27, u28, u29, u30, u31, .pointer (some ⟨wr.heap.size, 1, none⟩), .int .i64 (l : Int), .agg #[.int .i64 (ls : Int), .int .u32 (lv : Int), .int .i64 (lx : Int)], .pointer (some ⟨wr.heap.size, 2, none⟩), .int .i64 (d : Int), .agg #[.int .i64 (ds : Int), .int .u32 (dv : Int), .int .i64 (dx : Int)], u38, u39, u40, u41, u42, u43, u44, u45, u46, u47, u48, u49, u50, u51, u52, u53, u54, u55, undef, undef, undef, undef, undef, undef], defers := [] } ∧ Row w' B1 81 #[.int .i64 (ls : Int), .int .u32 (lv : Int), .int .i64 (lx : Int)] ∧ Row w' B2 81 #[.int .i64 (ds : Int), .int .u32 (dv : Int), .int .i64 (dx : Int)] ∧ Below wS.heap.size wS w')) ?reg ?rest
        case reg =>
          refine wp_region_M (fun wx : World => Below wS.heap.size wS wx) (fun j => decide (j < 8)) 10 rfl (by kernel_rfl) ?_
          refine wpM_with (fun ops Q S E => ∀ (B1 B2 : Nat) (W : World), Row W B1 81 #[.int .i64 0, .int .u32 0, .int .i64 0] → Row W B2 81 #[.int .i64 0, .int .u32 0, .int .i64 0] → B1 ≠ B2 → Below wS.heap.size wS W → wS.heap.size ≤ B1 → wS.heap.size ≤ B2 → wpM Tryd.prog ops Q S E 2 #[true, true, true, true, true, true, true, true, false, false] { tmps := #[.pointer (some ⟨K, 0, none⟩), .pointer (some ⟨R, 0, none⟩), .slice (some ⟨GL, 0, none⟩) lc.length lk, .slice (some ⟨GD, 0, none⟩) dc.length dk, undef, undef, undef, undef, undef, .pointer (some ⟨wr.heap.size, 0, none⟩), .pointer (some ⟨B1, 0, none⟩), .pointer (some ⟨B2, 0, none⟩), .pointer (some ⟨K, 0, none⟩), .pointer (some ⟨K, 0, none⟩), .pointer (some ⟨K, 2, none⟩), .slice (some ⟨b, off, none⟩) its.length ic, .int .i64 (its.length : Int), .int .i64 (k : Int), .bool true, .pointer (some ⟨b, off + k * 3, none⟩), .agg #[.int .i64 rb, .int .i64 (l : Int), .int .i64 (d : Int)], .pointer (some ⟨wr.heap.size, 1, none⟩), .int .i64 (l : Int), .bool false, u24, u25, u26, u27, u28, u29, u30, u31, .pointer (some ⟨wr.heap.size, 1, none⟩), .int .i64 (l : Int), .agg #[.int .i64 (ls : Int), .int .u32 (lv : Int), .int .i64 (lx : Int)], .pointer (some ⟨wr.heap.size, 2, none⟩), .int .i64 (d : Int), .agg #[.int .i64 (ds : Int), .int .u32 (dv : Int), .int .i64 (dx : Int)], u38, u39, u40, u41, u42, u43, u44, u45, u46, u47, u48, u49, u50, u51, u52, u53, u54, u55, undef, undef, undef, undef, undef, undef], defers := [] } W) ?fin ?main
          case fin =>
            intro B1 B2 W r1 r2 hne hW h1 h2
            have d0 := r1.cell (i := 0) rfl
            have d1 := r1.cell (i := 1) rfl
            have d2 := r1.cell (i := 2) rfl
            have f0 := r1.frozen 0
            have f1 := r1.frozen 1
            have f2 := r1.frozen 2
            have HF : Hid (Row (((W.setCell ⟨B1, 0, none⟩ (.int .i64 (ls : Int))).setCell ⟨B1, 1, none⟩ (.int .u32 (lv : Int))).setCell ⟨B1, 2, none⟩ (.int .i64 (lx : Int))) B1 81 #[.int .i64 (ls : Int), .int .u32 (lv : Int), .int .i64 (lx : Int)] ∧ Row (((W.setCell ⟨B1, 0, none⟩ (.int .i64 (ls : Int))).setCell ⟨B1, 1, none⟩ (.int .u32 (lv : Int))).setCell ⟨B1, 2, none⟩ (.int .i64 (lx : Int))) B2 81 #[.int .i64 0, .int .u32 0, .int .i64 0] ∧ Kept (fun q => q < wS.heap.size) wS (((W.setCell ⟨B1, 0, none⟩ (.int .i64 (ls : Int))).setCell ⟨B1, 1, none⟩ (.int .u32 (lv : Int))).setCell ⟨B1, 2, none⟩ (.int .i64 (lx : Int)))) :=
              ⟨((r1.set 0 (.int .i64 (ls : Int))).set 1 (.int .u32 (lv : Int))).set 2 (.int .i64 (lx : Int)), r2.kept (S := fun q => q ≠ B1) ((((Kept.refl _ W).setCell (p := ⟨B1, 0, none⟩) (by simp) _).setCell (p := ⟨B1, 1, none⟩) (by simp) _).setCell (p := ⟨B1, 2, none⟩) (by simp) _) (fun e => hne e.symm), (((Kept.of_below hW (fun _ h => h)).setCell (p := ⟨B1, 0, none⟩) (by show ¬ B1 < _; omega) _).setCell (p := ⟨B1, 1, none⟩) (by show ¬ B1 < _; omega) _).setCell (p := ⟨B1, 2, none⟩) (by show ¬ B1 < _; omega) _⟩
            clear r1 r2 hW
            refine wpM_one 8 rfl (by kernel_rfl) rfl ?_
            go_wp2_with fail
            refine ⟨fun h => by simp at h, ?_⟩
            clear d0 d1 d2 f0 f1 f2
            obtain ⟨W2, hW2⟩ : ∃ x, x = (((W.setCell ⟨B1, 0, none⟩ (.int .i64 (ls : Int))).setCell ⟨B1, 1, none⟩ (.int .u32 (lv : Int))).setCell ⟨B1, 2, none⟩ (.int .i64 (lx : Int))) := ⟨_, rfl⟩
            rw [← hW2] at HF ⊢
            clear hW2
            obtain ⟨r1, r2, hW⟩ := HF.out
            clear HF
            have d0 := r2.cell (i := 0) rfl
            have d1 := r2.cell (i := 1) rfl
            have d2 := r2.cell (i := 2) rfl
            have f0 := r2.frozen 0
            have f1 := r2.frozen 1
            have f2 := r2.frozen 2
            have HF : Hid (Row (((W2.setCell ⟨B2, 0, none⟩ (.int .i64 (ds : Int))).setCell ⟨B2, 1, none⟩ (.int .u32 (dv : Int))).setCell ⟨B2, 2, none⟩ (.int .i64 (dx : Int))) B1 81 #[.int .i64 (ls : Int), .int .u32 (lv : Int), .int .i64 (lx : Int)] ∧ Row (((W2.setCell ⟨B2, 0, none⟩ (.int .i64 (ds : Int))).setCell ⟨B2, 1, none⟩ (.int .u32 (dv : Int))).setCell ⟨B2, 2, none⟩ (.int .i64 (dx : Int))) B2 81 #[.int .i64 (ds : Int), .int .u32 (dv : Int), .int .i64 (dx : Int)] ∧ Below wS.heap.size wS (((W2.setCell ⟨B2, 0, none⟩ (.int .i64 (ds : Int))).setCell ⟨B2, 1, none⟩ (.int .u32 (dv : Int))).setCell ⟨B2, 2, none⟩ (.int .i64 (dx : Int)))) :=
              ⟨r1.kept (S := fun q => q ≠ B2) ((((Kept.refl _ W2).setCell (p := ⟨B2, 0, none⟩) (by simp) _).setCell (p := ⟨B2, 1, none⟩) (by simp) _).setCell (p := ⟨B2, 2, none⟩) (by simp) _) hne, ((r2.set 0 (.int .i64 (ds : Int))).set 1 (.int .u32 (dv : Int))).set 2 (.int .i64 (dx : Int)), (((hW.setCell (p := ⟨B2, 0, none⟩) (by show ¬ B2 < _; omega) _).setCell (p := ⟨B2, 1, none⟩) (by show ¬ B2 < _; omega) _).setCell (p := ⟨B2, 2, none⟩) (by show ¬ B2 < _; omega) _).below (fun _ h => h)⟩
            clear r1 r2 hW
            refine wpM_one 9 rfl (by kernel_rfl) rfl ?_
            go_wp2_with fail
            refine ⟨fun h => by simp at h, ?_⟩
            refine wpM_done (by kernel_rfl) ?_
            exact ⟨B1, B2, rfl, HF.out⟩
          case main =>
            intro FIN
            have SwS : Below wS.heap.size wS wS.drew := (Below.refl _ wS).drew
            refine wpM_held 0 (v := ?_) rfl (by kernel_rfl) (by kernel_rfl) rfl (fun _ _ _ h => h) rfl (by intro wx hx; go_simp <;> rfl) SwS ?_
            refine wpM_held 1 (v := .int .i64 (l : Int)) rfl (by kernel_rfl) (by kernel_rfl) rfl (fun _ _ _ h => h) rfl (by intro wx hx; have hc := (hx.cell (p := ⟨wr.heap.size, 1, none⟩) rS.lt).trans s1; go_simp <;> rfl) SwS ?_
            refine wpM_held 3 (v := ?_) rfl (by kernel_rfl) (by kernel_rfl) rfl (fun _ _ _ h => h) rfl (by intro wx hx; go_simp <;> rfl) SwS ?_
            refine wpM_held 4 (v := .int .i64 (d : Int)) rfl (by kernel_rfl) (by kernel_rfl) rfl (fun _ _ _ h => h) rfl (by intro wx hx; have hc := (hx.cell (p := ⟨wr.heap.size, 2, none⟩) rS.lt).trans s2; go_simp <;> rfl) SwS ?_
            generalize wS.drew = wSd at SwS ⊢
            have zwSd : wS.heap.size ≤ wSd.heap.size := SwS.size
            have SwSd := SwS
            clear SwS
            refine wpM_three 2 6 7 rfl rfl rfl (by kernel_rfl) rfl rfl rfl ?_ ?_ ?_
            · go_wp2_with fail
              refine (HLn.out _).mono ?_
              rintro e w101 ⟨rfl, hbw101⟩
              have Sw101 : Below wS.heap.size wS w101 := SwSd.trans (hbw101.mono SwSd.size)
              have zw101 : wSd.heap.size ≤ w101.heap.size := hbw101.size
              go_wp2_with fail
              refine ⟨fun _ => Sw101, ?_⟩
              refine wpM_three 5 6 7 rfl rfl rfl (by kernel_rfl) rfl rfl rfl ?_ ?_ ?_
              · go_wp2_with fail
                refine (HDs.out _).mono ?_
                rintro e w102 ⟨rfl, hbw102⟩
                have Sw102 : Below wS.heap.size wS w102 := Sw101.trans (hbw102.mono Sw101.size)
                have zw102 : w101.heap.size ≤ w102.heap.size := hbw102.size
                go_wp2_with fail
                refine ⟨fun _ => Sw102, ?_⟩
                refine wpM_two 6 7 rfl rfl (by kernel_rfl) rfl rfl ?_ ?_
                · obtain ⟨w103, hw103⟩ : ∃ x, x = w102.alloc (.cells #[.int .i64 0, .int .u32 0, .int .i64 0] 81) := ⟨_, rfl⟩
                  have Sw103 : Below wS.heap.size wS w103 := by rw [hw103]; exact Sw102.alloc Sw102.size _
                  have zw103 : w102.heap.size < w103.heap.size := by rw [hw103]; simp
                  have r10w103 : Row w103 w102.heap.size 81 #[.int .i64 0, .int .u32 0, .int .i64 0] := by rw [hw103]; exact Row.new w102 81 _
                  go_wp2_with fail
                  rw [← hw103]
                  clear hw103
                  refine ⟨fun _ => Sw103, ?_⟩
                  refine wpM_one 7 rfl (by kernel_rfl) rfl ?_
                  obtain ⟨w104, hw104⟩ : ∃ x, x = w103.alloc (.cells #[.int .i64 0, .int .u32 0, .int .i64 0] 81) := ⟨_, rfl⟩
                  have Sw104 : Below wS.heap.size wS w104 := by rw [hw104]; exact Sw103.alloc Sw103.size _
                  have zw104 : w103.heap.size < w104.heap.size := by rw [hw104]; simp
                  have r11w104 : Row w104 w103.heap.size 81 #[.int .i64 0, .int .u32 0, .int .i64 0] := by rw [hw104]; exact Row.new w103 81 _
                  have r10w104 : Row w104 w102.heap.size 81 #[.int .i64 0, .int .u32 0, .int .i64 0] := by rw [hw104]; exact r10w103.alloc _
                  go_wp2_with fail
                  rw [← hw104]
                  clear hw104
                  refine ⟨fun _ => Sw104, ?_⟩
                  exact FIN w102.heap.size w103.heap.size w104 r10w104 r11w104 (by omega) Sw104 (by have := Sw102.size; omega) (by have := Sw103.size; omega)
                · obtain ⟨w105, hw105⟩ : ∃ x, x = w102.alloc (.cells #[.int .i64 0, .int .u32 0, .int .i64 0] 81) := ⟨_, rfl⟩
                  have Sw105 : Below wS.heap.size wS w105 := by rw [hw105]; exact Sw102.alloc Sw102.size _
                  have zw105 : w102.heap.size < w105.heap.size := by rw [hw105]; simp
                  have r11w105 : Row w105 w102.heap.size 81 #[.int .i64 0, .int .u32 0, .int .i64 0] := by rw [hw105]; exact Row.new w102 81 _
                  go_wp2_with fail
                  rw [← hw105]
                  clear hw105
                  refine ⟨fun _ => Sw105, ?_⟩
                  refine wpM_one 6 rfl (by kernel_rfl) rfl ?_
                  obtain ⟨w106, hw106⟩ : ∃ x, x = w105.alloc (.cells #[.int .i64 0, .int .u32 0, .int .i64 0] 81) := ⟨_, rfl⟩
                  have Sw106 : Below wS.heap.size wS w106 := by rw [hw106]; exact Sw105.alloc Sw105.size _
                  have zw106 : w105.heap.size < w106.heap.size := by rw [hw106]; simp
                  have r10w106 : Row w106 w105.heap.size 81 #[.int .i64 0, .int .u32 0, .int .i64 0] := by rw [hw106]; exact Row.new w105 81 _
                  have r11w106 : Row w106 w102.heap.size 81 #[.int .i64 0, .int .u32 0, .int .i64 0] := by rw [hw106]; exact r11w105.alloc _
                  go_wp2_with fail
                  rw [← hw106]
                  clear hw106
                  refine ⟨fun _ => Sw106, ?_⟩
                  exact FIN w105.heap.size w102.heap.size w106 r10w106 r11w106 (by omega) Sw106 (by have := Sw105.size; omega) (by have := Sw102.size; omega)
              · obtain ⟨w107, hw107⟩ : ∃ x, x = w101.alloc (.cells #[.int .i64 0, .int .u32 0, .int .i64 0] 81) := ⟨_, rfl⟩
                have Sw107 : Below wS.heap.size wS w107 := by rw [hw107]; exact Sw101.alloc Sw101.size _
                have zw107 : w101.heap.size < w107.heap.size := by rw [hw107]; simp
                have r10w107 : Row w107 w101.heap.size 81 #[.int .i64 0, .int .u32 0, .int .i64 0] := by rw [hw107]; exact Row.new w101 81 _
                go_wp2_with fail
                rw [← hw107]
                clear hw107
                refine ⟨fun _ => Sw107, ?_⟩
                refine wpM_two 5 7 rfl rfl (by kernel_rfl) rfl rfl ?_ ?_
                · go_wp2_with fail
                  refine (HDs.out _).mono ?_
                  rintro e w108 ⟨rfl, hbw108⟩
                  have Sw108 : Below wS.heap.size wS w108 := Sw107.trans (hbw108.mono Sw107.size)
                  have zw108 : w107.heap.size ≤ w108.heap.size := hbw108.size
                  have r10w108 := r10w107.below hbw108 r10w107.lt
                  go_wp2_with fail
                  refine ⟨fun _ => Sw108, ?_⟩
                  refine wpM_one 7 rfl (by kernel_rfl) rfl ?_
                  obtain ⟨w109, hw109⟩ : ∃ x, x = w108.alloc (.cells #[.int .i64 0, .int .u32 0, .int .i64 0] 81) := ⟨_, rfl⟩
                  have Sw109 : Below wS.heap.size wS w109 := by rw [hw109]; exact Sw108.alloc Sw108.size _
                  have zw109 : w108.heap.size < w109.heap.size := by rw [hw109]; simp
                  have r11w109 : Row w109 w108.heap.size 81 #[.int .i64 0, .int .u32 0, .int .i64 0] := by rw [hw109]; exact Row.new w108 81 _
                  have r10w109 : Row w109 w101.heap.size 81 #[.int .i64 0, .int .u32 0, .int .i64 0] := by rw [hw109]; exact r10w108.alloc _
                  go_wp2_with fail
                  rw [← hw109]
                  clear hw109
                  refine ⟨fun _ => Sw109, ?_⟩
                  exact FIN w101.heap.size w108.heap.size w109 r10w109 r11w109 (by omega) Sw109 (by have := Sw101.size; omega) (by have := Sw108.size; omega)
                · obtain ⟨w110, hw110⟩ : ∃ x, x = w107.alloc (.cells #[.int .i64 0, .int .u32 0, .int .i64 0] 81) := ⟨_, rfl⟩
                  have Sw110 : Below wS.heap.size wS w110 := by rw [hw110]; exact Sw107.alloc Sw107.size _
                  have zw110 : w107.heap.size < w110.heap.size := by rw [hw110]; simp
                  have r11w110 : Row w110 w107.heap.size 81 #[.int .i64 0, .int .u32 0, .int .i64 0] := by rw [hw110]; exact Row.new w107 81 _
                  have r10w110 : Row w110 w101.heap.size 81 #[.int .i64 0, .int .u32 0, .int .i64 0] := by rw [hw110]; exact r10w107.alloc _
                  go_wp2_with fail
                  rw [← hw110]
                  clear hw110
                  refine ⟨fun _ => Sw110, ?_⟩
                  refine wpM_one 5 rfl (by kernel_rfl) rfl ?_
                  go_wp2_with fail
                  refine (HDs.out _).mono ?_
                  rintro e w111 ⟨rfl, hbw111⟩
                  have Sw111 : Below wS.heap.size wS w111 := Sw110.trans (hbw111.mono Sw110.size)
                  have zw111 : w110.heap.size ≤ w111.heap.size := hbw111.size
                  have r10w111 := r10w110.below hbw111 r10w110.lt
                  have r11w111 := r11w110.below hbw111 r11w110.lt
                  go_wp2_with fail
                  refine ⟨fun _ => Sw111, ?_⟩
                  exact FIN w101.heap.size w107.heap.size w111 r10w111 r11w111 (by omega) Sw111 (by have := Sw101.size; omega) (by have := Sw107.size; omega)
              · obtain ⟨w112, hw112⟩ : ∃ x, x = w101.alloc (.cells #[.int .i64 0, .int .u32 0, .int .i64 0] 81) := ⟨_, rfl⟩
                have Sw112 : Below wS.heap.size wS w112 := by rw [hw112]; exact Sw101.alloc Sw101.size _
                have zw112 : w101.heap.size < w112.heap.size := by rw [hw112]; simp
                have r11w112 : Row w112 w101.heap.size 81 #[.int .i64 0, .int .u32 0, .int .i64 0] := by rw [hw112]; exact Row.new w101 81 _
                go_wp2_with fail
                rw [← hw112]
                clear hw112
                refine ⟨fun _ => Sw112, ?_⟩
                refine wpM_two 5 6 rfl rfl (by kernel_rfl) rfl rfl ?_ ?_
                · go_wp2_with fail
                  refine (HDs.out _).mono ?_
                  rintro e w113 ⟨rfl, hbw113⟩
                  have Sw113 : Below wS.heap.size wS w113 := Sw112.trans (hbw113.mono Sw112.size)
                  have zw113 : w112.heap.size ≤ w113.heap.size := hbw113.size
                  have r11w113 := r11w112.below hbw113 r11w112.lt
                  go_wp2_with fail
                  refine ⟨fun _ => Sw113, ?_⟩
                  refine wpM_one 6 rfl (by kernel_rfl) rfl ?_
                  obtain ⟨w114, hw114⟩ : ∃ x, x = w113.alloc (.cells #[.int .i64 0, .int .u32 0, .int .i64 0] 81) := ⟨_, rfl⟩
                  have Sw114 : Below wS.heap.size wS w114 := by rw [hw114]; exact Sw113.alloc Sw113.size _
                  have zw114 : w113.heap.size < w114.heap.size := by rw [hw114]; simp
                  have r10w114 : Row w114 w113.heap.size 81 #[.int .i64 0, .int .u32 0, .int .i64 0] := by rw [hw114]; exact Row.new w113 81 _
                  have r11w114 : Row w114 w101.heap.size 81 #[.int .i64 0, .int .u32 0, .int .i64 0] := by rw [hw114]; exact r11w113.alloc _
                  go_wp2_with fail
                  rw [← hw114]
                  clear hw114
                  refine ⟨fun _ => Sw114, ?_⟩
                  exact FIN w113.heap.size w101.heap.size w114 r10w114 r11w114 (by omega) Sw114 (by have := Sw113.size; omega) (by have := Sw101.size; omega)
                · obtain ⟨w115, hw115⟩ : ∃ x, x = w112.alloc (.cells #[.int .i64 0, .int .u32 0, .int .i64 0] 81) := ⟨_, rfl⟩
                  have Sw115 : Below wS.heap.size wS w115 := by rw [hw115]; exact Sw112.alloc Sw112.size _
                  have zw115 : w112.heap.size < w115.heap.size := by rw [hw115]; simp
                  have r10w115 : Row w115 w112.heap.size 81 #[.int .i64 0, .int .u32 0, .int .i64 0] := by rw [hw115]; exact Row.new w112 81 _
                  have r11w115 : Row w115 w101.heap.size 81 #[.int .i64 0, .int .u32 0, .int .i64 0] := by rw [hw115]; exact r11w112.alloc _
                  go_wp2_with fail
                  rw [← hw115]
                  clear hw115
                  refine ⟨fun _ => Sw115, ?_⟩
                  refine wpM_one 5 rfl (by kernel_rfl) rfl ?_
                  go_wp2_with fail
                  refine (HDs.out _).mono ?_
                  rintro e w116 ⟨rfl, hbw116⟩
                  have Sw116 : Below wS.heap.size wS w116 := Sw115.trans (hbw116.mono Sw115.size)
                  have zw116 : w115.heap.size ≤ w116.heap.size := hbw116.size
                  have r10w116 := r10w115.below hbw116 r10w115.lt
                  have r11w116 := r11w115.below hbw116 r11w115.lt
                  go_wp2_with fail
                  refine ⟨fun _ => Sw116, ?_⟩
                  exact FIN w112.heap.size w101.heap.size w116 r10w116 r11w116 (by omega) Sw116 (by have := Sw112.size; omega) (by have := Sw101.size; omega)
            · obtain ⟨w117, hw117⟩ : ∃ x, x = wSd.alloc (.cells #[.int .i64 0, .int .u32 0, .int .i64 0] 81) := ⟨_, rfl⟩
              have Sw117 : Below wS.heap.size wS w117 := by rw [hw117]; exact SwSd.alloc SwSd.size _
              have zw117 : wSd.heap.size < w117.heap.size := by rw [hw117]; simp
              have r10w117 : Row w117 wSd.heap.size 81 #[.int .i64 0, .int .u32 0, .int .i64 0] := by rw [hw117]; exact Row.new wSd 81 _
              go_wp2_with fail
              rw [← hw117]
              clear hw117
              refine ⟨fun _ => Sw117, ?_⟩
              refine wpM_two 2 7 rfl rfl (by kernel_rfl) rfl rfl ?_ ?_
              · go_wp2_with fail
                refine (HLn.out _).mono ?_
                rintro e w118 ⟨rfl, hbw118⟩
                have Sw118 : Below wS.heap.size wS w118 := Sw117.trans (hbw118.mono Sw117.size)
                have zw118 : w117.heap.size ≤ w118.heap.size := hbw118.size
                have r10w118 := r10w117.below hbw118 r10w117.lt
                go_wp2_with fail
                refine ⟨fun _ => Sw118, ?_⟩
                refine wpM_two 5 7 rfl rfl (by kernel_rfl) rfl rfl ?_ ?_
                · go_wp2_with fail
                  refine (HDs.out _).mono ?_
                  rintro e w119 ⟨rfl, hbw119⟩
                  have Sw119 : Below wS.heap.size wS w119 := Sw118.trans (hbw119.mono Sw118.size)
                  have zw119 : w118.heap.size ≤ w119.heap.size := hbw119.size
                  have r10w119 := r10w118.below hbw119 r10w118.lt
                  go_wp2_with fail
                  refine ⟨fun _ => Sw119, ?_⟩
                  refine wpM_one 7 rfl (by kernel_rfl) rfl ?_
                  obtain ⟨w120, hw120⟩ : ∃ x, x = w119.alloc (.cells #[.int .i64 0, .int .u32 0, .int .i64 0] 81) := ⟨_, rfl⟩
                  have Sw120 : Below wS.heap.size wS w120 := by rw [hw120]; exact Sw119.alloc Sw119.size _
                  have zw120 : w119.heap.size < w120.heap.size := by rw [hw120]; simp
                  have r11w120 : Row w120 w119.heap.size 81 #[.int .i64 0, .int .u32 0, .int .i64 0] := by rw [hw120]; exact Row.new w119 81 _
                  have r10w120 : Row w120 wSd.heap.size 81 #[.int .i64 0, .int .u32 0, .int .i64 0] := by rw [hw120]; exact r10w119.alloc _
                  go_wp2_with fail
                  rw [← hw120]
                  clear hw120
                  refine ⟨fun _ => Sw120, ?_⟩
                  exact FIN wSd.heap.size w119.heap.size w120 r10w120 r11w120 (by omega) Sw120 (by have := SwSd.size; omega) (by have := Sw119.size; omega)
                · obtain ⟨w121, hw121⟩ : ∃ x, x = w118.alloc (.cells #[.int .i64 0, .int .u32 0, .int .i64 0] 81) := ⟨_, rfl⟩
                  have Sw121 : Below wS.heap.size wS w121 := by rw [hw121]; exact Sw118.alloc Sw118.size _
                  have zw121 : w118.heap.size < w121.heap.size := by rw [hw121]; simp
                  have r11w121 : Row w121 w118.heap.size 81 #[.int .i64 0, .int .u32 0, .int .i64 0] := by rw [hw121]; exact Row.new w118 81 _
                  have r10w121 : Row w121 wSd.heap.size 81 #[.int .i64 0, .int .u32 0, .int .i64 0] := by rw [hw121]; exact r10w118.alloc _
                  go_wp2_with fail
                  rw [← hw121]
                  clear hw121
                  refine ⟨fun _ => Sw121, ?_⟩
                  refine wpM_one 5 rfl (by kernel_rfl) rfl ?_
                  go_wp2_with fail
                  refine (HDs.out _).mono ?_
                  rintro e w122 ⟨rfl, hbw122⟩
                  have Sw122 : Below wS.heap.size wS w122 := Sw121.trans (hbw122.mono Sw121.size)
                  have zw122 : w121.heap.size ≤ w122.heap.size := hbw122.size
                  have r10w122 := r10w121.below hbw122 r10w121.lt
                  have r11w122 := r11w121.below hbw122 r11w121.lt
                  go_wp2_with fail
                  refine ⟨fun _ => Sw122, ?_⟩
                  exact FIN wSd.heap.size w118.heap.size w122 r10w122 r11w122 (by omega) Sw122 (by have := SwSd.size; omega) (by have := Sw118.size; omega)
              · obtain ⟨w123, hw123⟩ : ∃ x, x = w117.alloc (.cells #[.int .i64 0, .int .u32 0, .int .i64 0] 81) := ⟨_, rfl⟩
                have Sw123 : Below wS.heap.size wS w123 := by rw [hw123]; exact Sw117.alloc Sw117.size _
                have zw123 : w117.heap.size < w123.heap.size := by rw [hw123]; simp
                have r11w123 : Row w123 w117.heap.size 81 #[.int .i64 0, .int .u32 0, .int .i64 0] := by rw [hw123]; exact Row.new w117 81 _
                have r10w123 : Row w123 wSd.heap.size 81 #[.int .i64 0, .int .u32 0, .int .i64 0] := by rw [hw123]; exact r10w117.alloc _
                go_wp2_with fail
                rw [← hw123]
                clear hw123
                refine ⟨fun _ => Sw123, ?_⟩
                refine wpM_one 2 rfl (by kernel_rfl) rfl ?_
                go_wp2_with fail
                refine (HLn.out _).mono ?_
                rintro e w124 ⟨rfl, hbw124⟩
                have Sw124 : Below wS.heap.size wS w124 := Sw123.trans (hbw124.mono Sw123.size)
                have zw124 : w123.heap.size ≤ w124.heap.size := hbw124.size
                have r10w124 := r10w123.below hbw124 r10w123.lt
                have r11w124 := r11w123.below hbw124 r11w123.lt
                go_wp2_with fail
                refine ⟨fun _ => Sw124, ?_⟩
                refine wpM_one 5 rfl (by kernel_rfl) rfl ?_
                go_wp2_with fail
                refine (HDs.out _).mono ?_
                rintro e w125 ⟨rfl, hbw125⟩
                have Sw125 : Below wS.heap.size wS w125 := Sw124.trans (hbw125.mono Sw124.size)
                have zw125 : w124.heap.size ≤ w125.heap.size := hbw125.size
                have r10w125 := r10w124.below hbw125 r10w124.lt
                have r11w125 := r11w124.below hbw125 r11w124.lt
                go_wp2_with fail
                refine ⟨fun _ => Sw125, ?_⟩
                exact FIN wSd.heap.size w117.heap.size w125 r10w125 r11w125 (by omega) Sw125 (by have := SwSd.size; omega) (by have := Sw117.size; omega)
            · obtain ⟨w126, hw126⟩ : ∃ x, x = wSd.alloc (.cells #[.int .i64 0, .int .u32 0, .int .i64 0] 81) := ⟨_, rfl⟩
              have Sw126 : Below wS.heap.size wS w126 := by rw [hw126]; exact SwSd.alloc SwSd.size _
              have zw126 : wSd.heap.size < w126.heap.size := by rw [hw126]; simp
              have r11w126 : Row w126 wSd.heap.size 81 #[.int .i64 0, .int .u32 0, .int .i64 0] := by rw [hw126]; exact Row.new wSd 81 _
              go_wp2_with fail
              rw [← hw126]
              clear hw126
              refine ⟨fun _ => Sw126, ?_⟩
              refine wpM_two 2 6 rfl rfl (by kernel_rfl) rfl rfl ?_ ?_
              · go_wp2_with fail
                refine (HLn.out _).mono ?_
                rintro e w127 ⟨rfl, hbw127⟩
                have Sw127 : Below wS.heap.size wS w127 := Sw126.trans (hbw127.mono Sw126.size)
                have zw127 : w126.heap.size ≤ w127.heap.size := hbw127.size
                have r11w127 := r11w126.below hbw127 r11w126.lt
                go_wp2_with fail
                refine ⟨fun _ => Sw127, ?_⟩
                refine wpM_two 5 6 rfl rfl (by kernel_rfl) rfl rfl ?_ ?_
                · go_wp2_with fail
                  refine (HDs.out _).mono ?_
                  rintro e w128 ⟨rfl, hbw128⟩
                  have Sw128 : Below wS.heap.size wS w128 := Sw127.trans (hbw128.mono Sw127.size)
                  have zw128 : w127.heap.size ≤ w128.heap.size := hbw128.size
                  have r11w128 := r11w127.below hbw128 r11w127.lt
                  go_wp2_with fail
                  refine ⟨fun _ => Sw128, ?_⟩
                  refine wpM_one 6 rfl (by kernel_rfl) rfl ?_
                  obtain ⟨w129, hw129⟩ : ∃ x, x = w128.alloc (.cells #[.int .i64 0, .int .u32 0, .int .i64 0] 81) := ⟨_, rfl⟩
                  have Sw129 : Below wS.heap.size wS w129 := by rw [hw129]; exact Sw128.alloc Sw128.size _
                  have zw129 : w128.heap.size < w129.heap.size := by rw [hw129]; simp
                  have r10w129 : Row w129 w128.heap.size 81 #[.int .i64 0, .int .u32 0, .int .i64 0] := by rw [hw129]; exact Row.new w128 81 _
                  have r11w129 : Row w129 wSd.heap.size 81 #[.int .i64 0, .int .u32 0, .int .i64 0] := by rw [hw129]; exact r11w128.alloc _
                  go_wp2_with fail
                  rw [← hw129]
                  clear hw129
                  refine ⟨fun _ => Sw129, ?_⟩
                  exact FIN w128.heap.size wSd.heap.size w129 r10w129 r11w129 (by omega) Sw129 (by have := Sw128.size; omega) (by have := SwSd.size; omega)
                · obtain ⟨w130, hw130⟩ : ∃ x, x = w127.alloc (.cells #[.int .i64 0, .int .u32 0, .int .i64 0] 81) := ⟨_, rfl⟩
                  have Sw130 : Below wS.heap.size wS w130 := by rw [hw130]; exact Sw127.alloc Sw127.size _
                  have zw130 : w127.heap.size < w130.heap.size := by rw [hw130]; simp
                  have r10w130 : Row w130 w127.heap.size 81 #[.int .i64 0, .int .u32 0, .int .i64 0] := by rw [hw130]; exact Row.new w127 81 _
                  have r11w130 : Row w130 wSd.heap.size 81 #[.int .i64 0, .int .u32 0, .int .i64 0] := by rw [hw130]; exact r11w127.alloc _
                  go_wp2_with fail
                  rw [← hw130]
                  clear hw130
                  refine ⟨fun _ => Sw130, ?_⟩
                  refine wpM_one 5 rfl (by kernel_rfl) rfl ?_
                  go_wp2_with fail
                  refine (HDs.out _).mono ?_
                  rintro e w131 ⟨rfl, hbw131⟩
                  have Sw131 : Below wS.heap.size wS w131 := Sw130.trans (hbw131.mono Sw130.size)
                  have zw131 : w130.heap.size ≤ w131.heap.size := hbw131.size
                  have r10w131 := r10w130.below hbw131 r10w130.lt
                  have r11w131 := r11w130.below hbw131 r11w130.lt
                  go_wp2_with fail
                  refine ⟨fun _ => Sw131, ?_⟩
                  exact FIN w127.heap.size wSd.heap.size w131 r10w131 r11w131 (by omega) Sw131 (by have := Sw127.size; omega) (by have := SwSd.size; omega)
              · obtain ⟨w132, hw132⟩ : ∃ x, x = w126.alloc (.cells #[.int .i64 0, .int .u32 0, .int .i64 0] 81) := ⟨_, rfl⟩
                have Sw132 : Below wS.heap.size wS w132 := by rw [hw132]; exact Sw126.alloc Sw126.size _
                have zw132 : w126.heap.size < w132.heap.size := by rw [hw132]; simp
                have r10w132 : Row w132 w126.heap.size 81 #[.int .i64 0, .int .u32 0, .int .i64 0] := by rw [hw132]; exact Row.new w126 81 _
                have r11w132 : Row w132 wSd.heap.size 81 #[.int .i64 0, .int .u32 0, .int .i64 0] := by rw [hw132]; exact r11w126.alloc _
                go_wp2_with fail
                rw [← hw132]
                clear hw132
                refine ⟨fun _ => Sw132, ?_⟩
                refine wpM_one 2 rfl (by kernel_rfl) rfl ?_
                go_wp2_with fail
                refine (HLn.out _).mono ?_
                rintro e w133 ⟨rfl, hbw133⟩
                have Sw133 : Below wS.heap.size wS w133 := Sw132.trans (hbw133.mono Sw132.size)
                have zw133 : w132.heap.size ≤ w133.heap.size := hbw133.size
                have r10w133 := r10w132.below hbw133 r10w132.lt
                have r11w133 := r11w132.below hbw133 r11w132.lt
                go_wp2_with fail
                refine ⟨fun _ => Sw133, ?_⟩
                refine wpM_one 5 rfl (by kernel_rfl) rfl ?_
                go_wp2_with fail
                refine (HDs.out _).mono ?_
                rintro e w134 ⟨rfl, hbw134⟩
                have Sw134 : Below wS.heap.size wS w134 := Sw133.trans (hbw134.mono Sw133.size)
                have zw134 : w133.heap.size ≤ w134.heap.size := hbw134.size
                have r10w134 := r10w133.below hbw134 r10w133.lt
                have r11w134 := r11w133.below hbw134 r11w133.lt
                go_wp2_with fail
                refine ⟨fun _ => Sw134, ?_⟩
                exact FIN w126.heap.size wSd.heap.size w134 r10w134 r11w134 (by omega) Sw134 (by have := Sw126.size; omega) (by have := SwSd.size; omega)
        case rest =>
          intro e a' w' hq
          cases e <;> simp only [regEx] at hq
          obtain ⟨B1, B2, rfl, r1, r2, hB⟩ := hq
          have hTS : ∀ q, T q → q < wS.heap.size := fun q hq => Nat.lt_of_lt_of_le (hT q hq) HIS.out.2.size
          have hkT : Kept T w w' := HIS.out.2.trans (Kept.of_below hB hTS)
          have hlsl : ls < lc.length := by have := HEls.out; have := (lenI_ok l l3 l258).2.1; omega
          have hdsl : ds < dc.length := by have := HEds.out; have := (distI_ok d d1 d32).2.1; omega
          obtain ⟨g0, g1⟩ := (HFL.out.kept hkT).at ls hlsl
          obtain ⟨g2, g3⟩ := (HFD.out.kept hkT).at ds hdsl
          obtain ⟨⟨lc1, lc2⟩, HEl⟩ : ∃ x, Hid (lc[ls]?.getD (0, 0) = x) := ⟨_, rfl⟩
          obtain ⟨⟨dc1, dc2⟩, HEd⟩ : ∃ x, Hid (dc[ds]?.getD (0, 0) = x) := ⟨_, rfl⟩
          rw [HEl.out] at g0 g1
          rw [HEd.out] at g2 g3
          simp only at g0 g1 g2 g3
          have HFS : Hid (itF lc dc ⟨rb, (l : Int), (d : Int)⟩ = [(lc1, lc2), (lv, lx), (dc1, dc2), (dv, dx)]) := by
            show _ = _
            unfold itF
            rw [if_neg (by show ¬ (l : Int) = 0; omega)]
            simp only [Int.toNat_natCast]
            rw [HEls.out, HEds.out, HElf.out, HEdf.out, HEl.out, HEd.out]
          have HFO : Hid (∀ f ∈ ([(lc1, lc2), (lv, lx), (dc1, dc2), (dv, dx)] : List Fd), FdOk f) := by
            intro f hf
            simp only [List.mem_cons, List.not_mem_nil, or_false] at hf
            rcases hf with rfl | rfl | rfl | rfl
            · rw [← HEl.out]; exact getD_ok HLO.out hlsl
            · rw [← HElf.out]; exact lenF_ok l l3 l258
            · rw [← HEd.out]; exact getD_ok HDO.out hdsl
            · rw [← HEdf.out]; exact dstF_ok d d1 d32
          have HPT : Hid (Calls Tryd.prog 71 #[.pointer (some ⟨R, 0, none⟩), .slice (some ⟨w'.heap.size, 0, none⟩) 4 4] (w'.drew.alloc (.cells #[.int .u32 (lc1 : Int), .int .i64 (lc2 : Int), .int .u32 (lv : Int), .int .i64 (lx : Int), .int .u32 (dc1 : Int), .int .i64 (dc2 : Int), .int .u32 (dv : Int), .int .i64 (dx : Int)] 79)) _) :=
            putFresh T R (bs ++ fieldsB (itsF lc dc (its.take k))) [(lc1, lc2), (lv, lx), (dc1, dc2), (dv, dx)] 4 4 rfl w'.drew ((HIS.out.1.below hB).drew) HFO.out (by simp) (fun q hq => by have h1 := hTS q hq; have h2 := hB.size; show q < w'.heap.size; omega) hTR (by
              have h1 := HSZ.out
              have h2 := itsF_take lc dc its k _ HIT.out
              rw [HFS.out] at h2
              rw [List.length_append, fieldsB_length]
              omega)
          have HTK : Hid (bs ++ fieldsB (itsF lc dc (its.take (k + 1))) = bs ++ fieldsB (itsF lc dc (its.take k)) ++ fieldsB [(lc1, lc2), (lv, lx), (dc1, dc2), (dv, dx)]) := by
            show _ = _
            rw [take_snoc HIT.out, itsF_snoc, HFS.out, fieldsB_append, List.append_assoc]
          have p0 := r1.cell (i := 0) rfl
          have p1 := r1.cell (i := 1) rfl
          have p2 := r1.cell (i := 2) rfl
          have q0 := r2.cell (i := 0) rfl
          have q1 := r2.cell (i := 1) rfl
          have q2 := r2.cell (i := 2) rfl
          have HKW : Hid (Kept T w w') := hkT
          clear HFS HFO HIS HLn HDs rS s1 s2 r1 r2 hB hkT hTS HIT
          go_wp2_with fail
          refine wp_region_M (fun wx : World => wx = w'.drew) (fun j => decide (0 < j ∧ j < 15)) 17 rfl (by kernel_rfl) ?_
          refine wpM_free 0 (v := ?_) rfl (by kernel_rfl) (by kernel_rfl) rfl (fun _ _ _ h => h) rfl (by intro wx; go_simp <;> rfl) ?_
          have HD : w'.drew = w'.drew := rfl
          refine wpM_held 1 (v := ?_) rfl (by kernel_rfl) (by kernel_rfl) rfl (fun _ _ _ h => h) rfl (by rintro wx rfl; go_simp <;> rfl) HD ?_
          refine wpM_held 2 (v := ?_) rfl (by kernel_rfl) (by kernel_rfl) rfl (fun _ _ _ h => h) rfl (by rintro wx rfl; go_simp <;> rfl) HD ?_
          refine wpM_held 3 (v := .int .i64 (ls : Int)) rfl (by kernel_rfl) (by kernel_rfl) rfl (fun _ _ _ h => h) rfl (by rintro wx rfl; go_simp <;> rfl) HD ?_
          refine wpM_held 4 (v := .pointer (some ⟨GL, ls * 2, none⟩)) rfl (by kernel_rfl) (by kernel_rfl) rfl (fun _ _ _ h => h) rfl (by rintro wx rfl; go_simp <;> rfl) HD ?_
          refine wpM_held 5 (v := .agg #[.int .u32 (lc1 : Int), .int .i64 (lc2 : Int)]) rfl (by kernel_rfl) (by kernel_rfl) rfl (fun _ _ _ h => h) rfl (by rintro wx rfl; go_simp <;> rfl) HD ?_
          refine wpM_held 6 (v := ?_) rfl (by kernel_rfl) (by kernel_rfl) rfl (fun _ _ _ h => h) rfl (by rintro wx rfl; go_simp <;> rfl) HD ?_
          refine wpM_held 7 (v := .agg #[.int .u32 (lv : Int), .int .i64 (lx : Int)]) rfl (by kernel_rfl) (by kernel_rfl) rfl (fun _ _ _ h => h) rfl (by rintro wx rfl; go_simp <;> rfl) HD ?_
          refine wpM_held 8 (v := ?_) rfl (by kernel_rfl) (by kernel_rfl) rfl (fun _ _ _ h => h) rfl (by rintro wx rfl; go_simp <;> rfl) HD ?_
          refine wpM_held 9 (v := ?_) rfl (by kernel_rfl) (by kernel_rfl) rfl (fun _ _ _ h => h) rfl (by rintro wx rfl; go_simp <;> rfl) HD ?_
          refine wpM_held 10 (v := .int .i64 (ds : Int)) rfl (by kernel_rfl) (by kernel_rfl) rfl (fun _ _ _ h => h) rfl (by rintro wx rfl; go_simp <;> rfl) HD ?_
          refine wpM_held 11 (v := .pointer (some ⟨GD, ds * 2, none⟩)) rfl (by kernel_rfl) (by kernel_rfl) rfl (fun _ _ _ h => h) rfl (by rintro wx rfl; go_simp <;> rfl) HD ?_
          refine wpM_held 12 (v := .agg #[.int .u32 (dc1 : Int), .int .i64 (dc2 : Int)]) rfl (by kernel_rfl) (by kernel_rfl) rfl (fun _ _ _ h => h) rfl (by rintro wx rfl; go_simp <;> rfl) HD ?_
          refine wpM_held 13 (v := ?_) rfl (by kernel_rfl) (by kernel_rfl) rfl (fun _ _ _ h => h) rfl (by rintro wx rfl; go_simp <;> rfl) HD ?_
          refine wpM_held 14 (v := .agg #[.int .u32 (dv : Int), .int .i64 (dx : Int)]) rfl (by kernel_rfl) (by kernel_rfl) rfl (fun _ _ _ h => h) rfl (by rintro wx rfl; go_simp <;> rfl) HD ?_
          clear HD
          refine wpM_one 15 rfl (by kernel_rfl) rfl ?_
          go_wp2_with fail
          refine ⟨(fun h => by simp at h), ?_⟩
          refine wpM_one 16 rfl (by kernel_rfl) rfl ?_
          go_wp2_with fail
          refine HPT.out.mono ?_
          clear HPT
          rintro e w9 ⟨rfl, hI9, hK9⟩
          go_wp2_with fail
          refine ⟨(fun h => by simp at h), ?_⟩
          refine wpM_done (by kernel_rfl) ?_
          go_wp2
          refine ⟨⟨k + 1, by omega, by go_num, ?_, HKW.out.drew.trans hK9⟩, by simp [intOf]; omega⟩
          rw [HTK.out]
          exact hI9
    · obtain rfl : k = its.length := by omega
      rw [List.take_length] at hI
      have h256 : 256 < lc.length := by omega
      obtain ⟨⟨lc1, lc2⟩, HEl⟩ : ∃ y, Hid (lc[256]?.getD (0, 0) = y) := ⟨lc[256]?.getD (0, 0), by show _ = _; rfl⟩
      obtain ⟨g0, g1⟩ := (HFL.out.kept hKp).at 256 h256
      rw [HEl.out] at g0 g1
      simp only [Nat.reduceMul, Nat.reduceAdd] at g0 g1
      have HFO : Hid (∀ f ∈ ([(lc1, lc2)] : List Fd), FdOk f) := by
        intro f hf
        simp only [List.mem_cons, List.not_mem_nil, or_false] at hf
        subst hf
        rw [← HEl.out]; exact getD_ok HLO.out h256
      have HPT : Hid (Calls Tryd.prog 71 #[.pointer (some ⟨R, 0, none⟩), .slice (some ⟨wr.heap.size, 0, none⟩) 1 1] (wr.alloc (.cells #[.int .u32 (lc1 : Int), .int .i64 (lc2 : Int)] 79)) _) :=
        putFresh T R (bs ++ fieldsB (itsF lc dc its)) [(lc1, lc2)] 1 1 rfl wr hI HFO.out (by simp) (fun q hq => Nat.lt_of_lt_of_le (hT q hq) hKp.size) hTR (by
          have h1 := HSZ.out
          have h2 : lc2 ≤ 32 := (HFO.out (lc1, lc2) (by simp)).2
          rw [List.length_append, fieldsB_length]
          simp only [widF, List.map_cons, List.map_nil, List.sum_cons, List.sum_nil] at h1 ⊢
          omega)
      have HTK : Hid (bs ++ fieldsB (itsF lc dc its ++ [lc[256]?.getD (0, 0)]) = bs ++ fieldsB (itsF lc dc its) ++ fieldsB [(lc1, lc2)]) := by
        show _ = _
        rw [HEl.out, fieldsB_append, List.append_assoc]
      have HKW : Hid (Kept T w wr) := hKp
      clear HFO hI hKp hIt hL hD hW
      go_wp2_with fail
      refine HPT.out.mono ?_
      clear HPT
      rintro e w9 ⟨rfl, hI9, hK9⟩
      go_wp2
      go_end0
      refine ⟨rfl, ?_, HKW.out.trans hK9⟩
      rw [HTK.out]
      exact hI9
end Go.Proofs.YtinbilbgipfemaaDoor
