import Derived.Test.YtiheajlgaehfmaaDoorPreM
import Derived.Test.YtiheajlgaehfmaaDoorNext
import Derived.Test.YtiheajlgaehfmaaDoorApp
import Derived.Test.YtiheajlgaehfmaaDoorAps
import Derived.Maps.AppendAt
/- The document's space, Right, Full; the program's Full. -/
namespace Go.Proofs.YtiheajlgaehfmaaDoor
open Go.RowKit

set_option maxRecDepth 100000 in
theorem spS_bd (zs : List Int) (k : Nat) : (spS zs k).1 ≤ k * 32768 ∧ (spS zs k).2 ≤ k := by
  induction k with
  | zero => exact ⟨Nat.le_refl _, Nat.le_refl _⟩
  | succ k ih =>
    rw [spS]
    have h1 : (2 : Nat) ^ (15 - (zs[k]?.getD 0).toNat) ≤ 32768 := Nat.le_trans (Nat.pow_le_pow_right (n := 2) (by omega) (show 15 - (zs[k]?.getD 0).toNat ≤ 15 by omega)) (by decide)
    generalize (2 : Nat) ^ (15 - (zs[k]?.getD 0).toNat) = P at h1
    split
    · simp only
      omega
    · omega

set_option maxRecDepth 100000 in
set_option maxHeartbeats 2000000 in
theorem space_any (S : Nat → Prop) (a : Option Addr) (cap : Nat) (zs : List Int) (w : World) (hI : IntsIn S w (.slice a zs.length cap) zs) (hl : zs.length ≤ 320) (hr : inRange zs) (s n : Nat) (HS : Hid (spS zs zs.length = (s, n))) :
    Calls Tryd.prog 77 #[.slice a zs.length cap] w fun e w' => e = .returned (.tuple #[.int .i64 (s : Int), .int .i64 (n : Int)]) ∧ w' = w := by
  go_enter Tryd.func77, Tryd.ntmps77
  go_wp2
  go_loop [4, 5, 6] (fun v4 v5 v6 => ∃ k : Nat, k ≤ zs.length ∧ v6 = .int .i64 k ∧ v4 = .int .i64 ((spS zs k).1 : Int) ∧ v5 = .int .i64 ((spS zs k).2 : Int)) (fun _ _ v6 => zs.length - (intOf v6).toNat)
  case atStart => exact ⟨0, Nat.zero_le _, rfl, rfl, rfl⟩
  case round =>
    obtain ⟨k, hk, rfl, rfl, rfl⟩ := hrel
    by_cases hlt : k < zs.length
    · obtain ⟨b, off, rfl, _, hc⟩ := hI.at k hlt
      have e : zs[k]?.getD 0 = zs[k] := by simp [hlt]
      have hb := hr _ (List.getElem_mem hlt)
      obtain ⟨m, hm⟩ := Int.eq_ofNat_of_zero_le hb.1
      have hm15 : m ≤ 15 := by omega
      rw [e, hm] at hc
      have hsp : spS zs (k + 1) = if 0 < m then ((spS zs k).1 + 2 ^ (15 - m), (spS zs k).2 + 1) else spS zs k := by
        rw [spS, e, hm, Int.toNat_natCast]
        by_cases h0 : 0 < m
        · rw [if_pos (by omega), if_pos h0]
        · rw [if_neg (by omega), if_neg h0]
      have HSP : Hid _ := hsp
      have hbd := spS_bd zs k
      have k1 : (k : Int) < zs.length := by omega
      clear hsp e hb hm hr hI
      generalize hst : spS zs k = st at hbd HSP ⊢
      obtain ⟨s1, n1⟩ := st
      simp only at hbd ⊢
      by_cases h0 : 0 < m
      · have h0z : (0 : Int) < m := by omega
        have hsub : (15 : Int) - m = ((15 - m : Nat) : Int) := by omega
        have hp : (2 : Nat) ^ (15 - m) ≤ 2 ^ 15 := Nat.pow_le_pow_right (by omega) (by omega)
        have hp0 : 0 < (2 : Nat) ^ (15 - m) := Nat.pow_pos (by omega)
        have hpz : (2 : Int) ^ (15 - m) = ((2 ^ (15 - m) : Nat) : Int) := by simp
        have HE : Hid (spS zs (k + 1) = (s1 + 2 ^ (15 - m), n1 + 1)) := by show _ = _; rw [show spS zs (k + 1) = _ from HSP.out, if_pos h0]
        clear HSP hst
        generalize (2 : Nat) ^ (15 - m) = P at hp hp0 hpz HE
        go_wp2
        exact ⟨⟨k + 1, by omega, by simp, by rw [HE.out]; simp, by rw [HE.out]; simp⟩, by simp [intOf]; omega⟩
      · have h0z : ¬ (0 : Int) < m := by omega
        have HE : Hid (spS zs (k + 1) = (s1, n1)) := by show _ = _; rw [show spS zs (k + 1) = _ from HSP.out, if_neg h0]
        clear HSP hst
        go_wp2
        exact ⟨⟨k + 1, by omega, by simp, by rw [HE.out], by rw [HE.out]⟩, by simp [intOf]; omega⟩
    · obtain rfl : k = zs.length := by omega
      have e := HS.out
      rw [e]
      clear hI hr e HS
      go_wp2
      exact bodyPost_ret (v := .tuple #[.int .i64 (s : Int), .int .i64 (n : Int)]) (by simp [results, Tryd.f77, go_sem]) rfl ⟨rfl, rfl⟩
set_option maxRecDepth 100000 in
set_option maxHeartbeats 2000000 in
theorem refRight_r (r : Int) (S : Nat → Prop) (a : Option Addr) (cap : Nat) (zs : List Int) (HR : Hid (r = errOf zs)) (w : World) (hI : IntsIn S w (.slice a zs.length cap) zs) :
    Calls Tryd.prog 76 #[.slice a zs.length cap] w fun e w' => e = .returned (.int .i64 r) ∧ w' = w := by
  by_cases hn : 320 < zs.length
  · have hnz : (320 : Int) < zs.length := by omega
    obtain rfl : r = 1 := by rw [show r = _ from HR.out, errOf, if_neg (fun h => by have := h.1; omega)]
    clear HR
    go_enter Tryd.func76, Tryd.ntmps76
    go_wp2
    go_ret
    exact ⟨rfl, rfl⟩
  have hnz : ¬ (320 : Int) < zs.length := by omega
  go_enter Tryd.func76, Tryd.ntmps76
  go_wp2
  go_loop [3] (fun v3 => ∃ k : Nat, k ≤ zs.length ∧ v3 = .int .i64 k ∧ inRange (zs.take k)) (fun v3 => zs.length - (intOf v3).toNat)
  case atStart => exact ⟨0, Nat.zero_le _, rfl, fun z hz => by simp at hz⟩
  case round =>
    obtain ⟨k, hk, rfl, hrg⟩ := hrel
    by_cases hlt : k < zs.length
    · obtain ⟨b, off, rfl, _, hc⟩ := hI.at k hlt
      have e : zs[k]?.getD 0 = zs[k] := by simp [hlt]
      rw [e] at hc
      have k1 : (k : Int) < zs.length := by omega
      have HM : Hid (zs[k] ∈ zs) := List.getElem_mem hlt
      have HT : Hid (zs.take (k + 1) = zs.take k ++ [zs[k]]) := List.take_succ_eq_append_getElem hlt
      clear e hI
      generalize zs[k] = z at hc HM HT
      by_cases hbad : z < 0 ∨ 15 < z
      · obtain rfl : r = 1 := by rw [show r = _ from HR.out, errOf, if_neg (fun h => by have := h.2 z HM.out; omega)]
        clear HR HM HT hrg
        rcases hbad with h | h
        · go_wp2
          go_ret
          exact ⟨rfl, rfl⟩
        · have h' : ¬ z < 0 := by omega
          go_wp2
          go_ret
          exact ⟨rfl, rfl⟩
      · have g1 : ¬ z < 0 := by omega
        have g2 : ¬ 15 < z := by omega
        have HRG : Hid (inRange (zs.take (k + 1))) := by
          intro y hy
          rw [HT.out] at hy
          rcases List.mem_append.1 hy with h | h
          · exact hrg y h
          · simp at h; omega
        clear HT HM hrg hbad
        go_wp2
        exact ⟨⟨k + 1, by omega, by simp, HRG.out⟩, by simp [intOf]; omega⟩
    · obtain rfl : k = zs.length := by omega
      rw [List.take_length] at hrg
      have hok : okLen zs := ⟨by omega, hrg⟩
      have hsp := spS_spec zs hrg zs.length (Nat.le_refl _)
      rw [List.take_length] at hsp
      have hspc := space_any S a cap zs w hI (by omega) hrg _ _ hsp
      have hrr : r = if rightB zs then 0 else 11 := by rw [show r = _ from HR.out, errOf, if_pos hok]
      rw [right_same] at hrr
      have HRR : Hid _ := hrr
      have HSPC : Hid _ := hspc
      clear hrr hspc hsp hrg hok HR hI hk hlt
      go_wp2_with fail
      refine Calls.mono HSPC.out ?_
      rintro e w' ⟨rfl, rfl⟩
      clear HSPC
      generalize room zs 15 = R at HRR
      generalize nsum zs 15 = N at HRR
      by_cases c1 : R = 32768
      · have t1 : ((R : Int) == 32768) = true := by simp; omega
        obtain rfl : r = 0 := by rw [show r = _ from HRR.out]; simp [c1]
        clear HRR c1
        go_wp2
        go_ret
        exact ⟨rfl, rfl⟩
      · have t1 : ((R : Int) == 32768) = false := by simp; omega
        by_cases c2 : N = 0
        · have t2 : ((N : Int) == 0) = true := by simp; omega
          obtain rfl : r = 0 := by rw [show r = _ from HRR.out]; simp [c2]
          clear HRR c2
          go_wp2
          go_ret
          exact ⟨rfl, rfl⟩
        · have t2 : ((N : Int) == 0) = false := by simp; omega
          by_cases c3 : N = 1
          · have t3 : ((N : Int) == 1) = true := by simp; omega
            by_cases c4 : R = 16384
            · have t4 : ((R : Int) == 16384) = true := by simp; omega
              obtain rfl : r = 0 := by rw [show r = _ from HRR.out]; simp [c3, c4]
              clear HRR c1 c2 c3 c4
              go_wp2
              go_ret
              exact ⟨rfl, rfl⟩
            · have t4 : ((R : Int) == 16384) = false := by simp; omega
              obtain rfl : r = 11 := by rw [show r = _ from HRR.out]; simp [c1, c2, c4]
              clear HRR c1 c2 c3 c4
              go_wp2
              go_ret
              exact ⟨rfl, rfl⟩
          · have t3 : ((N : Int) == 1) = false := by simp; omega
            obtain rfl : r = 11 := by rw [show r = _ from HRR.out]; simp [c1, c2, c3]
            clear HRR c1 c2 c3
            go_wp2
            go_ret
            exact ⟨rfl, rfl⟩
theorem refRight_any (S : Nat → Prop) (a : Option Addr) (cap : Nat) (zs : List Int) (w : World) (hI : IntsIn S w (.slice a zs.length cap) zs) :
    Calls Tryd.prog 76 #[.slice a zs.length cap] w fun e w' => e = .returned (.int .i64 (errOf zs)) ∧ w' = w := refRight_r _ S a cap zs rfl w hI
end Go.Proofs.YtiheajlgaehfmaaDoor
/- Full, the document's and the program's; the document's Codes. -/
namespace Go.Proofs.YtiheajlgaehfmaaDoor
open Go.RowKit

def fullB (zs : List Int) : Bool := decide (errOf zs = 0) && decide (room zs 15 = 32768)

set_option maxRecDepth 100000 in
set_option maxHeartbeats 2000000 in
theorem refFull_r (r : Bool) (S : Nat → Prop) (a : Option Addr) (cap : Nat) (zs : List Int) (HR : Hid (r = fullB zs)) (w : World) (hI : IntsIn S w (.slice a zs.length cap) zs) :
    Calls Tryd.prog 64 #[.slice a zs.length cap] w fun e w' => e = .returned (.bool r) ∧ w' = w := by
  have HRT : Hid _ := refRight_any S a cap zs w hI
  by_cases h0 : errOf zs = 0
  · have hok := (errOf_zero h0).1
    have hsp := spS_spec zs hok.2 zs.length (Nat.le_refl _)
    rw [List.take_length] at hsp
    have HSPC : Hid _ := space_any S a cap zs w hI hok.1 hok.2 _ _ hsp
    have HRR : Hid (r = decide (room zs 15 = 32768)) := by show _ = _; rw [show r = _ from HR.out, fullB, h0]; simp
    rw [h0] at HRT
    clear hsp hok HR h0 hI
    go_enter Tryd.func64, Tryd.ntmps64
    go_wp2_with fail
    refine Calls.mono HRT.out ?_
    rintro e w' ⟨rfl, rfl⟩
    go_wp2_with fail
    refine Calls.mono HSPC.out ?_
    rintro e w' ⟨rfl, rfl⟩
    clear HSPC HRT
    generalize room zs 15 = R at HRR
    have HQ : Hid (((R : Int) == 32768) = r) := by
      show _ = _
      rw [HRR.out, Bool.eq_iff_iff]
      simp
      omega
    go_wp2
    go_ret
    exact ⟨congrArg (fun b => Ending.returned (.bool b)) HQ.out, rfl⟩
  · obtain rfl : r = false := by rw [show r = _ from HR.out, fullB]; simp [h0]
    have ht : (errOf zs != 0) = true := by simpa using h0
    clear hI HR h0
    generalize errOf zs = q at HRT ht
    go_enter Tryd.func64, Tryd.ntmps64
    go_wp2_with fail
    refine Calls.mono HRT.out ?_
    rintro e w' ⟨rfl, rfl⟩
    go_wp2
    go_ret
    exact ⟨rfl, rfl⟩
theorem refFull_any (S : Nat → Prop) (a : Option Addr) (cap : Nat) (zs : List Int) (w : World) (hI : IntsIn S w (.slice a zs.length cap) zs) :
    Calls Tryd.prog 64 #[.slice a zs.length cap] w fun e w' => e = .returned (.bool (fullB zs)) ∧ w' = w := refFull_r _ S a cap zs rfl w hI

set_option maxRecDepth 100000 in
set_option maxHeartbeats 2000000 in
theorem full10_r (r : Bool) (S : Nat → Prop) (a : Option Addr) (cap : Nat) (zs : List Int) (HR : Hid (r = fullB zs)) (w : World) (hS : ∀ k, S k → k < w.heap.size) (hI : IntsIn S w (.slice a zs.length cap) zs) :
    Calls Tryd.prog 74 #[.slice a zs.length cap] w fun e w' => e = .returned (.bool r) ∧ Below w.heap.size w w' := by
  have hz := (zero_of_info Tryd.info53).1
  have HC : Hid _ := check_any S a cap zs w hS hI
  by_cases h0 : errOf zs = 0
  · have hok := (errOf_zero h0).1.1
    have HRR : Hid (decide (room zs 15 = 32768) = r) := by show _ = _; rw [show r = _ from HR.out, fullB, h0]; simp
    rw [show tabOf zs = tab zs by rw [tabOf, if_pos h0], h0] at HC
    clear HR h0 hI
    go_enter Tryd.func74, Tryd.ntmps74
    go_wp2_with fail
    refine Calls.mono HC.out ?_
    rintro e w1 ⟨rfl, hB⟩
    have R1 := Row.new w1 108 (tab [])
    have hs1 := store53 zs R1 (tab_size _)
    have hlt := hB.size
    have hB' : Below w.heap.size w ((w1.alloc (.cells (tab []) 108)).setRow w1.heap.size (tab zs)) := below_setRow (hB.alloc hlt _) hlt _
    have R1' := R1.setRow (tab zs)
    obtain ⟨w2, HW⟩ : ∃ w2, w2 = (w1.alloc (.cells (tab []) 108)).setRow w1.heap.size (tab zs) := ⟨_, rfl⟩
    rw [← HW] at hs1 hB' R1'
    obtain ⟨c0, c1, c2, c3, c4, c5, c6, c7, c8, c9, c10, c11, c12, c13, c14⟩ := R1'.tab
    have hfold := tab_fold zs
    clear HW R1 R1' hB HC
    go_wp2_with fail
    refine (full_any zs hok w2).mono ?_
    rintro e w3 ⟨rfl, hw3⟩
    have hB3 : Below w.heap.size w w3 := by rw [hw3]; exact hB'.alloc hB'.size _
    clear hw3 hB' c0 c1 c2 c3 c4 c5 c6 c7 c8 c9 c10 c11 c12 c13 c14
    rw [HRR.out]
    go_wp2
    go_ret
    exact ⟨rfl, hB3⟩
  · obtain rfl : r = false := by rw [show r = _ from HR.out, fullB]; simp [h0]
    have ht : (errOf zs == 0) = false := by simpa using h0
    rw [show tabOf zs = tab [] by rw [tabOf, if_neg h0]] at HC
    clear hI HR h0
    generalize errOf zs = q at HC ht
    go_enter Tryd.func74, Tryd.ntmps74
    go_wp2_with fail
    refine Calls.mono HC.out ?_
    rintro e w1 ⟨rfl, hB⟩
    have R1 := Row.new w1 108 (tab [])
    have hs1 := store53 [] R1 (tab_size _)
    have hlt := hB.size
    have HB' : Hid (Below w.heap.size w ((w1.alloc (.cells (tab []) 108)).setRow w1.heap.size (tab []))) := below_setRow (hB.alloc hlt _) hlt _
    clear R1 hB HC
    go_wp2
    go_ret
    exact ⟨rfl, HB'.out⟩
theorem full10_any (S : Nat → Prop) (a : Option Addr) (cap : Nat) (zs : List Int) (w : World) (hS : ∀ k, S k → k < w.heap.size) (hI : IntsIn S w (.slice a zs.length cap) zs) :
    Calls Tryd.prog 74 #[.slice a zs.length cap] w fun e w' => e = .returned (.bool (fullB zs)) ∧ Below w.heap.size w w' := full10_r _ S a cap zs rfl w hS hI
end Go.Proofs.YtiheajlgaehfmaaDoor
/- What a DEFLATE stream tells, as plain recursions over the place of the next bit and the bytes that have come. -/
namespace Go.Proofs.YtiheajlgaehfmaaDoor
open Go.RowKit

def takeS (bs : List Int) (pos n : Nat) : Except Int (Nat × Nat) := if pos + n ≤ 8 * bs.length then .ok (orFold (upto (bitF bs pos) n), pos + n) else .error 10
def bytesS (bs : List Int) (pos n : Nat) : Except Int (List Int × Nat) := if (pos + 7) / 8 + n ≤ bs.length then .ok ((bs.drop ((pos + 7) / 8)).take n, (pos + 7) / 8 * 8 + 8 * n) else .error 10
def nextS (zs bs : List Int) (pos : Nat) : Except Int (Nat × Nat) := if (nextOf zs bs pos).2.1 = 0 then .ok ((nextOf zs bs pos).1, pos + (nextOf zs bs pos).2.2) else .error (nextOf zs bs pos).2.1

/-! ### the tables -/
def litBits (s : Nat) : Nat := if s < 265 then 0 else (s - 261) / 4
def litBase : Nat → Nat
  | 0 => 3
  | k + 1 => litBase k + 2 ^ litBits (257 + k)
/-- A length's symbol: its base, its extra bits. -/
def litS (sym : Int) : Option (Nat × Nat) := if sym < 257 ∨ 285 < sym then none else if sym = 285 then some (258, 0) else some (litBase (sym.toNat - 257), litBits sym.toNat)
def distBits (s : Nat) : Nat := if s < 4 then 0 else s / 2 - 1
def distBase : Nat → Nat
  | 0 => 1
  | k + 1 => distBase k + 2 ^ distBits k
def distS (sym : Int) : Option (Nat × Nat) := if sym < 0 ∨ 29 < sym then none else some (distBase sym.toNat, distBits sym.toNat)
def fixLitAt (i : Nat) : Int := if 256 ≤ i ∧ i < 280 then 7 else if 144 ≤ i ∧ i < 256 then 9 else 8
def fixLit : List Int := upto fixLitAt 288
def fixDist : List Int := upto (fun _ => (5 : Int)) 32

/-! ### blocks -/
/-- Bytes are copied from so far behind. -/
def copyS (far : Nat) : Nat → List Int → List Int
  | 0, out => out
  | n + 1, out => copyS far n (out ++ [out[out.length - far]?.getD 0])
def storedS (bs : List Int) (most pos : Nat) (out : List Int) : Except Int (Nat × List Int) := do
  let (b, pos) ← bytesS bs pos 4
  let n := (b[0]?.getD 0).toNat ||| (b[1]?.getD 0).toNat * 256
  let m := (b[2]?.getD 0).toNat ||| (b[3]?.getD 0).toNat * 256
  if n + m ≠ 65535 ∨ n &&& m ≠ 0 then .error 12
  else if most < out.length + n then .error 3
  else
    let (b, pos) ← bytesS bs pos n
    .ok (pos, out ++ b)
/-- A copy: the literals' symbol was read. -/
def copiedS (dz bs : List Int) (most : Nat) (sym pos : Nat) (out : List Int) : Except Int (Nat × List Int) :=
  match litS sym with
  | none => .error 12
  | some (base, extra) => do
    let (x, pos) ← takeS bs pos extra
    let (d, pos) ← nextS dz bs pos
    match distS d with
    | none => .error 12
    | some (dbase, dextra) => do
      let (y, pos) ← takeS bs pos dextra
      if out.length < dbase + y then .error 12
      else if most < out.length + (base + x) then .error 3
      else .ok (pos, copyS (dbase + y) (base + x) out)
/-- A block's symbols: one step. none: the block's end. -/
def symStep (lz dz bs : List Int) (most pos : Nat) (out : List Int) : Except Int (Option Unit × Nat × List Int) := do
  let (x, pos) ← nextS lz bs pos
  if x = 256 then .ok (none, pos, out)
  else if x < 256 then (if out.length < most then .ok (some (), pos, out ++ [(x : Int)]) else .error 3)
  else do
    let (pos, out) ← copiedS dz bs most x pos out
    .ok (some (), pos, out)
def symsS (lz dz bs : List Int) (most : Nat) : Nat → Nat → List Int → Except Int (Nat × List Int)
  | 0, _, _ => .error 99
  | f + 1, pos, out =>
    match symStep lz dz bs most pos out with
    | .error e => .error e
    | .ok (none, pos, out) => .ok (pos, out)
    | .ok (some _, pos, out) => symsS lz dz bs most f pos out
/-- A row of lengths by code lengths: one step. -/
def rowStep (cz bs : List Int) (many pos : Nat) (l : List Int) : Except Int (Nat × List Int) := do
  let (x, pos) ← nextS cz bs pos
  if x < 16 then .ok (pos, l ++ [(x : Int)])
  else if x = 16 ∧ l.length = 0 then .error 12
  else
    let v := if x = 16 then l[l.length - 1]?.getD 0 else 0
    let (k, pos) ← takeS bs pos (if x = 18 then 7 else if x = 17 then 3 else 2)
    let n := (if x = 18 then 11 else 3) + k
    if many < l.length + n then .error 12 else .ok (pos, l ++ List.replicate n v)
def rowS (cz bs : List Int) (many : Nat) : Nat → Nat → List Int → Except Int (Nat × List Int)
  | 0, _, _ => .error 99
  | f + 1, pos, l => if l.length < many then (match rowStep cz bs many pos l with | .error e => .error e | .ok (pos, l) => rowS cz bs many f pos l) else .ok (pos, l)
def orderL : List Nat := [16, 17, 18, 0, 8, 7, 9, 6, 10, 5, 11, 4, 12, 3, 13, 2, 14, 1, 15]
/-- The code lengths' lengths, k of them from place i on. -/
def clS (bs : List Int) : Nat → Nat → Nat → List Int → Except Int (Nat × List Int)
  | 0, _, pos, l => .ok (pos, l)
  | k + 1, i, pos, l => match takeS bs pos 3 with | .error e => .error e | .ok (x, pos) => clS bs k (i + 1) pos (l.set (orderL[i]?.getD 0) (x : Int))
def dynS (bs : List Int) (most pos : Nat) (out : List Int) : Except Int (Nat × List Int) := do
  let (a, pos) ← takeS bs pos 5
  let (b, pos) ← takeS bs pos 5
  let (c, pos) ← takeS bs pos 4
  if 286 < 257 + a ∨ 30 < 1 + b then .error 12
  else do
    let (pos, cl) ← clS bs (4 + c) 0 pos (List.replicate 19 0)
    if fullB cl = false then .error 11
    else do
      let (pos, row) ← rowS cl bs (257 + a + (1 + b)) (8 * bs.length + 1) pos []
      if row[256]?.getD 0 = 0 then .error 12
      else if errOf (row.take (257 + a)) ≠ 0 then .error (errOf (row.take (257 + a)))
      else if errOf (row.drop (257 + a)) ≠ 0 then .error (errOf (row.drop (257 + a)))
      else symsS (row.take (257 + a)) (row.drop (257 + a)) bs most (8 * bs.length + 1) pos out
def blockS (bs : List Int) (most kind pos : Nat) (out : List Int) : Except Int (Nat × List Int) :=
  if kind = 0 then storedS bs most pos out
  else if kind = 1 then symsS fixLit fixDist bs most (8 * bs.length + 1) pos out
  else if kind = 2 then dynS bs most pos out
  else .error 12
/-- One block, its head too; true: the last. -/
def headS (bs : List Int) (most pos : Nat) (out : List Int) : Except Int (Bool × Nat × List Int) := do
  let (h, pos) ← takeS bs pos 1
  let (kind, pos) ← takeS bs pos 2
  let (pos, out) ← blockS bs most kind pos out
  .ok (decide (h = 1), pos, out)
def inflS (bs : List Int) (most : Nat) : Nat → Nat → List Int → Except Int (Nat × List Int)
  | 0, _, _ => .error 99
  | f + 1, pos, out =>
    match headS bs most pos out with
    | .error e => .error e
    | .ok (true, pos, out) => .ok (pos, out)
    | .ok (false, pos, out) => inflS bs most f pos out
/-- The whole: any error, or the bytes and how many were taken. -/
def inflateS (bs : List Int) (most : Int) : Except Int (List Int × Nat) :=
  if most < 0 then .error 1
  else match inflS bs most.toNat (8 * bs.length + 1) 0 [] with
    | .error e => .error e
    | .ok (pos, out) => .ok (out, (pos + 7) / 8)
end Go.Proofs.YtiheajlgaehfmaaDoor
/- The document's tables: Lit, Dist, FixedLit, FixedDist. -/
namespace Go.Proofs.YtiheajlgaehfmaaDoor
open Go.RowKit

def tabRes : Option (Nat × Nat) → Value
  | none => .tuple #[.int .i64 0, .int .i64 0, .bool false]
  | some (b, x) => .tuple #[.int .i64 (b : Int), .int .i64 (x : Int), .bool true]

theorem litBits_le (s : Nat) (h : s ≤ 284) : litBits s ≤ 5 := by
  unfold litBits
  split <;> omega
theorem litBase_le (k : Nat) (h : k ≤ 28) : litBase k ≤ 3 + 32 * k := by
  induction k with
  | zero => simp [litBase]
  | succ k ih =>
    have := litBits_le (257 + k) (by omega)
    have h2 : 2 ^ litBits (257 + k) ≤ 2 ^ 5 := Nat.pow_le_pow_right (by omega) this
    rw [litBase]
    have := ih (by omega)
    omega
theorem distBits_le (s : Nat) (h : s ≤ 29) : distBits s ≤ 13 := by
  unfold distBits
  split <;> omega
theorem distBase_le (k : Nat) (h : k ≤ 29) : distBase k ≤ 1 + 8192 * k := by
  induction k with
  | zero => simp [distBase]
  | succ k ih =>
    have := distBits_le k (by omega)
    have h2 : 2 ^ distBits k ≤ 2 ^ 13 := Nat.pow_le_pow_right (by omega) this
    rw [distBase]
    have := ih (by omega)
    omega

set_option maxHeartbeats 400000 in
theorem litBits_any (s : Nat) (h1 : 257 ≤ s) (h2 : s ≤ 285) (w : World) : Calls Tryd.prog 26 #[.int .i64 (s : Int)] w fun e w' => e = .returned (.int .i64 (litBits s : Int)) ∧ w' = w := by
  by_cases h : s < 265
  · have HE : Hid (litBits s = 0) := by show _ = _; rw [litBits, if_pos h]
    have t : (s : Int) < 265 := by omega
    go_enter Tryd.func26, Tryd.ntmps26
    go_wp2
    go_ret
    exact ⟨by rw [HE.out]; rfl, rfl⟩
  · have HE : Hid (litBits s = (s - 261) / 4) := by show _ = _; rw [litBits, if_neg h]
    have t : ¬ (s : Int) < 265 := by omega
    go_enter Tryd.func26, Tryd.ntmps26
    go_wp2
    go_ret
    refine ⟨?_, rfl⟩
    rw [HE.out, show (((s - 261) / 4 : Nat) : Int) = ((s : Int) - 261) / 4 by omega]
    rfl
set_option maxHeartbeats 400000 in
theorem distBits_any (s : Nat) (h2 : s ≤ 29) (w : World) : Calls Tryd.prog 27 #[.int .i64 (s : Int)] w fun e w' => e = .returned (.int .i64 (distBits s : Int)) ∧ w' = w := by
  by_cases h : s < 4
  · have HE : Hid (distBits s = 0) := by show _ = _; rw [distBits, if_pos h]
    have t : (s : Int) < 4 := by omega
    go_enter Tryd.func27, Tryd.ntmps27
    go_wp2
    go_ret
    exact ⟨by rw [HE.out]; rfl, rfl⟩
  · have HE : Hid (distBits s = s / 2 - 1) := by show _ = _; rw [distBits, if_neg h]
    have t : ¬ (s : Int) < 4 := by omega
    go_enter Tryd.func27, Tryd.ntmps27
    go_wp2
    go_ret
    refine ⟨?_, rfl⟩
    rw [HE.out, show ((s / 2 - 1 : Nat) : Int) = (s : Int) / 2 - 1 by omega]
    rfl

set_option maxRecDepth 100000 in
set_option maxHeartbeats 1000000 in
theorem lit_r (r : Value) (sym : Int) (HR : Hid (tabRes (litS sym) = r)) (w : World) : Calls Tryd.prog 12 #[.int .i64 sym] w fun e w' => e = .returned r ∧ w' = w := by
  by_cases h : sym < 257 ∨ 285 < sym
  · have ER : Hid (r = .tuple #[.int .i64 0, .int .i64 0, .bool false]) := by
      show _ = _
      rw [← HR.out, litS, if_pos h]
      rfl
    rcases h with h | h
    · go_enter Tryd.func12, Tryd.ntmps12
      go_wp2
      exact bodyPost_ret (v := r) (by rw [ER.out]; simp [results, Tryd.f12, go_sem]) rfl ⟨rfl, rfl⟩
    · have t1 : ¬ sym < 257 := by omega
      go_enter Tryd.func12, Tryd.ntmps12
      go_wp2
      exact bodyPost_ret (v := r) (by rw [ER.out]; simp [results, Tryd.f12, go_sem]) rfl ⟨rfl, rfl⟩
  · have t1 : ¬ sym < 257 := by omega
    have t2 : ¬ 285 < sym := by omega
    obtain ⟨s, rfl⟩ := Int.eq_ofNat_of_zero_le (show 0 ≤ sym by omega)
    by_cases h5 : (s : Int) = 285
    · have ER : Hid (r = .tuple #[.int .i64 258, .int .i64 0, .bool true]) := by
        show _ = _
        rw [← HR.out, litS, if_neg h, if_pos h5]
        rfl
      have t3 : ((s : Int) == 285) = true := by simpa using h5
      clear h5
      go_enter Tryd.func12, Tryd.ntmps12
      go_wp2
      exact bodyPost_ret (v := r) (by rw [ER.out]; simp [results, Tryd.f12, go_sem]) rfl ⟨rfl, rfl⟩
    · have ER : Hid (r = .tuple #[.int .i64 (litBase (s - 257) : Int), .int .i64 (litBits s : Int), .bool true]) := by
        show _ = _
        rw [← HR.out, litS, if_neg h, if_neg h5]
        rfl
      have t3 : ((s : Int) == 285) = false := by simpa using h5
      have hs : s ≤ 284 := by omega
      have hs1 : 257 ≤ s := by omega
      go_enter Tryd.func12, Tryd.ntmps12
      go_wp2
      go_loop [5, 6] (fun v5 v6 => ∃ k : Nat, k ≤ s - 257 ∧ v6 = .int .i64 ((257 + k : Nat) : Int) ∧ v5 = .int .i64 (litBase k : Int)) (fun _ v6 => s - (intOf v6).toNat)
      case atStart => exact ⟨0, by omega, rfl, rfl⟩
      case round =>
        obtain ⟨k, hk, rfl, rfl⟩ := hrel
        by_cases hlt : k < s - 257
        · have t4 : (((257 + k : Nat) : Int)) < (s : Int) := by omega
          have hcall := litBits_any (257 + k) (by omega) (by omega) w
          have hb := litBits_le (257 + k) (by omega)
          have hbs := litBase_le k (by omega)
          have HN : Hid (litBase (k + 1) = litBase k + 2 ^ litBits (257 + k)) := rfl
          have HP : Hid (2 ^ litBits (257 + k) ≤ 2 ^ 5) := Nat.pow_le_pow_right (by omega) hb
          generalize litBits (257 + k) = q at hcall hb HN HP
          generalize litBase k = bk at hbs HN
          have hp : (2 : Int) ^ q ≤ 32 := by
            have := HP.out
            exact_mod_cast this
          have hp0 : 0 ≤ (2 : Int) ^ q := Int.pow_nonneg (by omega)
          have HV : Hid (((litBase (k + 1) : Nat) : Int) = (bk : Int) + 2 ^ q) := by
            show _ = _
            rw [HN.out]
            push_cast
            rfl
          have HC : Hid _ := hcall
          clear hcall HN HP
          go_wp2_with (go_at_call 26; refine Calls.mono HC.out ?_; rintro e w' ⟨rfl, rfl⟩)
          refine ⟨⟨k + 1, by omega, ?_, ?_⟩, ?_⟩
          · congr 1
          · rw [HV.out]
          · simp [intOf]; omega
        · obtain rfl : k = s - 257 := by omega
          have t4 : ¬ (((257 + (s - 257) : Nat) : Int)) < (s : Int) := by omega
          have HC : Hid _ := litBits_any s (by omega) (by omega) w
          go_wp2_with (go_at_call 26; refine Calls.mono HC.out ?_; rintro e w' ⟨rfl, rfl⟩)
          exact bodyPost_ret (v := r) (by rw [ER.out]; simp [results, Tryd.f12, go_sem]) rfl ⟨rfl, rfl⟩

set_option maxRecDepth 100000 in
set_option maxHeartbeats 1000000 in
theorem dist_r (r : Value) (sym : Int) (HR : Hid (tabRes (distS sym) = r)) (w : World) : Calls Tryd.prog 14 #[.int .i64 sym] w fun e w' => e = .returned r ∧ w' = w := by
  by_cases h : sym < 0 ∨ 29 < sym
  · have ER : Hid (r = .tuple #[.int .i64 0, .int .i64 0, .bool false]) := by
      show _ = _
      rw [← HR.out, distS, if_pos h]
      rfl
    rcases h with h | h
    · go_enter Tryd.func14, Tryd.ntmps14
      go_wp2
      exact bodyPost_ret (v := r) (by rw [ER.out]; simp [results, Tryd.f14, go_sem]) rfl ⟨rfl, rfl⟩
    · have t1 : ¬ sym < 0 := by omega
      go_enter Tryd.func14, Tryd.ntmps14
      go_wp2
      exact bodyPost_ret (v := r) (by rw [ER.out]; simp [results, Tryd.f14, go_sem]) rfl ⟨rfl, rfl⟩
  · have t1 : ¬ sym < 0 := by omega
    have t2 : ¬ 29 < sym := by omega
    obtain ⟨s, rfl⟩ := Int.eq_ofNat_of_zero_le (show 0 ≤ sym by omega)
    have ER : Hid (r = .tuple #[.int .i64 (distBase s : Int), .int .i64 (distBits s : Int), .bool true]) := by
      show _ = _
      rw [← HR.out, distS, if_neg h]
      rfl
    have hs : s ≤ 29 := by omega
    go_enter Tryd.func14, Tryd.ntmps14
    go_wp2
    go_loop [5, 6] (fun v5 v6 => ∃ k : Nat, k ≤ s ∧ v6 = .int .i64 (k : Int) ∧ v5 = .int .i64 (distBase k : Int)) (fun _ v6 => s - (intOf v6).toNat)
    case atStart => exact ⟨0, by omega, rfl, rfl⟩
    case round =>
      obtain ⟨k, hk, rfl, rfl⟩ := hrel
      by_cases hlt : k < s
      · have hcall := distBits_any k (by omega) w
        have hb := distBits_le k (by omega)
        have hbs := distBase_le k (by omega)
        have HN : Hid (distBase (k + 1) = distBase k + 2 ^ distBits k) := rfl
        have HP : Hid (2 ^ distBits k ≤ 2 ^ 13) := Nat.pow_le_pow_right (by omega) hb
        generalize distBits k = q at hcall hb HN HP
        generalize distBase k = bk at hbs HN
        have hp : (2 : Int) ^ q ≤ 8192 := by
          have := HP.out
          exact_mod_cast this
        have hp0 : 0 ≤ (2 : Int) ^ q := Int.pow_nonneg (by omega)
        have HV : Hid (((distBase (k + 1) : Nat) : Int) = (bk : Int) + 2 ^ q) := by
          show _ = _
          rw [HN.out]
          push_cast
          rfl
        have HC : Hid _ := hcall
        clear hcall HN HP
        go_wp2_with (go_at_call 27; refine Calls.mono HC.out ?_; rintro e w' ⟨rfl, rfl⟩)
        refine ⟨⟨k + 1, by omega, ?_, ?_⟩, ?_⟩
        · congr 1
        · rw [HV.out]
        · simp [intOf]; omega
      · obtain rfl : k = s := by omega
        have HC : Hid _ := distBits_any k (by omega) w
        go_wp2_with (go_at_call 27; refine Calls.mono HC.out ?_; rintro e w' ⟨rfl, rfl⟩)
        exact bodyPost_ret (v := r) (by rw [ER.out]; simp [results, Tryd.f14, go_sem]) rfl ⟨rfl, rfl⟩

theorem upto_fix (k : Nat) : upto fixLitAt (k + 1) = upto fixLitAt k ++ [fixLitAt k] := upto_succ _ _
set_option maxRecDepth 100000 in
set_option maxHeartbeats 2000000 in
theorem fixedLit_any (w : World) : Calls Tryd.prog 17 #[] w fun e w' => ∃ g c, e = .returned (.slice g 288 c) ∧ w'.ownsRow w.heap.size 3 1 (.slice g 288 c) 288 (fixLit.map (Value.int .i64)) ∧ Below w.heap.size w w' := by
  obtain ⟨i0, hi0, hz0, hz1, hz2⟩ := info_parts Tryd.info3
  go_enter Tryd.func17, Tryd.ntmps17
  go_wp2_with fail
  go_loopw [1, 2] (fun v1 v2 wr => ∃ k : Nat, k ≤ 288 ∧ v2 = .int .i64 (k : Int) ∧ wr.ownsRow w.heap.size 3 1 v1 k ((upto fixLitAt k).map (Value.int .i64)) ∧ Below w.heap.size w wr) (fun _ v2 _ => 288 - (intOf v2).toNat)
  case atStart => exact ⟨0, by omega, rfl, World.ownsRow_nil _ _ _ _, Below.refl _ _⟩
  case round =>
    obtain ⟨k, hk, rfl, hO, hB⟩ := hrel
    by_cases hlt : k < 288
    · obtain ⟨gu, cu, rfl⟩ := owns_form hO
      have hsz := hB.size
      have HF : Hid (∀ (o : Obj) (v' : Value) (w3 : World), w3.ownsRow w.heap.size 3 1 v' (k + 1) ((upto fixLitAt k).map (Value.int .i64) ++ [.int .i64 (fixLitAt k)]) → (wr.alloc o).grownBy w3 (Value.slice gu k cu).ownBlock →
          w3.ownsRow w.heap.size 3 1 v' (k + 1) ((upto fixLitAt (k + 1)).map (Value.int .i64)) ∧ Below w.heap.size w w3) := by
        intro o v' w3 h1 h2
        refine ⟨by rw [upto_fix]; simpa using h1, (hB.alloc hsz o).grown h2 (by rw [World.size_alloc]; omega) (fun r e => (hO.lt r e).1)⟩
      have hfa : fixLitAt k = if 256 ≤ k ∧ k < 280 then 7 else if 144 ≤ k ∧ k < 256 then 9 else 8 := rfl
      by_cases a1 : k < 144
      · have e : fixLitAt k = 8 := by rw [hfa, if_neg (by omega), if_neg (by omega)]
        rw [e] at HF
        have t1 : ¬ (144 : Int) ≤ k := by omega
        have t2 : ¬ (256 : Int) ≤ k := by omega
        clear hfa e
        go_wp2_with (at_builtin; refine wpList_append_own2 _ rfl (.tmp 20) (.tmp 22) 32 rfl w.heap.size 3 i0 (.int .i64 0) 1 8 Tryd.underlying32 hi0 hz0 hz1 hz2 rfl (by decide) _ _ _ rfl (hO.alloc _) ⟨wr.heap.size, 0, none⟩ 1 1 [.int .i64 8] rfl rfl (cell_one_new _ _ _) (by simp [Value.oneCell']) (by unfold maxLen; omega) (by omega) (by simp; omega) ?_)
        intro v' w3 hown' hgrow _
        have HG : Hid _ := HF.out _ v' w3 hown' hgrow
        go_wp2
        exact ⟨⟨k + 1, by omega, by simp, HG.out.1, HG.out.2⟩, by simp [intOf]; omega⟩
      · by_cases a2 : k < 256
        · have e : fixLitAt k = 9 := by rw [hfa, if_neg (by omega), if_pos (by omega)]
          rw [e] at HF
          have t1 : (144 : Int) ≤ k := by omega
          have t2 : ¬ (256 : Int) ≤ k := by omega
          have t3 : (k : Int) < 256 := by omega
          clear hfa e
          go_wp2_with (at_builtin; refine wpList_append_own2 _ rfl (.tmp 20) (.tmp 22) 32 rfl w.heap.size 3 i0 (.int .i64 0) 1 8 Tryd.underlying32 hi0 hz0 hz1 hz2 rfl (by decide) _ _ _ rfl (hO.alloc _) ⟨wr.heap.size, 0, none⟩ 1 1 [.int .i64 9] rfl rfl (cell_one_new _ _ _) (by simp [Value.oneCell']) (by unfold maxLen; omega) (by omega) (by simp; omega) ?_)
          intro v' w3 hown' hgrow _
          have HG : Hid _ := HF.out _ v' w3 hown' hgrow
          go_wp2
          exact ⟨⟨k + 1, by omega, by simp, HG.out.1, HG.out.2⟩, by simp [intOf]; omega⟩
        · by_cases a3 : k < 280
          · have e : fixLitAt k = 7 := by rw [hfa, if_pos (by omega)]
            rw [e] at HF
            have t1 : (144 : Int) ≤ k := by omega
            have t2 : (256 : Int) ≤ k := by omega
            have t3 : ¬ (k : Int) < 256 := by omega
            have t4 : (k : Int) < 280 := by omega
            clear hfa e
            go_wp2_with (at_builtin; refine wpList_append_own2 _ rfl (.tmp 20) (.tmp 22) 32 rfl w.heap.size 3 i0 (.int .i64 0) 1 8 Tryd.underlying32 hi0 hz0 hz1 hz2 rfl (by decide) _ _ _ rfl (hO.alloc _) ⟨wr.heap.size, 0, none⟩ 1 1 [.int .i64 7] rfl rfl (cell_one_new _ _ _) (by simp [Value.oneCell']) (by unfold maxLen; omega) (by omega) (by simp; omega) ?_)
            intro v' w3 hown' hgrow _
            have HG : Hid _ := HF.out _ v' w3 hown' hgrow
            go_wp2
            exact ⟨⟨k + 1, by omega, by simp, HG.out.1, HG.out.2⟩, by simp [intOf]; omega⟩
          · have e : fixLitAt k = 8 := by rw [hfa, if_neg (by omega), if_neg (by omega)]
            rw [e] at HF
            have t1 : (144 : Int) ≤ k := by omega
            have t2 : (256 : Int) ≤ k := by omega
            have t3 : ¬ (k : Int) < 256 := by omega
            have t4 : ¬ (k : Int) < 280 := by omega
            clear hfa e
            go_wp2_with (at_builtin; refine wpList_append_own2 _ rfl (.tmp 20) (.tmp 22) 32 rfl w.heap.size 3 i0 (.int .i64 0) 1 8 Tryd.underlying32 hi0 hz0 hz1 hz2 rfl (by decide) _ _ _ rfl (hO.alloc _) ⟨wr.heap.size, 0, none⟩ 1 1 [.int .i64 8] rfl rfl (cell_one_new _ _ _) (by simp [Value.oneCell']) (by unfold maxLen; omega) (by omega) (by simp; omega) ?_)
            intro v' w3 hown' hgrow _
            have HG : Hid _ := HF.out _ v' w3 hown' hgrow
            go_wp2
            exact ⟨⟨k + 1, by omega, by simp, HG.out.1, HG.out.2⟩, by simp [intOf]; omega⟩
    · obtain rfl : k = 288 := by omega
      obtain ⟨gu, cu, rfl⟩ := owns_form hO
      go_wp2
      go_ret
      exact ⟨gu, cu, rfl, hO, hB⟩
set_option maxRecDepth 100000 in
set_option maxHeartbeats 2000000 in
theorem fixedDist_any (w : World) : Calls Tryd.prog 19 #[] w fun e w' => ∃ g c, e = .returned (.slice g 32 c) ∧ w'.ownsRow w.heap.size 3 1 (.slice g 32 c) 32 (fixDist.map (Value.int .i64)) ∧ Below w.heap.size w w' := by
  obtain ⟨i0, hi0, hz0, hz1, hz2⟩ := info_parts Tryd.info3
  go_enter Tryd.func19, Tryd.ntmps19
  go_wp2_with fail
  go_loopw [1, 2] (fun v1 v2 wr => ∃ k : Nat, k ≤ 32 ∧ v2 = .int .i64 (k : Int) ∧ wr.ownsRow w.heap.size 3 1 v1 k ((upto (fun _ => (5 : Int)) k).map (Value.int .i64)) ∧ Below w.heap.size w wr) (fun _ v2 _ => 32 - (intOf v2).toNat)
  case atStart => exact ⟨0, by omega, rfl, World.ownsRow_nil _ _ _ _, Below.refl _ _⟩
  case round =>
    obtain ⟨k, hk, rfl, hO, hB⟩ := hrel
    by_cases hlt : k < 32
    · obtain ⟨gu, cu, rfl⟩ := owns_form hO
      have hsz := hB.size
      have HF : Hid (∀ (o : Obj) (v' : Value) (w3 : World), w3.ownsRow w.heap.size 3 1 v' (k + 1) ((upto (fun _ => (5 : Int)) k).map (Value.int .i64) ++ [.int .i64 5]) → (wr.alloc o).grownBy w3 (Value.slice gu k cu).ownBlock →
          w3.ownsRow w.heap.size 3 1 v' (k + 1) ((upto (fun _ => (5 : Int)) (k + 1)).map (Value.int .i64)) ∧ Below w.heap.size w w3) := by
        intro o v' w3 h1 h2
        refine ⟨by rw [upto_succ]; simpa using h1, (hB.alloc hsz o).grown h2 (by rw [World.size_alloc]; omega) (fun r e => (hO.lt r e).1)⟩
      go_wp2_with (at_builtin; refine wpList_append_own2 _ rfl (.tmp 7) (.tmp 8) 32 rfl w.heap.size 3 i0 (.int .i64 0) 1 8 Tryd.underlying32 hi0 hz0 hz1 hz2 rfl (by decide) _ _ _ rfl (hO.alloc _) ⟨wr.heap.size, 0, none⟩ 1 1 [.int .i64 5] rfl rfl (cell_one_new _ _ _) (by simp [Value.oneCell']) (by unfold maxLen; omega) (by omega) (by simp; omega) ?_)
      intro v' w3 hown' hgrow _
      have HG : Hid _ := HF.out _ v' w3 hown' hgrow
      go_wp2
      exact ⟨⟨k + 1, by omega, by simp, HG.out.1, HG.out.2⟩, by simp [intOf]; omega⟩
    · obtain rfl : k = 32 := by omega
      obtain ⟨gu, cu, rfl⟩ := owns_form hO
      go_wp2
      go_ret
      exact ⟨gu, cu, rfl, hO, hB⟩
end Go.Proofs.YtiheajlgaehfmaaDoor
