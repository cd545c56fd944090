import Derived.Test.YtinbilbgipfemaaDoorFnd
import Derived.Test.YtinbilbgipfemaaDoorTabM
import Derived.Test.YtinbilbgipfemaaDoorOrdM
import Derived.RangeFuncCalls
import Derived.BigQuiet
import Derived.Deep.QuietTactic
/- The finder in memory; the hash of three bytes. -/
namespace Go.Proofs.YtinbilbgipfemaaDoor
open Go.RowKit

/-- The finder: its text, its heads, its places. -/
structure FindAt (D : Nat → Prop) (F H P : Nat) (a : Option Addr) (cap m : Nat) (T hs bs : List Int) (w : World) : Prop where
  fin : Row w F 75 #[.slice a T.length cap, .slice (some ⟨H, 0, none⟩) m m, .slice (some ⟨P, 0, none⟩) T.length T.length]
  heads : Row w H 3 (hs.map (Value.int .i64)).toArray
  before : Row w P 3 (bs.map (Value.int .i64)).toArray
  lh : hs.length = m
  lb : bs.length = T.length
  txt : BytesIn D w (.slice a T.length cap) T
  nH : ¬ D H
  nP : ¬ D P
  FH : F ≠ H
  FP : F ≠ P
  HP : H ≠ P

theorem FindAt.kept {D S : Nat → Prop} {F H P : Nat} {a : Option Addr} {cap m : Nat} {T hs bs : List Int} {w w' : World} (h : FindAt D F H P a cap m T hs bs w) (hk : Kept S w w') (hS : ∀ k, (D k ∨ k = F ∨ k = H ∨ k = P) → S k) : FindAt D F H P a cap m T hs bs w' :=
  ⟨h.fin.kept hk (hS _ (.inr (.inl rfl))), h.heads.kept hk (hS _ (.inr (.inr (.inl rfl)))), h.before.kept hk (hS _ (.inr (.inr (.inr rfl)))), h.lh, h.lb, h.txt.kept (hk.mono (fun k hk => hS k (.inl hk))), h.nH, h.nP, h.FH, h.FP, h.HP⟩
theorem FindAt.drewN {D : Nat → Prop} {F H P : Nat} {a : Option Addr} {cap m : Nat} {T hs bs : List Int} {w : World} (h : FindAt D F H P a cap m T hs bs w) (n : Nat) : FindAt D F H P a cap m T hs bs (w.drewN n) :=
  h.kept (S := fun _ => True) ⟨rfl, rfl, rfl, Nat.le_refl _, fun _ _ => rfl⟩ (fun _ _ => trivial)
theorem kept_drewN (S : Nat → Prop) (w : World) (n : Nat) : Kept S w (w.drewN n) := ⟨rfl, rfl, rfl, Nat.le_refl _, fun _ _ => rfl⟩

theorem BytesIn.at {S : Nat → Prop} {W : World} {a : Option Addr} {n cap : Nat} {zs : List Int} (h : BytesIn S W (.slice a n cap) zs) (j : Nat) (hj : j < zs.length) : ∃ b off, a = some ⟨b, off, none⟩ ∧ S b ∧ ∀ j : Nat, j < zs.length → W.cell? ⟨b, off + j, none⟩ = some (.int .u8 (zs[j]?.getD 0)) := by
  rcases h with ⟨rfl, _⟩ | ⟨b, off, cap', e, hb, hc⟩
  · simp at hj
  · simp only [Value.slice.injEq] at e
    exact ⟨b, off, e.1, hb, hc⟩

/-- The hash of three bytes, as the program reckons it. -/
def hraw (b0 b1 b2 : Int) (m : Nat) : Int := (bits .xor .i64 (bits .xor .i64 (wrap64 (wrap64 b0 * 1024)) (wrap64 (wrap64 b1 * 32))) (wrap64 b2)).tmod (m : Int)
def hashN (T : List Int) (m i : Nat) : Nat := (hraw (T[i]?.getD 0) (T[i + 1]?.getD 0) (T[i + 2]?.getD 0) m).toNat
theorem ofInt_i64 (a : Nat) (h : a < 4294967296) : (BitVec.ofInt 64 (a : Int)).toNat = a := by
  rw [BitVec.toNat_ofInt]
  omega
theorem i64_xor_nat (a b : Nat) (ha : a < 4294967296) (hb : b < 4294967296) : bits .xor .i64 (a : Int) (b : Int) = ((a ^^^ b : Nat) : Int) := by
  have hx : a ^^^ b < 2 ^ 32 := Nat.xor_lt_two_pow (by omega) (by omega)
  show IntKind.i64.wrap ((BitVec.ofInt 64 (a : Int) ^^^ BitVec.ofInt 64 (b : Int)).toNat : Int) = _
  rw [BitVec.toNat_xor, ofInt_i64 a ha, ofInt_i64 b hb]
  simp [IntKind.wrap, IntKind.bits, IntKind.signed]
  omega
theorem wrap64_small (x : Int) (h0 : 0 ≤ x) (h1 : x < 4294967296) : wrap64 x = x := by simp [wrap64]; omega
theorem hraw_bd (b0 b1 b2 : Int) (m : Nat) (h0 : 0 ≤ b0 ∧ b0 ≤ 255) (h1 : 0 ≤ b1 ∧ b1 ≤ 255) (h2 : 0 ≤ b2 ∧ b2 ≤ 255) (hm : 1 ≤ m) : 0 ≤ hraw b0 b1 b2 m ∧ hraw b0 b1 b2 m < (m : Int) := by
  obtain ⟨x0, rfl⟩ := Int.eq_ofNat_of_zero_le h0.1
  obtain ⟨x1, rfl⟩ := Int.eq_ofNat_of_zero_le h1.1
  obtain ⟨x2, rfl⟩ := Int.eq_ofNat_of_zero_le h2.1
  unfold hraw
  rw [wrap64_small x0 (by omega) (by omega), wrap64_small x1 (by omega) (by omega), wrap64_small x2 (by omega) (by omega), wrap64_small _ (by omega) (by omega), wrap64_small _ (by omega) (by omega),
    show (x0 : Int) * 1024 = ((x0 * 1024 : Nat) : Int) by omega, show (x1 : Int) * 32 = ((x1 * 32 : Nat) : Int) by omega, i64_xor_nat _ _ (by omega) (by omega)]
  have hx : x0 * 1024 ^^^ x1 * 32 < 2 ^ 32 := Nat.xor_lt_two_pow (by omega) (by omega)
  rw [i64_xor_nat _ _ (by omega) (by omega)]
  generalize x0 * 1024 ^^^ x1 * 32 ^^^ x2 = y
  rw [Int.tmod_eq_emod_of_nonneg (by omega)]
  exact ⟨Int.emod_nonneg _ (by omega), Int.emod_lt_of_pos _ (by omega)⟩
theorem hashN_eq (T : List Int) (m i : Nat) (hT : AreBytes T) (hm : 1 ≤ m) : hraw (T[i]?.getD 0) (T[i + 1]?.getD 0) (T[i + 2]?.getD 0) m = (hashN T m i : Int) ∧ hashN T m i < m := by
  have := hraw_bd _ _ _ m (hT i) (hT (i + 1)) (hT (i + 2)) hm
  unfold hashN
  omega

set_option maxRecDepth 100000 in
set_option maxHeartbeats 2000000 in
theorem hash_any (D : Nat → Prop) (F H P : Nat) (a : Option Addr) (cap m : Nat) (T hs bs : List Int) (w : World) (hF : FindAt D F H P a cap m T hs bs w) (i : Nat) (hi : i + 3 ≤ T.length) (hm : 1 ≤ m ∧ m ≤ 32768) (hl : T.length ≤ 2000000) (hT : AreBytes T) :
    Calls Tryd.prog 50 #[.pointer (some ⟨F, 0, none⟩), .int .i64 (i : Int)] w fun e w' => e = .returned (.int .i64 (hashN T m i : Int)) ∧ ∃ n, w' = w.drewN n := by
  rw [← (hashN_eq T m i hT hm.1).1]
  obtain ⟨b, off, rfl, hD, hc⟩ := hF.txt.at i (by omega)
  have c0 := hc i (by omega)
  have c1 := hc (i + 1) (by omega)
  have c2 := hc (i + 2) (by omega)
  have f0 := hF.fin.cell (i := 0) rfl
  have f1 := hF.fin.cell (i := 1) rfl
  generalize T[i]?.getD 0 = b0 at c0 ⊢
  generalize T[i + 1]?.getD 0 = b1 at c1 ⊢
  generalize T[i + 2]?.getD 0 = b2 at c2 ⊢
  have w1 : IntKind.i64.wrap ((i : Int) + 1) = (i : Int) + 1 := by simp [IntKind.wrap, IntKind.bits, IntKind.signed]; omega
  have w2 : IntKind.i64.wrap ((i : Int) + 2) = (i : Int) + 2 := by simp [IntKind.wrap, IntKind.bits, IntKind.signed]; omega
  have l0 : (i : Int) < (T.length : Int) := by omega
  have l1 : (i : Int) + 1 < (T.length : Int) := by omega
  have l2 : (i : Int) + 2 < (T.length : Int) := by omega
  have mz : ¬ ((m : Int) = 0) := by omega
  have mz2 : ((m : Int) == 0) = false := by simpa using mz
  clear hc hF hT
  go_enter Tryd.func50, Tryd.ntmps50
  go_wp2_with fail
  go_quiet (fail)
  go_wp2
  go_ret
  exact ⟨rfl, _, rfl⟩

/-- A place is put into its chain. -/
def enterS (T : List Int) (m at' : Nat) (hs bs : List Int) : List Int × List Int :=
  if at' + 3 ≤ T.length then (hs.set (hashN T m at') (at' : Int), bs.set at' (hs[hashN T m at']?.getD 0)) else (hs, bs)

theorem row_set_int {W : World} {B : Nat} {xs : List Int} (h : Row W B 3 (xs.map (Value.int .i64)).toArray) (i : Nat) (v : Int) : Row (W.setCell ⟨B, i, none⟩ (.int .i64 v)) B 3 ((xs.set i v).map (Value.int .i64)).toArray := by
  have := h.set i (.int .i64 v)
  rw [List.setIfInBounds_toArray, ← List.map_set] at this
  exact this
theorem row_int_cell {W : World} {B : Nat} {xs : List Int} (h : Row W B 3 (xs.map (Value.int .i64)).toArray) (i : Nat) (hi : i < xs.length) : W.cell? ⟨B, i, none⟩ = some (.int .i64 (xs[i]?.getD 0)) :=
  h.cell (by simp [List.getElem?_map, List.getElem?_eq_getElem hi])

set_option maxRecDepth 100000 in
set_option maxHeartbeats 2000000 in
theorem enter_any (D : Nat → Prop) (F H P : Nat) (a : Option Addr) (cap m : Nat) (T hs bs : List Int) (w : World) (hF : FindAt D F H P a cap m T hs bs w) (i : Nat) (hi : i < T.length) (hm : 1 ≤ m ∧ m ≤ 32768) (hl : T.length ≤ 2000000) (hT : AreBytes T) :
    Calls Tryd.prog 34 #[.pointer (some ⟨F, 0, none⟩), .int .i64 (i : Int)] w fun e w' => (∃ v, e = .returned v) ∧ FindAt D F H P a cap m T (enterS T m i hs bs).1 (enterS T m i hs bs).2 w' ∧ Kept (fun k => k ≠ H ∧ k ≠ P) w w' ∧ KeepsOthers w w' := by
  have w3 : IntKind.i64.wrap ((i : Int) + 3) = (i : Int) + 3 := by simp [IntKind.wrap, IntKind.bits, IntKind.signed]; omega
  have f0 := hF.fin.cell (i := 0) rfl
  by_cases h3 : i + 3 ≤ T.length
  rotate_left
  · have t1 : (T.length : Int) < (i : Int) + 3 := by omega
    have HF : Hid (FindAt D F H P a cap m T (enterS T m i hs bs).1 (enterS T m i hs bs).2 w) := by show FindAt _ _ _ _ _ _ _ _ _ _ _; unfold enterS; rw [if_neg h3]; exact hF
    clear hF hT
    go_enter Tryd.func34, Tryd.ntmps34
    go_wp2
    refine bodyPost_ret (results_none rfl _ _ _) rfl ?_
    exact ⟨⟨_, rfl⟩, HF.out, Kept.refl _ _, KeepsOthers.refl _⟩
  · have t1 : ¬ ((T.length : Int) < (i : Int) + 3) := by omega
    have HC : Hid (Calls Tryd.prog 50 #[.pointer (some ⟨F, 0, none⟩), .int .i64 (i : Int)] w fun e w' => e = .returned (.int .i64 (hashN T m i : Int)) ∧ ∃ n, w' = w.drewN n) := hash_any D F H P a cap m T hs bs w hF i h3 hm hl hT
    obtain ⟨h, hh⟩ : ∃ h, hashN T m i = h := ⟨_, rfl⟩
    have hlt : h < m := hh ▸ (hashN_eq T m i hT hm.1).2
    have HE : Hid (enterS T m i hs bs = (hs.set h (i : Int), bs.set i (hs[h]?.getD 0))) := by show _ = _; unfold enterS; rw [if_pos h3, hh]
    rw [hh] at HC
    rw [HE.out]
    go_enter Tryd.func34, Tryd.ntmps34
    go_wp2_with fail
    refine HC.out.mono ?_
    clear HC
    rintro e w1 ⟨rfl, nq, rfl⟩
    have hF1 := hF.drewN nq
    have hK1 := kept_drewN (fun k => k ≠ H ∧ k ≠ P) w nq
    have hO1 : KeepsOthers w (w.drewN nq) := ⟨Nat.le_refl _, fun _ _ h _ => h⟩
    generalize w.drewN nq = w1 at hF1 hK1 hO1 ⊢
    clear hF f0 HE hh hT
    have f1 : w1.drew.cell? ⟨F, 1, none⟩ = some _ := hF1.fin.cell (i := 1) rfl
    have f2 : w1.drew.cell? ⟨F, 2, none⟩ = some _ := hF1.fin.cell (i := 2) rfl
    have ch : w1.drew.cell? ⟨H, h, none⟩ = some _ := row_int_cell hF1.heads h (by rw [hF1.lh]; exact hlt)
    have cp : w1.drew.cell? ⟨P, i, none⟩ = some _ := row_int_cell hF1.before i (by rw [hF1.lb]; omega)
    have fp : w1.drew.frozen? ⟨P, i, none⟩ = false := hF1.before.frozen i
    have l1 : (h : Int) < (m : Int) := by omega
    have l2 : (i : Int) < (T.length : Int) := by omega
    obtain ⟨x, hx⟩ : ∃ x, hs[h]?.getD 0 = x := ⟨_, rfl⟩
    rw [hx] at ch
    have HF2 : Hid (FindAt D F H P a cap m T hs (bs.set i x) (w1.drew.setCell ⟨P, i, none⟩ (.int .i64 x))) :=
      ⟨(show Row w1.drew _ _ _ from hF1.fin).kept ((Kept.refl (· ≠ P) w1.drew).setCell (p := ⟨P, i, none⟩) (by simp) _) hF1.FP, (show Row w1.drew _ _ _ from hF1.heads).kept ((Kept.refl (· ≠ P) w1.drew).setCell (p := ⟨P, i, none⟩) (by simp) _) hF1.HP, row_set_int (W := w1.drew) hF1.before i x, hF1.lh, by simp [hF1.lb],
        (show BytesIn D w1.drew _ _ from hF1.txt).kept ((Kept.refl D w1.drew).setCell (p := ⟨P, i, none⟩) hF1.nP _), hF1.nH, hF1.nP, hF1.FH, hF1.FP, hF1.HP⟩
    have HK2 : Hid (Kept (fun k => k ≠ H ∧ k ≠ P) w (w1.drew.setCell ⟨P, i, none⟩ (.int .i64 x))) := hK1.drew.setCell (p := ⟨P, i, none⟩) (by simp) _
    have HO2 : Hid (KeepsOthers w (w1.drew.setCell ⟨P, i, none⟩ (.int .i64 x))) := hO1.trans ((KeepsOthers.drew w1).trans (KeepsOthers.setCell _ _ _))
    have HS : Hid (w1.drew.cell? ⟨F, 1, none⟩ = some (.slice (some ⟨H, 0, none⟩) m m) ∧ w1.drew.cell? ⟨F, 2, none⟩ = some (.slice (some ⟨P, 0, none⟩) T.length T.length) ∧ w1.drew.cell? ⟨H, h, none⟩ = some (.int .i64 x)) := ⟨f1, f2, ch⟩
    clear hF1 hK1 hO1 f1 f2 ch
    go_wp2_with fail
    refine wp_region_K (fun wx => wx.cell? ⟨F, 1, none⟩ = some (.slice (some ⟨H, 0, none⟩) m m) ∧ wx.cell? ⟨F, 2, none⟩ = some (.slice (some ⟨P, 0, none⟩) T.length T.length) ∧ wx.cell? ⟨H, h, none⟩ = some (.int .i64 x)) (fun j => decide (j ≤ 12)) (by kernel_rfl) ?_
    refine wpK_held (k := 0) (v := ?_) rfl (by kernel_rfl) (by kernel_rfl) (fun _ _ _ h => h) rfl (by rintro wx ⟨hx1, hx2, hx3⟩; go_simp <;> rfl) HS.out ?_
    refine wpK_held (k := 1) (v := ?_) rfl (by kernel_rfl) (by kernel_rfl) (fun _ _ _ h => h) rfl (by rintro wx ⟨hx1, hx2, hx3⟩; go_simp <;> rfl) HS.out ?_
    refine wpK_held (k := 2) (v := ?_) rfl (by kernel_rfl) (by kernel_rfl) (fun _ _ _ h => h) rfl (by rintro wx ⟨hx1, hx2, hx3⟩; go_simp <;> rfl) HS.out ?_
    refine wpK_held (k := 3) (v := ?_) rfl (by kernel_rfl) (by kernel_rfl) (fun _ _ _ h => h) rfl (by rintro wx ⟨hx1, hx2, hx3⟩; go_simp <;> rfl) HS.out ?_
    refine wpK_held (k := 4) (v := ?_) rfl (by kernel_rfl) (by kernel_rfl) (fun _ _ _ h => h) rfl (by rintro wx ⟨hx1, hx2, hx3⟩; go_simp <;> rfl) HS.out ?_
    refine wpK_held (k := 5) (v := ?_) rfl (by kernel_rfl) (by kernel_rfl) (fun _ _ _ h => h) rfl (by rintro wx ⟨hx1, hx2, hx3⟩; go_simp <;> rfl) HS.out ?_
    refine wpK_held (k := 6) (v := ?_) rfl (by kernel_rfl) (by kernel_rfl) (fun _ _ _ h => h) rfl (by rintro wx ⟨hx1, hx2, hx3⟩; go_simp <;> rfl) HS.out ?_
    refine wpK_held (k := 7) (v := ?_) rfl (by kernel_rfl) (by kernel_rfl) (fun _ _ _ h => h) rfl (by rintro wx ⟨hx1, hx2, hx3⟩; go_simp <;> rfl) HS.out ?_
    refine wpK_held (k := 8) (v := ?_) rfl (by kernel_rfl) (by kernel_rfl) (fun _ _ _ h => h) rfl (by rintro wx ⟨hx1, hx2, hx3⟩; go_simp <;> rfl) HS.out ?_
    refine wpK_held (k := 9) (v := ?_) rfl (by kernel_rfl) (by kernel_rfl) (fun _ _ _ h => h) rfl (by rintro wx ⟨hx1, hx2, hx3⟩; go_simp <;> rfl) HS.out ?_
    refine wpK_held (k := 10) (v := ?_) rfl (by kernel_rfl) (by kernel_rfl) (fun _ _ _ h => h) rfl (by rintro wx ⟨hx1, hx2, hx3⟩; go_simp <;> rfl) HS.out ?_
    refine wpK_held (k := 11) (v := ?_) rfl (by kernel_rfl) (by kernel_rfl) (fun _ _ _ h => h) rfl (by rintro wx ⟨hx1, hx2, hx3⟩; go_simp <;> rfl) HS.out ?_
    refine wpK_held (k := 12) (v := ?_) rfl (by kernel_rfl) (by kernel_rfl) (fun _ _ _ h => h) rfl (by rintro wx ⟨hx1, hx2, hx3⟩; go_simp <;> rfl) HS.out ?_
    refine wpK_one (k := 13) rfl (by kernel_rfl) ?_
    go_wp2_with fail
    refine ⟨(fun h => by cases h), ?_⟩
    refine wpK_done 14 rfl (by kernel_rfl) ?_
    clear cp fp HS
    have hF2 : FindAt D F H P a cap m T hs (bs.set i x) (w1.setCell ⟨P, i, none⟩ (.int .i64 x)).drew := HF2.out
    have hK2 : Kept (fun k => k ≠ H ∧ k ≠ P) w (w1.setCell ⟨P, i, none⟩ (.int .i64 x)).drew := HK2.out
    have hO2 : KeepsOthers w (w1.setCell ⟨P, i, none⟩ (.int .i64 x)).drew := HO2.out
    generalize (w1.setCell ⟨P, i, none⟩ (.int .i64 x)).drew = w2 at hF2 hK2 hO2 ⊢
    clear HF2 HK2 HO2
    have f1 := hF2.fin.cell (i := 1) rfl
    have ch := row_int_cell hF2.heads h (by rw [hF2.lh]; exact hlt)
    have fh := hF2.heads.frozen h
    have HF3 : Hid (FindAt D F H P a cap m T (hs.set h (i : Int)) (bs.set i x) (w2.setCell ⟨H, h, none⟩ (.int .i64 (i : Int)))) :=
      ⟨hF2.fin.kept ((Kept.refl (· ≠ H) w2).setCell (p := ⟨H, h, none⟩) (by simp) _) hF2.FH, row_set_int hF2.heads h _, hF2.before.kept ((Kept.refl (· ≠ H) w2).setCell (p := ⟨H, h, none⟩) (by simp) _) hF2.HP.symm, by simp [hF2.lh], hF2.lb,
        hF2.txt.kept ((Kept.refl D w2).setCell (p := ⟨H, h, none⟩) hF2.nH _), hF2.nH, hF2.nP, hF2.FH, hF2.FP, hF2.HP⟩
    have HK3 : Hid (Kept (fun k => k ≠ H ∧ k ≠ P) w (w2.setCell ⟨H, h, none⟩ (.int .i64 (i : Int)))) := hK2.setCell (p := ⟨H, h, none⟩) (by simp) _
    have HO3 : Hid (KeepsOthers w (w2.setCell ⟨H, h, none⟩ (.int .i64 (i : Int)))) := hO2.trans (KeepsOthers.setCell _ _ _)
    clear hF2 hK2 hO2
    go_wp2
    go_end0
    exact ⟨⟨_, rfl⟩, by rw [hx]; exact HF3.out, HK3.out, HO3.out⟩
end Go.Proofs.YtinbilbgipfemaaDoor
