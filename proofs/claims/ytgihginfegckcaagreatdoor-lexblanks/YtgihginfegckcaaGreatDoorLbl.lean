import Derived.Test.YtgihginfegckcaaGreatDoorLbq
/- LexBlanks, walked. -/
namespace Go.Proofs.YtgihginfegckcaaGreatDoor
open Go.RowKit

set_option maxRecDepth 100000 in
set_option maxHeartbeats 1000000 in
theorem blk_lo (a b : List UInt8) (n : Int) (l m : List Tk) (q r : Nat) (ea eb : Int) (w : World) (hE : LexE w)
    (h1 : ∀ W, LexE W → Hid (Calls Tryz.prog 7 #[.string (bs a)] W (LexPost W (l, q, ea))))
    (h2 : ∀ W, LexE W → Hid (Calls Tryz.prog 7 #[.string (bs b)] W (LexPost W (m, r, eb))))
    (h5 : ∀ W, LexE W → Hid (Calls Tryz.prog 9 #[] W fun e w' => e = .returned (.bool true) ∧ Below W.heap.size W w'))
    (t1 : n < 1) :
    Calls Tryz.prog 6 #[.string (bs a), .string (bs b), .int .i64 n] w fun e w' => e = .returned (.bool true) ∧ Below w.heap.size w w' := by
  have HE : Hid (LexE w) := hE
  clear hE
  go_enter Tryz.func6, Tryz.ntmps6
  go_wp2_with fail
  refine Calls.mono (h1 _ HE.out).out ?_
  rintro _ w1 ⟨⟨v1, rfl, o1⟩, b1⟩
  clear h1
  go_wp2_with fail
  refine Calls.mono (h2 _ (HE.out.below b1)).out ?_
  rintro _ w2 ⟨⟨v2, rfl, o2⟩, b2⟩
  have B2 := b1.trans (b2.mono b1.size)
  clear h2
  clear o1 o2 b1 b2
  go_wp2_with fail
  refine Calls.mono (h5 _ (HE.out.below B2)).out ?_
  rintro _ w3 ⟨rfl, b3⟩
  have B3 := B2.trans (b3.mono B2.size)
  clear h5 b3 B2
  go_wp2
  go_ret
  exact ⟨rfl, B3⟩
set_option maxRecDepth 100000 in
set_option maxHeartbeats 1000000 in
theorem blk_hi (a b : List UInt8) (n : Int) (l m : List Tk) (q r : Nat) (ea eb : Int) (w : World) (hE : LexE w)
    (h1 : ∀ W, LexE W → Hid (Calls Tryz.prog 7 #[.string (bs a)] W (LexPost W (l, q, ea))))
    (h2 : ∀ W, LexE W → Hid (Calls Tryz.prog 7 #[.string (bs b)] W (LexPost W (m, r, eb))))
    (h5 : ∀ W, LexE W → Hid (Calls Tryz.prog 9 #[] W fun e w' => e = .returned (.bool true) ∧ Below W.heap.size W w'))
    (t1 : decide (n < 1) = false) (t2 : 9 < n) :
    Calls Tryz.prog 6 #[.string (bs a), .string (bs b), .int .i64 n] w fun e w' => e = .returned (.bool true) ∧ Below w.heap.size w w' := by
  have HE : Hid (LexE w) := hE
  clear hE
  go_enter Tryz.func6, Tryz.ntmps6
  go_wp2_with fail
  refine Calls.mono (h1 _ HE.out).out ?_
  rintro _ w1 ⟨⟨v1, rfl, o1⟩, b1⟩
  clear h1
  go_wp2_with fail
  refine Calls.mono (h2 _ (HE.out.below b1)).out ?_
  rintro _ w2 ⟨⟨v2, rfl, o2⟩, b2⟩
  have B2 := b1.trans (b2.mono b1.size)
  clear h2
  clear o1 o2 b1 b2
  go_wp2_with fail
  refine Calls.mono (h5 _ (HE.out.below B2)).out ?_
  rintro _ w3 ⟨rfl, b3⟩
  have B3 := B2.trans (b3.mono B2.size)
  clear h5 b3 B2
  go_wp2
  go_ret
  exact ⟨rfl, B3⟩
set_option maxRecDepth 100000 in
set_option maxHeartbeats 1000000 in
theorem blk_big (a b : List UInt8) (n : Int) (l m : List Tk) (q r : Nat) (ea eb : Int) (w : World) (hE : LexE w)
    (h1 : ∀ W, LexE W → Hid (Calls Tryz.prog 7 #[.string (bs a)] W (LexPost W (l, q, ea))))
    (h2 : ∀ W, LexE W → Hid (Calls Tryz.prog 7 #[.string (bs b)] W (LexPost W (m, r, eb))))
    (h5 : ∀ W, LexE W → Hid (Calls Tryz.prog 9 #[] W fun e w' => e = .returned (.bool true) ∧ Below W.heap.size W w'))
    (ha : (bs a).size ≤ 140737488351232) (hb : (bs b).size ≤ 140737488351232) (hn1 : 1 ≤ n) (hn2 : n ≤ 9) (t1 : decide (n < 1) = false) (t2 : decide (9 < n) = false) (t3 : 512 < ((bs a).size : Int) + ((bs b).size : Int) + n) :
    Calls Tryz.prog 6 #[.string (bs a), .string (bs b), .int .i64 n] w fun e w' => e = .returned (.bool true) ∧ Below w.heap.size w w' := by
  have HE : Hid (LexE w) := hE
  clear hE
  go_enter Tryz.func6, Tryz.ntmps6
  go_wp2_with fail
  refine Calls.mono (h1 _ HE.out).out ?_
  rintro _ w1 ⟨⟨v1, rfl, o1⟩, b1⟩
  clear h1
  go_wp2_with fail
  refine Calls.mono (h2 _ (HE.out.below b1)).out ?_
  rintro _ w2 ⟨⟨v2, rfl, o2⟩, b2⟩
  have B2 := b1.trans (b2.mono b1.size)
  clear h2
  clear o1 o2 b1 b2
  go_wp2_with fail
  refine Calls.mono (h5 _ (HE.out.below B2)).out ?_
  rintro _ w3 ⟨rfl, b3⟩
  have B3 := B2.trans (b3.mono B2.size)
  clear h5 b3 B2
  go_wp2
  go_ret
  exact ⟨rfl, B3⟩
set_option maxRecDepth 100000 in
set_option maxHeartbeats 1000000 in
theorem blk_ea (a b : List UInt8) (n : Int) (l m : List Tk) (q r : Nat) (ea eb : Int) (w : World) (hE : LexE w)
    (h1 : ∀ W, LexE W → Hid (Calls Tryz.prog 7 #[.string (bs a)] W (LexPost W (l, q, ea))))
    (h2 : ∀ W, LexE W → Hid (Calls Tryz.prog 7 #[.string (bs b)] W (LexPost W (m, r, eb))))
    (h5 : ∀ W, LexE W → Hid (Calls Tryz.prog 9 #[] W fun e w' => e = .returned (.bool true) ∧ Below W.heap.size W w'))
    (ha : (bs a).size ≤ 140737488351232) (hb : (bs b).size ≤ 140737488351232) (hn1 : 1 ≤ n) (hn2 : n ≤ 9) (t1 : decide (n < 1) = false) (t2 : decide (9 < n) = false) (t3 : decide (512 < ((bs a).size : Int) + ((bs b).size : Int) + n) = false) (t4 : (ea != 0) = true) :
    Calls Tryz.prog 6 #[.string (bs a), .string (bs b), .int .i64 n] w fun e w' => e = .returned (.bool true) ∧ Below w.heap.size w w' := by
  have HE : Hid (LexE w) := hE
  clear hE
  go_enter Tryz.func6, Tryz.ntmps6
  go_wp2_with fail
  refine Calls.mono (h1 _ HE.out).out ?_
  rintro _ w1 ⟨⟨v1, rfl, o1⟩, b1⟩
  clear h1
  go_wp2_with fail
  refine Calls.mono (h2 _ (HE.out.below b1)).out ?_
  rintro _ w2 ⟨⟨v2, rfl, o2⟩, b2⟩
  have B2 := b1.trans (b2.mono b1.size)
  clear h2
  clear o1 o2 b1 b2
  go_wp2_with fail
  refine Calls.mono (h5 _ (HE.out.below B2)).out ?_
  rintro _ w3 ⟨rfl, b3⟩
  have B3 := B2.trans (b3.mono B2.size)
  clear h5 b3 B2
  go_wp2
  go_ret
  exact ⟨rfl, B3⟩
set_option maxRecDepth 100000 in
set_option maxHeartbeats 1000000 in
theorem blk_eb (a b : List UInt8) (n : Int) (l m : List Tk) (q r : Nat) (ea eb : Int) (w : World) (hE : LexE w)
    (h1 : ∀ W, LexE W → Hid (Calls Tryz.prog 7 #[.string (bs a)] W (LexPost W (l, q, ea))))
    (h2 : ∀ W, LexE W → Hid (Calls Tryz.prog 7 #[.string (bs b)] W (LexPost W (m, r, eb))))
    (h5 : ∀ W, LexE W → Hid (Calls Tryz.prog 9 #[] W fun e w' => e = .returned (.bool true) ∧ Below W.heap.size W w'))
    (ha : (bs a).size ≤ 140737488351232) (hb : (bs b).size ≤ 140737488351232) (hn1 : 1 ≤ n) (hn2 : n ≤ 9) (t1 : decide (n < 1) = false) (t2 : decide (9 < n) = false) (t3 : decide (512 < ((bs a).size : Int) + ((bs b).size : Int) + n) = false) (t4 : (ea != 0) = false) (t5 : (eb != 0) = true) :
    Calls Tryz.prog 6 #[.string (bs a), .string (bs b), .int .i64 n] w fun e w' => e = .returned (.bool true) ∧ Below w.heap.size w w' := by
  have HE : Hid (LexE w) := hE
  clear hE
  go_enter Tryz.func6, Tryz.ntmps6
  go_wp2_with fail
  refine Calls.mono (h1 _ HE.out).out ?_
  rintro _ w1 ⟨⟨v1, rfl, o1⟩, b1⟩
  clear h1
  go_wp2_with fail
  refine Calls.mono (h2 _ (HE.out.below b1)).out ?_
  rintro _ w2 ⟨⟨v2, rfl, o2⟩, b2⟩
  have B2 := b1.trans (b2.mono b1.size)
  clear h2
  clear o1 o2 b1 b2
  go_wp2_with fail
  refine Calls.mono (h5 _ (HE.out.below B2)).out ?_
  rintro _ w3 ⟨rfl, b3⟩
  have B3 := B2.trans (b3.mono B2.size)
  clear h5 b3 B2
  go_wp2
  go_ret
  exact ⟨rfl, B3⟩
theorem stood34 : Tryz.prog.stoodInHeld 34 = false := by kernel_rfl
theorem stood30 : Tryz.prog.stoodInHeld 30 = false := by kernel_rfl
theorem stood32 : Tryz.prog.stoodInHeld 32 = false := by kernel_rfl
theorem fields34 : Tryz.prog.underlying 34 = some (.struct (Tryz.prog.fieldsOf 34)) := by kernel_rfl
theorem fields30 : Tryz.prog.underlying 30 = some (.struct (Tryz.prog.fieldsOf 30)) := by kernel_rfl
theorem fields32 : Tryz.prog.underlying 32 = some (.struct (Tryz.prog.fieldsOf 32)) := by kernel_rfl
set_option maxRecDepth 100000 in
theorem same34 (t : Tk) (W : World) : (binOp .eql 34 (.agg t.cells) (.agg t.cells)).run Tryz.prog W = .ok (.bool true) W := by
  rw [run_eql_struct, run_equalIn_agg _ _ _ _ _ fields34 stood34]
  unfold Tk.cells
  have h : (Op.eqFields 9999 #[.int .i64 t.k, .int .i64 t.at', .string (bs t.s), .int .i64 t.c, .int .i64 t.e, .string t.r.s, .int .i64 t.r.c, .int .i64 t.r.r, .bool t.r.ac, .bool t.r.ar] #[.int .i64 t.k, .int .i64 t.at', .string (bs t.s), .int .i64 t.c, .int .i64 t.e, .string t.r.s, .int .i64 t.r.c, .int .i64 t.r.r, .bool t.r.ac, .bool t.r.ar] (Tryz.prog.fieldsOf 34).toList).run Tryz.prog W = .ok true W := by
    go_simp
  rw [h]
  rfl
theorem nsame34 (t : Tk) (W : World) : (binOp .neq 34 (.agg t.cells) (.agg t.cells)).run Tryz.prog W = .ok (.bool false) W := by
  have h := same34 t W
  rw [run_eql_struct] at h
  rw [run_neq_struct]
  generalize (Op.equalIn 10000 34 (.agg t.cells) (.agg t.cells)).run Tryz.prog W = q at h ⊢
  cases q with
  | ok v w' =>
    simp [Result.andThen] at h ⊢
    exact ⟨h.1, h.2⟩
  | halt x w' => simp [Result.andThen] at h
theorem Below.cell_alloc_lt {W : World} {g o : Nat} {v : Value} {ob : Obj} (hg : g < W.heap.size) (h : W.cell? ⟨g, o, none⟩ = some v) : (W.alloc ob).cell? ⟨g, o, none⟩ = some v := (World.cell?_of_block (w := W) (Below.heap_alloc _ _ _ hg)).trans h
theorem tok_cells {W : World} {base : Nat} {v : Value} {ts : List Tk} (h : W.ownsRow base 34 10 v ts.length (tcs ts)) {i : Nat} (hi : i < ts.length) : ∃ g cap, v = .slice (some ⟨g, 0, none⟩) ts.length cap ∧ base ≤ g ∧ g < W.heap.size ∧ ∀ (j : Nat) u, ts[i].cells.toList[j]? = some u → W.cell? ⟨g, i * 10 + j, none⟩ = some u := by
  obtain ⟨g, cap, rfl, hc⟩ := owns_cells h (by omega)
  have hl := h.lt g rfl
  refine ⟨g, cap, rfl, hl.1, hl.2, fun j u hu => hc _ _ ?_⟩
  have hj : j < 10 := by
    have := (List.getElem?_eq_some_iff.1 hu).1
    simpa [Tk.cells] using this
  have hs : ts = ts.take i ++ ts[i] :: ts.drop (i + 1) := by rw [← List.drop_eq_getElem_cons hi, List.take_append_drop]
  have ht : tcs ts = tcs (ts.take i) ++ (ts[i].cells.toList ++ tcs (ts.drop (i + 1))) := by
    conv => lhs; rw [hs]
    unfold tcs
    rw [List.flatMap_append, List.flatMap_cons]
  have hlen : (tcs (ts.take i)).length = i * 10 := by rw [tcs_len, List.length_take, Nat.min_eq_left (by omega)]
  rw [ht, List.getElem?_append_right (by omega), hlen, show i * 10 + j - i * 10 = j by omega, List.getElem?_append_left (by simpa [Tk.cells] using hj)]
  exact hu
set_option maxRecDepth 100000 in
set_option maxHeartbeats 4000000 in
theorem blk_ok (a b : List UInt8) (KK : List Tk) (N : Nat) (hN1 : 1 ≤ N) (hN2 : N ≤ 9) (l m : List Tk) (q r : Nat) (w : World) (hE : LexE w) (hsum : (bs a).size + (bs b).size + N ≤ 512)
    (h1 : ∀ W, LexE W → Hid (Calls Tryz.prog 7 #[.string (bs a)] W (LexPost W (l, q, 0))))
    (h2 : ∀ W, LexE W → Hid (Calls Tryz.prog 7 #[.string (bs b)] W (LexPost W (m, r, 0))))
    (h5 : ∀ W, LexE W → Hid (Calls Tryz.prog 9 #[] W fun e w' => e = .returned (.bool true) ∧ Below W.heap.size W w'))
    (h6 : ∀ W, LexE W → Hid (Calls Tryz.prog 7 #[.string (bs (a ++ List.replicate N 32 ++ b))] W (LexPost W (KK, 0, 0)))) (HKK : Hid (KK.length = l.length + m.length)) (HKl : Hid (∀ j (h : j < l.length), KK[j]? = some l[j])) (HKm : Hid (∀ j (h : j < m.length), KK[l.length + j]? = some (m[j].sh (a.length + N)))) (HAt : Hid (∀ t ∈ m, 0 ≤ t.at' ∧ t.at' ≤ 512)) (HLM : Hid (l.length ≤ 600 ∧ m.length ≤ 600)) :
    Calls Tryz.prog 6 #[.string (bs a), .string (bs b), .int .i64 (N : Int)] w fun e w' => e = .returned (.bool true) ∧ Below w.heap.size w w' := by
  have t1 : decide ((N : Int) < 1) = false := decide_eq_false (by omega)
  have t2 : decide ((9 : Int) < (N : Int)) = false := decide_eq_false (by omega)
  have t3 : decide ((512 : Int) < ((bs a).size : Int) + ((bs b).size : Int) + (N : Int)) = false := decide_eq_false (by omega)
  have HSA : Hid ((bs a).size = a.length) := bs_size a
  have ka : (bs a).size ≤ 512 := by omega
  have kb : (bs b).size ≤ 512 := by omega
  have HE : Hid (LexE w) := hE
  clear hE
  go_enter Tryz.func6, Tryz.ntmps6
  go_wp2_with fail
  refine Calls.mono (h1 _ HE.out).out ?_
  rintro _ w1 ⟨⟨v1, rfl, o1⟩, b1⟩
  clear h1
  go_wp2_with fail
  refine Calls.mono (h2 _ (HE.out.below b1)).out ?_
  rintro _ w2 ⟨⟨v2, rfl, o2⟩, b2⟩
  have B2 := b1.trans (b2.mono b1.size)
  have O1 := owns_below o1 b2
  have HO1 : Hid (w2.ownsRow w.heap.size 34 10 v1 l.length (tcs l)) := O1
  have HO2 : Hid (w2.ownsRow w1.heap.size 34 10 v2 m.length (tcs m)) := o2
  have HB2 : Hid (Below w.heap.size w w2) := B2
  have HB1 : Hid (w.heap.size ≤ w1.heap.size) := b1.size
  clear h2 o1 o2 b1 b2 B2 O1
  go_wp2
  go_loopw [13, 14] (fun v13 v14 wr => ∃ i : Nat, i ≤ N ∧ v14 = .int .i64 (i : Int) ∧ v13 = .string (bs (a ++ List.replicate i 32)) ∧ w2 = wr) (fun _ v14 _ => N - (intOf v14).toNat)
  case atStart => exact ⟨0, Nat.zero_le _, rfl, by simp, rfl⟩
  case round =>
    obtain ⟨i, hi, rfl, rfl, rfl⟩ := hrel
    by_cases hlt : i < N
    · have HJ : Hid (bs (a ++ List.replicate i 32) ++ ⟨#[32]⟩ = bs (a ++ List.replicate (i + 1) 32)) := by
        show _ = _
        rw [show (⟨#[32]⟩ : ByteArray) = bs [32] from rfl, bs_join, List.append_assoc]
        congr 2
        rw [List.replicate_succ']
      have kx : (bs (a ++ List.replicate i 32)).size ≤ 600 := by rw [bs_size]; have := HSA.out; simp; omega
      generalize bs (a ++ List.replicate i 32) = X at kx HJ ⊢
      go_wp2
      go_roundw
      case rel => exact ⟨i + 1, by omega, by go_num, by rw [← HJ.out], trivial⟩
      case measure => simp [intOf]; omega
    · obtain rfl : i = N := by omega
      have HJ : Hid (bs (a ++ List.replicate i 32) ++ bs b = bs (a ++ List.replicate i 32 ++ b)) := bs_join _ _
      have kx : (bs (a ++ List.replicate i 32)).size = a.length + i := by rw [bs_size]; simp
      have HKX : Hid ((bs (a ++ List.replicate i 32)).size = a.length + i) := kx
      have kx2 : (bs (a ++ List.replicate i 32)).size ≤ 600 := by have := HSA.out; omega
      have h6' : ∀ W, LexE W → Hid (Calls Tryz.prog 7 #[.string (bs (a ++ List.replicate i 32) ++ bs b)] W (LexPost W (KK, 0, 0))) := fun W hW => by rw [HJ.out]; exact h6 W hW
      clear h6 HJ kx
      generalize bs (a ++ List.replicate i 32) = X at kx2 h6' HKX ⊢
      go_wp2_with fail
      refine Calls.mono (h6' _ (HE.out.below HB2.out)).out ?_
      rintro _ w3 ⟨⟨v3, rfl, o3⟩, b3⟩
      clear h6'
      have O1 := owns_below HO1.out b3
      have O2 := owns_below HO2.out b3
      have B3 := HB2.out.trans (b3.mono HB2.out.size)
      have HBW : Hid (w.heap.size ≤ w2.heap.size) := HB2.out.size
      clear HO1 HO2 HB2 b3
      obtain ⟨g1, c1, rfl⟩ := owns_form O1
      obtain ⟨g2, c2, rfl⟩ := owns_form O2
      obtain ⟨g3, c3, rfl⟩ := owns_form o3
      have hw : wrap64 ((l.length : Int) + (m.length : Int)) = (KK.length : Int) := by have := HKK.out; have := HLM.out; unfold wrap64; omega
      go_wp2_with fail
      refine Calls.mono (h5 _ (HE.out.below B3)).out ?_
      rintro _ w4 ⟨rfl, b4⟩
      have HO1 : Hid (w4.ownsRow w.heap.size 34 10 (.slice g1 l.length c1) l.length (tcs l)) := owns_below O1 b4
      have HO2 : Hid (w4.ownsRow w1.heap.size 34 10 (.slice g2 m.length c2) m.length (tcs m)) := owns_below O2 b4
      have HO3 : Hid (w4.ownsRow w2.heap.size 34 10 (.slice g3 KK.length c3) KK.length (tcs KK)) := owns_below o3 b4
      have HB4 : Hid (Below w.heap.size w w4) := B3.trans (b4.mono B3.size)
      clear O1 O2 o3 b4 B3 h5 HE
      have hKb : KK.length ≤ 1200 := by have := HKK.out; have := HLM.out; omega
      go_wp2
      go_loopw [18] (fun v18 wr => ∃ j : Nat, j ≤ KK.length ∧ v18 = .int .i64 (j : Int) ∧ Hid (Below w4.heap.size w4 wr)) (fun v18 _ => KK.length - (intOf v18).toNat)
      case atStart => exact ⟨0, Nat.zero_le _, rfl, Below.refl _ _⟩
      case round =>
        obtain ⟨j, hj, rfl, HBr⟩ := hrel
        by_cases hlt : j < KK.length
        · by_cases hjl : j < l.length
          · obtain ⟨e1, k1, he1, _, hl1, hc1⟩ := tok_cells (owns_below HO1.out HBr.out) hjl
            obtain ⟨h3, k3, he3, _, hl3, hc3⟩ := tok_cells (owns_below HO3.out HBr.out) hlt
            have hkk : KK[j] = l[j] := by
              have := HKl.out j hjl
              rw [List.getElem?_eq_getElem hlt] at this
              exact Option.some.inj this
            rw [hkk] at hc3
            cases he1
            cases he3
            have NS0 := nsame34 l[j]
            generalize l[j] = T at hc1 hc3 NS0
            obtain ⟨tk, ta, ts, tc, te, ⟨rs, rc, rr, ra, rb⟩⟩ := T
            have NS : ∀ W, (binOp .neq 34 (.agg #[.int .i64 tk, .int .i64 ta, .string (bs ts), .int .i64 tc, .int .i64 te, .string rs, .int .i64 rc, .int .i64 rr, .bool ra, .bool rb]) (.agg #[.int .i64 tk, .int .i64 ta, .string (bs ts), .int .i64 tc, .int .i64 te, .string rs, .int .i64 rc, .int .i64 rr, .bool ra, .bool rb])).run Tryz.prog W = .ok (.bool false) W := NS0
            clear NS0
            have HC3 : Hid (∀ (jj : Nat) u, (#[.int .i64 tk, .int .i64 ta, .string (bs ts), .int .i64 tc, .int .i64 te, .string rs, .int .i64 rc, .int .i64 rr, .bool ra, .bool rb] : Array Value).toList[jj]? = some u → wr.cell? ⟨h3, j * 10 + jj, none⟩ = some u) := hc3
            have hV : ∀ (jj : Nat) u, (#[.int .i64 tk, .int .i64 ta, .string (bs ts), .int .i64 tc, .int .i64 te, .string rs, .int .i64 rc, .int .i64 rr, .bool ra, .bool rb] : Array Value).toList[jj]? = some u → (wr.alloc (.cells #[.int .i64 0, .int .i64 0, .string ⟨#[]⟩, .int .i64 0, .int .i64 0, .string ⟨#[]⟩, .int .i64 0, .int .i64 0, .bool false, .bool false] 34)).cell? ⟨e1, j * 10 + jj, none⟩ = some u := fun jj u hu => Below.cell_alloc_lt hl1 (hc1 jj u hu)
            have x0 : (wr.alloc (.cells #[.int .i64 0, .int .i64 0, .string ⟨#[]⟩, .int .i64 0, .int .i64 0, .string ⟨#[]⟩, .int .i64 0, .int .i64 0, .bool false, .bool false] 34)).cell? ⟨e1, j * 10, none⟩ = some (.int .i64 tk) := hV 0 (.int .i64 tk) rfl
            have x1 : (wr.alloc (.cells #[.int .i64 0, .int .i64 0, .string ⟨#[]⟩, .int .i64 0, .int .i64 0, .string ⟨#[]⟩, .int .i64 0, .int .i64 0, .bool false, .bool false] 34)).cell? ⟨e1, j * 10 + 1, none⟩ = some (.int .i64 ta) := hV 1 (.int .i64 ta) rfl
            have x2 : (wr.alloc (.cells #[.int .i64 0, .int .i64 0, .string ⟨#[]⟩, .int .i64 0, .int .i64 0, .string ⟨#[]⟩, .int .i64 0, .int .i64 0, .bool false, .bool false] 34)).cell? ⟨e1, j * 10 + 2, none⟩ = some (.string (bs ts)) := hV 2 (.string (bs ts)) rfl
            have x3 : (wr.alloc (.cells #[.int .i64 0, .int .i64 0, .string ⟨#[]⟩, .int .i64 0, .int .i64 0, .string ⟨#[]⟩, .int .i64 0, .int .i64 0, .bool false, .bool false] 34)).cell? ⟨e1, j * 10 + 3, none⟩ = some (.int .i64 tc) := hV 3 (.int .i64 tc) rfl
            have x4 : (wr.alloc (.cells #[.int .i64 0, .int .i64 0, .string ⟨#[]⟩, .int .i64 0, .int .i64 0, .string ⟨#[]⟩, .int .i64 0, .int .i64 0, .bool false, .bool false] 34)).cell? ⟨e1, j * 10 + 4, none⟩ = some (.int .i64 te) := hV 4 (.int .i64 te) rfl
            have x5 : (wr.alloc (.cells #[.int .i64 0, .int .i64 0, .string ⟨#[]⟩, .int .i64 0, .int .i64 0, .string ⟨#[]⟩, .int .i64 0, .int .i64 0, .bool false, .bool false] 34)).cell? ⟨e1, j * 10 + 5, none⟩ = some (.string rs) := hV 5 (.string rs) rfl
            have x6 : (wr.alloc (.cells #[.int .i64 0, .int .i64 0, .string ⟨#[]⟩, .int .i64 0, .int .i64 0, .string ⟨#[]⟩, .int .i64 0, .int .i64 0, .bool false, .bool false] 34)).cell? ⟨e1, j * 10 + 6, none⟩ = some (.int .i64 rc) := hV 6 (.int .i64 rc) rfl
            have x7 : (wr.alloc (.cells #[.int .i64 0, .int .i64 0, .string ⟨#[]⟩, .int .i64 0, .int .i64 0, .string ⟨#[]⟩, .int .i64 0, .int .i64 0, .bool false, .bool false] 34)).cell? ⟨e1, j * 10 + 7, none⟩ = some (.int .i64 rr) := hV 7 (.int .i64 rr) rfl
            have x8 : (wr.alloc (.cells #[.int .i64 0, .int .i64 0, .string ⟨#[]⟩, .int .i64 0, .int .i64 0, .string ⟨#[]⟩, .int .i64 0, .int .i64 0, .bool false, .bool false] 34)).cell? ⟨e1, j * 10 + 8, none⟩ = some (.bool ra) := hV 8 (.bool ra) rfl
            have x9 : (wr.alloc (.cells #[.int .i64 0, .int .i64 0, .string ⟨#[]⟩, .int .i64 0, .int .i64 0, .string ⟨#[]⟩, .int .i64 0, .int .i64 0, .bool false, .bool false] 34)).cell? ⟨e1, j * 10 + 9, none⟩ = some (.bool rb) := hV 9 (.bool rb) rfl
            clear hV hc1 hc3 hkk
            have tj : (j : Int) < (l.length : Int) := by omega
            go_wp2_with fail
            have hS : Row (wr.alloc (.cells #[.int .i64 tk, .int .i64 ta, .string (bs ts), .int .i64 tc, .int .i64 te, .string rs, .int .i64 rc, .int .i64 rr, .bool ra, .bool rb] 34)).drew wr.heap.size 34 #[.int .i64 tk, .int .i64 ta, .string (bs ts), .int .i64 tc, .int .i64 te, .string rs, .int .i64 rc, .int .i64 rr, .bool ra, .bool rb] ∧ ∀ (jj : Nat) u, (#[.int .i64 tk, .int .i64 ta, .string (bs ts), .int .i64 tc, .int .i64 te, .string rs, .int .i64 rc, .int .i64 rr, .bool ra, .bool rb] : Array Value).toList[jj]? = some u → (wr.alloc (.cells #[.int .i64 tk, .int .i64 ta, .string (bs ts), .int .i64 tc, .int .i64 te, .string rs, .int .i64 rc, .int .i64 rr, .bool ra, .bool rb] 34)).drew.cell? ⟨h3, j * 10 + jj, none⟩ = some u := ⟨(Row.new wr 34 _).drewR2, fun jj u hu => (Below.cell_alloc_lt hl3 (HC3.out jj u hu))⟩
            have HBn : Hid (Below w4.heap.size w4 (wr.alloc (.cells #[.int .i64 tk, .int .i64 ta, .string (bs ts), .int .i64 tc, .int .i64 te, .string rs, .int .i64 rc, .int .i64 rr, .bool ra, .bool rb] 34)).drew) := (below_allocS HBr.out _).drew
            refine wp_region_M (fun W => Row W wr.heap.size 34 #[.int .i64 tk, .int .i64 ta, .string (bs ts), .int .i64 tc, .int .i64 te, .string rs, .int .i64 rc, .int .i64 rr, .bool ra, .bool rb] ∧ ∀ (jj : Nat) u, (#[.int .i64 tk, .int .i64 ta, .string (bs ts), .int .i64 tc, .int .i64 te, .string rs, .int .i64 rc, .int .i64 rr, .bool ra, .bool rb] : Array Value).toList[jj]? = some u → W.cell? ⟨h3, j * 10 + jj, none⟩ = some u) (fun _ => true) 6 rfl (by kernel_rfl) ?_
            generalize (wr.alloc (.cells #[.int .i64 tk, .int .i64 ta, .string (bs ts), .int .i64 tc, .int .i64 te, .string rs, .int .i64 rc, .int .i64 rr, .bool ra, .bool rb] 34)).drew = V at hS HBn ⊢
            refine wpM_held 4 (v := .agg #[.int .i64 tk, .int .i64 ta, .string (bs ts), .int .i64 tc, .int .i64 te, .string rs, .int .i64 rc, .int .i64 rr, .bool ra, .bool rb]) rfl (by kernel_rfl) (by kernel_rfl) rfl (fun _ _ _ h => h) rfl (by intro wx hx; obtain ⟨g0, g1, g2, g3, g4, g5, g6, g7, g8, g9⟩ := hx.1.ten; go_simp <;> rfl) hS ?_
            refine wpM_held 0 (v := .slice (some ⟨h3, 0, none⟩) KK.length c3) rfl (by kernel_rfl) (by kernel_rfl) rfl (fun _ _ _ h => h) rfl (by intro wx hx; go_simp <;> rfl) hS ?_
            refine wpM_held 1 (v := .int .i64 (j : Int)) rfl (by kernel_rfl) (by kernel_rfl) rfl (fun _ _ _ h => h) rfl (by intro wx hx; go_simp <;> rfl) hS ?_
            refine wpM_one 2 rfl (by kernel_rfl) rfl ?_
            go_wp2_with fail
            refine ⟨fun _ => hS, ?_⟩
            have y0 : V.cell? ⟨h3, j * 10, none⟩ = some (.int .i64 tk) := hS.2 0 (.int .i64 tk) rfl
            have y1 := hS.2 1 (.int .i64 ta) rfl
            have y2 := hS.2 2 (.string (bs ts)) rfl
            have y3 := hS.2 3 (.int .i64 tc) rfl
            have y4 := hS.2 4 (.int .i64 te) rfl
            have y5 := hS.2 5 (.string rs) rfl
            have y6 := hS.2 6 (.int .i64 rc) rfl
            have y7 := hS.2 7 (.int .i64 rr) rfl
            have y8 := hS.2 8 (.bool ra) rfl
            have y9 := hS.2 9 (.bool rb) rfl
            refine wpM_one 3 rfl (by kernel_rfl) rfl ?_
            go_wp2_with fail
            refine ⟨fun _ => hS, ?_⟩
            refine wpM_one 5 rfl (by kernel_rfl) rfl ?_
            go_wp2_with fail
            refine ⟨fun _ => hS, ?_⟩
            refine wpM_done (by kernel_rfl) ?_
            go_wp2
            go_roundw
            case rel => exact ⟨j + 1, by omega, by go_num, HBn⟩
            case measure => simp [intOf]; omega
          · obtain ⟨jm, hjm⟩ : ∃ jm, j - l.length = jm := ⟨_, rfl⟩
            have hjm2 : jm < m.length := by have := HKK.out; omega
            obtain ⟨e1, k1, he1, _, hl1, hc1⟩ := tok_cells (owns_below HO2.out HBr.out) hjm2
            obtain ⟨h3, k3, he3, _, hl3, hc3⟩ := tok_cells (owns_below HO3.out HBr.out) hlt
            have hkk : KK[j] = m[jm].sh (a.length + i) := by
              have := HKm.out jm hjm2
              rw [show l.length + jm = j by omega, List.getElem?_eq_getElem hlt] at this
              exact Option.some.inj this
            rw [hkk] at hc3
            have hat := HAt.out m[jm] (List.getElem_mem hjm2)
            cases he1
            cases he3
            have NS0 := nsame34 (m[jm].sh (a.length + i))
            generalize m[jm] = T at hc1 hc3 NS0 hat
            obtain ⟨tk, tz, ts, tc, te, ⟨rs, rc, rr, ra, rb⟩⟩ := T
            unfold Tk.sh at hc3 NS0
            simp only at hat
            obtain ⟨ta, hta⟩ : ∃ ta : Int, tz + ((a.length + i : Nat) : Int) = ta := ⟨_, rfl⟩
            rw [hta] at hc3 NS0
            have hta2 : tz + (X.size : Int) = ta := by rw [HKX.out]; exact hta
            have hta3 : 0 ≤ ta ∧ ta ≤ 2000 := by have := HSA.out; omega
            have NS : ∀ W, (binOp .neq 34 (.agg #[.int .i64 tk, .int .i64 ta, .string (bs ts), .int .i64 tc, .int .i64 te, .string rs, .int .i64 rc, .int .i64 rr, .bool ra, .bool rb]) (.agg #[.int .i64 tk, .int .i64 ta, .string (bs ts), .int .i64 tc, .int .i64 te, .string rs, .int .i64 rc, .int .i64 rr, .bool ra, .bool rb])).run Tryz.prog W = .ok (.bool false) W := NS0
            clear NS0
            have HC3 : Hid (∀ (jj : Nat) u, (#[.int .i64 tk, .int .i64 ta, .string (bs ts), .int .i64 tc, .int .i64 te, .string rs, .int .i64 rc, .int .i64 rr, .bool ra, .bool rb] : Array Value).toList[jj]? = some u → wr.cell? ⟨h3, j * 10 + jj, none⟩ = some u) := hc3
            have hV : ∀ (jj : Nat) u, (#[.int .i64 tk, .int .i64 tz, .string (bs ts), .int .i64 tc, .int .i64 te, .string rs, .int .i64 rc, .int .i64 rr, .bool ra, .bool rb] : Array Value).toList[jj]? = some u → (wr.alloc (.cells #[.int .i64 0, .int .i64 0, .string ⟨#[]⟩, .int .i64 0, .int .i64 0, .string ⟨#[]⟩, .int .i64 0, .int .i64 0, .bool false, .bool false] 34)).cell? ⟨e1, jm * 10 + jj, none⟩ = some u := fun jj u hu => Below.cell_alloc_lt hl1 (hc1 jj u hu)
            have x0 : (wr.alloc (.cells #[.int .i64 0, .int .i64 0, .string ⟨#[]⟩, .int .i64 0, .int .i64 0, .string ⟨#[]⟩, .int .i64 0, .int .i64 0, .bool false, .bool false] 34)).cell? ⟨e1, jm * 10, none⟩ = some (.int .i64 tk) := hV 0 (.int .i64 tk) rfl
            have x1 : (wr.alloc (.cells #[.int .i64 0, .int .i64 0, .string ⟨#[]⟩, .int .i64 0, .int .i64 0, .string ⟨#[]⟩, .int .i64 0, .int .i64 0, .bool false, .bool false] 34)).cell? ⟨e1, jm * 10 + 1, none⟩ = some (.int .i64 tz) := hV 1 (.int .i64 tz) rfl
            have x2 : (wr.alloc (.cells #[.int .i64 0, .int .i64 0, .string ⟨#[]⟩, .int .i64 0, .int .i64 0, .string ⟨#[]⟩, .int .i64 0, .int .i64 0, .bool false, .bool false] 34)).cell? ⟨e1, jm * 10 + 2, none⟩ = some (.string (bs ts)) := hV 2 (.string (bs ts)) rfl
            have x3 : (wr.alloc (.cells #[.int .i64 0, .int .i64 0, .string ⟨#[]⟩, .int .i64 0, .int .i64 0, .string ⟨#[]⟩, .int .i64 0, .int .i64 0, .bool false, .bool false] 34)).cell? ⟨e1, jm * 10 + 3, none⟩ = some (.int .i64 tc) := hV 3 (.int .i64 tc) rfl
            have x4 : (wr.alloc (.cells #[.int .i64 0, .int .i64 0, .string ⟨#[]⟩, .int .i64 0, .int .i64 0, .string ⟨#[]⟩, .int .i64 0, .int .i64 0, .bool false, .bool false] 34)).cell? ⟨e1, jm * 10 + 4, none⟩ = some (.int .i64 te) := hV 4 (.int .i64 te) rfl
            have x5 : (wr.alloc (.cells #[.int .i64 0, .int .i64 0, .string ⟨#[]⟩, .int .i64 0, .int .i64 0, .string ⟨#[]⟩, .int .i64 0, .int .i64 0, .bool false, .bool false] 34)).cell? ⟨e1, jm * 10 + 5, none⟩ = some (.string rs) := hV 5 (.string rs) rfl
            have x6 : (wr.alloc (.cells #[.int .i64 0, .int .i64 0, .string ⟨#[]⟩, .int .i64 0, .int .i64 0, .string ⟨#[]⟩, .int .i64 0, .int .i64 0, .bool false, .bool false] 34)).cell? ⟨e1, jm * 10 + 6, none⟩ = some (.int .i64 rc) := hV 6 (.int .i64 rc) rfl
            have x7 : (wr.alloc (.cells #[.int .i64 0, .int .i64 0, .string ⟨#[]⟩, .int .i64 0, .int .i64 0, .string ⟨#[]⟩, .int .i64 0, .int .i64 0, .bool false, .bool false] 34)).cell? ⟨e1, jm * 10 + 7, none⟩ = some (.int .i64 rr) := hV 7 (.int .i64 rr) rfl
            have x8 : (wr.alloc (.cells #[.int .i64 0, .int .i64 0, .string ⟨#[]⟩, .int .i64 0, .int .i64 0, .string ⟨#[]⟩, .int .i64 0, .int .i64 0, .bool false, .bool false] 34)).cell? ⟨e1, jm * 10 + 8, none⟩ = some (.bool ra) := hV 8 (.bool ra) rfl
            have x9 : (wr.alloc (.cells #[.int .i64 0, .int .i64 0, .string ⟨#[]⟩, .int .i64 0, .int .i64 0, .string ⟨#[]⟩, .int .i64 0, .int .i64 0, .bool false, .bool false] 34)).cell? ⟨e1, jm * 10 + 9, none⟩ = some (.bool rb) := hV 9 (.bool rb) rfl
            clear hV hc1 hc3 hkk
            have tj : decide ((j : Int) < (l.length : Int)) = false := decide_eq_false (by omega)
            have hjs : (j : Int) - (l.length : Int) = (jm : Int) := by omega
            have tjm : (jm : Int) < (m.length : Int) := by omega
            go_wp2_with fail
            have hS : Row (wr.alloc (.cells #[.int .i64 tk, .int .i64 ta, .string (bs ts), .int .i64 tc, .int .i64 te, .string rs, .int .i64 rc, .int .i64 rr, .bool ra, .bool rb] 34)).drew wr.heap.size 34 #[.int .i64 tk, .int .i64 ta, .string (bs ts), .int .i64 tc, .int .i64 te, .string rs, .int .i64 rc, .int .i64 rr, .bool ra, .bool rb] ∧ ∀ (jj : Nat) u, (#[.int .i64 tk, .int .i64 ta, .string (bs ts), .int .i64 tc, .int .i64 te, .string rs, .int .i64 rc, .int .i64 rr, .bool ra, .bool rb] : Array Value).toList[jj]? = some u → (wr.alloc (.cells #[.int .i64 tk, .int .i64 ta, .string (bs ts), .int .i64 tc, .int .i64 te, .string rs, .int .i64 rc, .int .i64 rr, .bool ra, .bool rb] 34)).drew.cell? ⟨h3, j * 10 + jj, none⟩ = some u := ⟨(Row.new wr 34 _).drewR2, fun jj u hu => (Below.cell_alloc_lt hl3 (HC3.out jj u hu))⟩
            have HBn : Hid (Below w4.heap.size w4 (wr.alloc (.cells #[.int .i64 tk, .int .i64 ta, .string (bs ts), .int .i64 tc, .int .i64 te, .string rs, .int .i64 rc, .int .i64 rr, .bool ra, .bool rb] 34)).drew) := (below_allocS HBr.out _).drew
            refine wp_region_M (fun W => Row W wr.heap.size 34 #[.int .i64 tk, .int .i64 ta, .string (bs ts), .int .i64 tc, .int .i64 te, .string rs, .int .i64 rc, .int .i64 rr, .bool ra, .bool rb] ∧ ∀ (jj : Nat) u, (#[.int .i64 tk, .int .i64 ta, .string (bs ts), .int .i64 tc, .int .i64 te, .string rs, .int .i64 rc, .int .i64 rr, .bool ra, .bool rb] : Array Value).toList[jj]? = some u → W.cell? ⟨h3, j * 10 + jj, none⟩ = some u) (fun _ => true) 6 rfl (by kernel_rfl) ?_
            generalize (wr.alloc (.cells #[.int .i64 tk, .int .i64 ta, .string (bs ts), .int .i64 tc, .int .i64 te, .string rs, .int .i64 rc, .int .i64 rr, .bool ra, .bool rb] 34)).drew = V at hS HBn ⊢
            refine wpM_held 4 (v := .agg #[.int .i64 tk, .int .i64 ta, .string (bs ts), .int .i64 tc, .int .i64 te, .string rs, .int .i64 rc, .int .i64 rr, .bool ra, .bool rb]) rfl (by kernel_rfl) (by kernel_rfl) rfl (fun _ _ _ h => h) rfl (by intro wx hx; obtain ⟨g0, g1, g2, g3, g4, g5, g6, g7, g8, g9⟩ := hx.1.ten; go_simp <;> rfl) hS ?_
            refine wpM_held 0 (v := .slice (some ⟨h3, 0, none⟩) KK.length c3) rfl (by kernel_rfl) (by kernel_rfl) rfl (fun _ _ _ h => h) rfl (by intro wx hx; go_simp <;> rfl) hS ?_
            refine wpM_held 1 (v := .int .i64 (j : Int)) rfl (by kernel_rfl) (by kernel_rfl) rfl (fun _ _ _ h => h) rfl (by intro wx hx; go_simp <;> rfl) hS ?_
            refine wpM_one 2 rfl (by kernel_rfl) rfl ?_
            go_wp2_with fail
            refine ⟨fun _ => hS, ?_⟩
            have y0 : V.cell? ⟨h3, j * 10, none⟩ = some (.int .i64 tk) := hS.2 0 (.int .i64 tk) rfl
            have y1 := hS.2 1 (.int .i64 ta) rfl
            have y2 := hS.2 2 (.string (bs ts)) rfl
            have y3 := hS.2 3 (.int .i64 tc) rfl
            have y4 := hS.2 4 (.int .i64 te) rfl
            have y5 := hS.2 5 (.string rs) rfl
            have y6 := hS.2 6 (.int .i64 rc) rfl
            have y7 := hS.2 7 (.int .i64 rr) rfl
            have y8 := hS.2 8 (.bool ra) rfl
            have y9 := hS.2 9 (.bool rb) rfl
            refine wpM_one 3 rfl (by kernel_rfl) rfl ?_
            go_wp2_with fail
            refine ⟨fun _ => hS, ?_⟩
            refine wpM_one 5 rfl (by kernel_rfl) rfl ?_
            go_wp2_with fail
            refine ⟨fun _ => hS, ?_⟩
            refine wpM_done (by kernel_rfl) ?_
            go_wp2
            go_roundw
            case rel => exact ⟨j + 1, by omega, by go_num, HBn⟩
            case measure => simp [intOf]; omega
        · obtain rfl : j = KK.length := by omega
          have HBf : Hid (Below w.heap.size w wr) := HB4.out.trans (HBr.out.mono HB4.out.size)
          go_wp2
          go_ret
          exact ⟨rfl, HBf.out⟩
end Go.Proofs.YtgihginfegckcaaGreatDoor
