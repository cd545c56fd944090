import Derived.Test.YtgihginfegckcaaGreatDoorMqoM
import Derived.Test.YtgihginfegckcaaGreatDoorMqoM
import Derived.BigQuiet
/- LexTokens and LexWords, walked. -/
namespace Go.Proofs.YtgihginfegckcaaGreatDoor
open Go.RowKit

theorem stood30x : Tryz.prog.stoodInHeld 30 = false := by kernel_rfl
theorem stood32x : Tryz.prog.stoodInHeld 32 = false := by kernel_rfl
theorem fields30x : Tryz.prog.underlying 30 = some (.struct (Tryz.prog.fieldsOf 30)) := by kernel_rfl
theorem fields32x : Tryz.prog.underlying 32 = some (.struct (Tryz.prog.fieldsOf 32)) := by kernel_rfl
set_option maxRecDepth 100000 in
theorem same30x (a b : Int) (W : World) : (binOp .eql 30 (.agg #[.int .i64 a, .int .i64 b]) (.agg #[.int .i64 a, .int .i64 b])).run Tryz.prog W = .ok (.bool true) W := by
  rw [run_eql_struct, run_equalIn_agg _ _ _ _ _ fields30x stood30x]
  have h : (Op.eqFields 9999 #[.int .i64 a, .int .i64 b] #[.int .i64 a, .int .i64 b] (Tryz.prog.fieldsOf 30).toList).run Tryz.prog W = .ok true W := by
    go_simp
  rw [h]
  rfl
theorem nsame30x (a b : Int) (W : World) : (binOp .neq 30 (.agg #[.int .i64 a, .int .i64 b]) (.agg #[.int .i64 a, .int .i64 b])).run Tryz.prog W = .ok (.bool false) W := by
  have h := same30x a b W
  rw [run_eql_struct] at h
  rw [run_neq_struct]
  generalize (Op.equalIn 10000 30 (.agg #[.int .i64 a, .int .i64 b]) (.agg #[.int .i64 a, .int .i64 b])).run Tryz.prog W = q at h ⊢
  cases q with
  | ok v w' =>
    simp [Result.andThen] at h ⊢
    exact ⟨h.1, h.2⟩
  | halt x w' => simp [Result.andThen] at h
set_option maxRecDepth 100000 in
theorem same32x (rs : ByteArray) (rc rr : Int) (ra rb : Bool) (W : World) : (binOp .eql 32 (.agg #[.string rs, .int .i64 rc, .int .i64 rr, .bool ra, .bool rb]) (.agg #[.string rs, .int .i64 rc, .int .i64 rr, .bool ra, .bool rb])).run Tryz.prog W = .ok (.bool true) W := by
  rw [run_eql_struct, run_equalIn_agg _ _ _ _ _ fields32x stood32x]
  have h : (Op.eqFields 9999 #[.string rs, .int .i64 rc, .int .i64 rr, .bool ra, .bool rb] #[.string rs, .int .i64 rc, .int .i64 rr, .bool ra, .bool rb] (Tryz.prog.fieldsOf 32).toList).run Tryz.prog W = .ok true W := by
    go_simp
  rw [h]
  rfl
theorem nsame32x (rs : ByteArray) (rc rr : Int) (ra rb : Bool) (W : World) : (binOp .neq 32 (.agg #[.string rs, .int .i64 rc, .int .i64 rr, .bool ra, .bool rb]) (.agg #[.string rs, .int .i64 rc, .int .i64 rr, .bool ra, .bool rb])).run Tryz.prog W = .ok (.bool false) W := by
  have h := same32x rs rc rr ra rb W
  rw [run_eql_struct] at h
  rw [run_neq_struct]
  generalize (Op.equalIn 10000 32 (.agg #[.string rs, .int .i64 rc, .int .i64 rr, .bool ra, .bool rb]) (.agg #[.string rs, .int .i64 rc, .int .i64 rr, .bool ra, .bool rb])).run Tryz.prog W = q at h ⊢
  cases q with
  | ok v w' =>
    simp [Result.andThen] at h ⊢
    exact ⟨h.1, h.2⟩
  | halt x w' => simp [Result.andThen] at h
theorem tokD_cells {W : World} {base : Nat} {v : Value} {ts : List Tk} (h : W.ownsRow base 35 10 v ts.length (tcs ts)) {i : Nat} (hi : i < ts.length) : ∃ g cap, v = .slice (some ⟨g, 0, none⟩) ts.length cap ∧ g < W.heap.size ∧ ∀ (j : Nat) u, ts[i].cells.toList[j]? = some u → W.cell? ⟨g, i * 10 + j, none⟩ = some u := by
  obtain ⟨g, cap, rfl, hc⟩ := ownsD_cells h (by omega)
  have hl := h.lt g rfl
  refine ⟨g, cap, rfl, hl.2, fun j u hu => hc _ _ ?_⟩
  have hj : j < 10 := by
    have := (List.getElem?_eq_some_iff.1 hu).1
    simpa [Tk.cells] using this
  have hs : ts = ts.take i ++ ts[i] :: ts.drop (i + 1) := by rw [← List.drop_eq_getElem_cons hi, List.take_append_drop]
  have ht : tcs ts = tcs (ts.take i) ++ (ts[i].cells.toList ++ tcs (ts.drop (i + 1))) := by
    conv => lhs; rw [hs]
    unfold tcs
    rw [List.flatMap_append, List.flatMap_cons]
  have hlen : (tcs (ts.take i)).length = i * 10 := by rw [tcs_len, List.length_take, Nat.min_eq_left (by omega)]
  rw [ht, List.getElem?_append_right (by omega), hlen, show i * 10 + j - i * 10 = j by omega, List.getElem?_append_left (by simpa [Tk.cells] using hj)]
  exact hu
theorem tokL_cells {W : World} {base : Nat} {v : Value} {ts : List Tk} (h : W.ownsRow base 34 10 v ts.length (tcs ts)) {i : Nat} (hi : i < ts.length) : ∃ g cap, v = .slice (some ⟨g, 0, none⟩) ts.length cap ∧ g < W.heap.size ∧ ∀ (j : Nat) u, ts[i].cells.toList[j]? = some u → W.cell? ⟨g, i * 10 + j, none⟩ = some u := by
  obtain ⟨g, cap, rfl, hc⟩ := owns_cells h (by omega)
  have hl := h.lt g rfl
  refine ⟨g, cap, rfl, hl.2, fun j u hu => hc _ _ ?_⟩
  have hj : j < 10 := by
    have := (List.getElem?_eq_some_iff.1 hu).1
    simpa [Tk.cells] using this
  have hs : ts = ts.take i ++ ts[i] :: ts.drop (i + 1) := by rw [← List.drop_eq_getElem_cons hi, List.take_append_drop]
  have ht : tcs ts = tcs (ts.take i) ++ (ts[i].cells.toList ++ tcs (ts.drop (i + 1))) := by
    conv => lhs; rw [hs]
    unfold tcs
    rw [List.flatMap_append, List.flatMap_cons]
  have hlen : (tcs (ts.take i)).length = i * 10 := by rw [tcs_len, List.length_take, Nat.min_eq_left (by omega)]
  rw [ht, List.getElem?_append_right (by omega), hlen, show i * 10 + j - i * 10 = j by omega, List.getElem?_append_left (by simpa [Tk.cells] using hj)]
  exact hu
theorem lexG_len : ∀ (f : Nat) (l : List UInt8) (p : Nat) (acc : List Tk), (lexG f l p acc).1.length ≤ acc.length + l.length
  | 0, l, p, acc => by rw [lexG]; simp
  | f + 1, [], p, acc => by rw [lexG]; simp
  | f + 1, a :: r, p, acc => by
    by_cases h : a = 32
    · rw [lexG_blank h]
      have := lexG_len f r (p + 1) acc
      simp only [List.length_cons]; omega
    · by_cases h0 : (oneR (a :: r)).2.2 = 0
      · rw [lexG_tok h h0]
        have h1 := oneR_adv h0
        have h2 := lexG_len f ((a :: r).drop (oneR (a :: r)).2.1) (p + (oneR (a :: r)).2.1) (acc ++ [(oneR (a :: r)).1.put p])
        simp only [List.length_append, List.length_drop, List.length_cons, List.length_nil] at h1 h2 ⊢
        omega
      · rw [lexG_err h h0]; simp
theorem lexR_len (l : List UInt8) : (lexR l).1.length ≤ 512 := by
  unfold lexR
  split
  · simp
  · have := lexG_len (l.length + 1) l 0 []
    simp only [List.length_nil] at this
    omega
set_option maxRecDepth 100000 in
set_option maxHeartbeats 4000000 in
theorem tokens_raw (s : List UInt8) (KK : List Tk) (p : Nat) (er : Int) (hK : KK.length ≤ 512) (w : World) (hE : LexE w)
    (h1 : ∀ W, LexE W → Hid (Calls Tryz.prog 7 #[.string (bs s)] W (LexPost W (KK, p, er))))
    (h2 : ∀ W, Hid (Calls Tryz.prog 8 #[.string (bs s)] W (LexPd W (KK, p, er))))
    (h5 : ∀ W, LexE W → Hid (Calls Tryz.prog 9 #[] W fun e w' => e = .returned (.bool true) ∧ Below W.heap.size W w')) :
    Calls Tryz.prog 3 #[.string (bs s)] w fun e w' => e = .returned (.bool true) ∧ Below w.heap.size w w' := by
  have HE : Hid (LexE w) := hE
  clear hE
  go_enter Tryz.func3, Tryz.ntmps3
  go_wp2_with fail
  refine Calls.mono (h1 _ HE.out).out ?_
  rintro _ w1 ⟨⟨v1, rfl, o1⟩, b1⟩
  clear h1
  go_wp2_with fail
  refine Calls.mono (h2 _).out ?_
  rintro _ w2 ⟨⟨v2, rfl, o2⟩, b2⟩
  clear h2
  simp only at o1 o2
  have HO1 : Hid (w2.ownsRow w.heap.size 34 10 v1 KK.length (tcs KK)) := owns_below o1 b2
  have HO2 : Hid (w2.ownsRow w1.heap.size 35 10 v2 KK.length (tcs KK)) := o2
  have HB2 : Hid (Below w.heap.size w w2) := b1.trans (b2.mono b1.size)
  obtain ⟨g1, c1, rfl⟩ := owns_form HO1.out
  obtain ⟨g2, c2, rfl⟩ := owns_form HO2.out
  clear o1 o2 b1 b2
  have np : ((p : Int) != (p : Int)) = false := by simp
  have ne : (er != er) = false := by simp
  have nk : ((KK.length : Int) != (KK.length : Int)) = false := by simp
  go_wp2_with fail
  go_loopw [9] (fun v9 wr => ∃ j : Nat, j ≤ KK.length ∧ v9 = .int .i64 (j : Int) ∧ Hid (Below w2.heap.size w2 wr)) (fun v9 _ => KK.length - (intOf v9).toNat)
  case atStart => exact ⟨0, Nat.zero_le _, rfl, Below.refl _ _⟩
  case round =>
    obtain ⟨j, hj, rfl, HBr⟩ := hrel
    by_cases hlt : j < KK.length
    · obtain ⟨e1, k1, he1, hl1, hc1⟩ := tokL_cells (owns_below HO1.out HBr.out) hlt
      obtain ⟨h3, k3, he3, hl3, hc3⟩ := tokD_cells (owns_below HO2.out HBr.out) hlt
      cases he1
      cases he3
      have HDN : Hid (∀ q, Below w2.heap.size w2 (wr.drewN q)) := fun q => below_drewN HBr.out q
      generalize KK[j] = T at hc1 hc3
      obtain ⟨tk, ta, ts, tc, te, ⟨rs, rc, rr, ra, rb⟩⟩ := T
      have N30 := fun W => nsame30x tc te W
      have N32 := fun W => nsame32x rs rc rr ra rb W
      have n0 : (tk != tk) = false := by simp
      have n1 : (ta != ta) = false := by simp
      have n2 : ((bs ts).toList != (bs ts).toList) = false := by simp
      have x0 : wr.cell? ⟨e1, j * 10, none⟩ = some (.int .i64 tk) := hc1 0 (.int .i64 tk) rfl
      have x1 : wr.cell? ⟨e1, j * 10 + 1, none⟩ = some (.int .i64 ta) := hc1 1 (.int .i64 ta) rfl
      have x2 : wr.cell? ⟨e1, j * 10 + 2, none⟩ = some (.string (bs ts)) := hc1 2 (.string (bs ts)) rfl
      have x3 : wr.cell? ⟨e1, j * 10 + 3, none⟩ = some (.int .i64 tc) := hc1 3 (.int .i64 tc) rfl
      have x4 : wr.cell? ⟨e1, j * 10 + 4, none⟩ = some (.int .i64 te) := hc1 4 (.int .i64 te) rfl
      have x5 : wr.cell? ⟨e1, j * 10 + 5, none⟩ = some (.string rs) := hc1 5 (.string rs) rfl
      have x6 : wr.cell? ⟨e1, j * 10 + 6, none⟩ = some (.int .i64 rc) := hc1 6 (.int .i64 rc) rfl
      have x7 : wr.cell? ⟨e1, j * 10 + 7, none⟩ = some (.int .i64 rr) := hc1 7 (.int .i64 rr) rfl
      have x8 : wr.cell? ⟨e1, j * 10 + 8, none⟩ = some (.bool ra) := hc1 8 (.bool ra) rfl
      have x9 : wr.cell? ⟨e1, j * 10 + 9, none⟩ = some (.bool rb) := hc1 9 (.bool rb) rfl
      have y0 : wr.cell? ⟨h3, j * 10, none⟩ = some (.int .i64 tk) := hc3 0 (.int .i64 tk) rfl
      have y1 : wr.cell? ⟨h3, j * 10 + 1, none⟩ = some (.int .i64 ta) := hc3 1 (.int .i64 ta) rfl
      have y2 : wr.cell? ⟨h3, j * 10 + 2, none⟩ = some (.string (bs ts)) := hc3 2 (.string (bs ts)) rfl
      have y3 : wr.cell? ⟨h3, j * 10 + 3, none⟩ = some (.int .i64 tc) := hc3 3 (.int .i64 tc) rfl
      have y4 : wr.cell? ⟨h3, j * 10 + 4, none⟩ = some (.int .i64 te) := hc3 4 (.int .i64 te) rfl
      have y5 : wr.cell? ⟨h3, j * 10 + 5, none⟩ = some (.string rs) := hc3 5 (.string rs) rfl
      have y6 : wr.cell? ⟨h3, j * 10 + 6, none⟩ = some (.int .i64 rc) := hc3 6 (.int .i64 rc) rfl
      have y7 : wr.cell? ⟨h3, j * 10 + 7, none⟩ = some (.int .i64 rr) := hc3 7 (.int .i64 rr) rfl
      have y8 : wr.cell? ⟨h3, j * 10 + 8, none⟩ = some (.bool ra) := hc3 8 (.bool ra) rfl
      have y9 : wr.cell? ⟨h3, j * 10 + 9, none⟩ = some (.bool rb) := hc3 9 (.bool rb) rfl
      clear hc1 hc3
      have tj : (j : Int) < (KK.length : Int) := by omega
      go_upto_region 8 with fail
      go_quiet (fail)
      go_wp2
      go_roundw
      case rel => exact ⟨j + 1, by omega, by go_num, HDN.out _⟩
      case measure => simp [intOf]; omega
    · have HB3 : Hid (Below w.heap.size w wr) := HB2.out.trans (HBr.out.mono HB2.out.size)
      have HE3 : LexE wr := HE.out.below HB3.out
      have HE4 : Hid (LexE wr) := HE3
      clear HE3
      obtain rfl : j = KK.length := by omega
      go_wp2_with fail
      refine Calls.mono (h5 _ HE4.out).out ?_
      rintro _ w4 ⟨rfl, b4⟩
      have HB5 : Hid (Below w.heap.size w w4) := HB3.out.trans (b4.mono HB3.out.size)
      clear b4
      go_wp2
      go_ret
      exact ⟨rfl, HB5.out⟩
theorem tokens_any (s : List UInt8) (w : World) (hE : LexE w) : Calls Tryz.prog 3 #[.string (bs s)] w fun e w' => e = .returned (.bool true) ∧ Below w.heap.size w w' :=
  tokens_raw s (lexR s).1 (lexR s).2.1 (lexR s).2.2 (lexR_len s) w hE (fun W hW => lex_any s W hW) (fun W => lexd_any s W) (fun W hW => alive_any W hW)
set_option maxRecDepth 100000 in
set_option maxHeartbeats 4000000 in
theorem words_any (s : List UInt8) (hs : s.length ≤ 1048576) (w : World) (hE : LexE w) : Calls Tryz.prog 4 #[.string (bs s)] w fun e w' => e = .returned (.bool true) ∧ Below w.heap.size w w' := by
  have h1 : ∀ W, LexE W → Hid (Calls Tryz.prog 10 #[.string (bs s)] W fun e w' => e = .returned (.bool (wordB s)) ∧ Below W.heap.size W w') := fun W hW => word_any s W hW
  have h2 : ∀ W, Hid (Calls Tryz.prog 11 #[.string (bs s)] W fun e w' => e = .returned (.bool (wordB s)) ∧ Below W.heap.size W w') := fun W => wordD_any s W
  have h3 : ∀ W, LexE W → Hid (Calls Tryz.prog 12 #[.string (bs s)] W fun e w' => e = .returned (.string (bs (quoteQ s))) ∧ Below W.heap.size W w') := fun W hW => quote_any s hs W hW
  have h4 : ∀ W, Hid (Calls Tryz.prog 13 #[.string (bs s)] W fun e w' => e = .returned (.string (bs (quoteQ s))) ∧ Below W.heap.size W w') := fun W => quoteD_any s hs W
  have h5 : ∀ W, LexE W → Hid (Calls Tryz.prog 9 #[] W fun e w' => e = .returned (.bool true) ∧ Below W.heap.size W w') := fun W hW => alive_any W hW
  generalize wordB s = b at h1 h2
  generalize quoteQ s = Q at h3 h4
  have HE : Hid (LexE w) := hE
  have nb : (b == b) = true := by simp
  have nq : ((bs Q).toList == (bs Q).toList) = true := by simp
  clear hE hs
  go_enter Tryz.func4, Tryz.ntmps4
  go_wp2_with fail
  refine Calls.mono (h1 _ HE.out).out ?_
  rintro _ w1 ⟨rfl, b1⟩
  go_wp2_with fail
  refine Calls.mono (h2 _).out ?_
  rintro _ w2 ⟨rfl, b2⟩
  have B2 := b1.trans (b2.mono b1.size)
  clear b1 b2
  go_wp2_with fail
  refine Calls.mono (h3 _ (HE.out.below B2)).out ?_
  rintro _ w3 ⟨rfl, b3⟩
  have B3 := B2.trans (b3.mono B2.size)
  clear b3 B2
  go_wp2_with fail
  refine Calls.mono (h4 _).out ?_
  rintro _ w4 ⟨rfl, b4⟩
  have B4 := B3.trans (b4.mono B3.size)
  clear b4 B3
  go_wp2_with fail
  refine Calls.mono (h5 _ (HE.out.below B4)).out ?_
  rintro _ w5 ⟨rfl, b5⟩
  have B5 := B4.trans (b5.mono B4.size)
  clear b5 B4
  go_wp2
  go_ret
  exact ⟨rfl, B5⟩
end Go.Proofs.YtgihginfegckcaaGreatDoor
