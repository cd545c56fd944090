import Derived.Test.YtgihginfegckcaaGreatDoorDpaM
import Derived.Test.YtgihginfegckcaaGreatDoorOrdM
import Derived.Deep.CutBlock
import Derived.Deep.DeepCutAuto
import Derived.WalkMore
import Derived.Lib.CountLaws
import Derived.Lib.ReplaceLaws
/- lex's Lex: a round's token. -/
namespace Go.Proofs.YtgihginfegckcaaGreatDoor
open Go.RowKit

def tcs (ts : List Tk) : List Value := ts.flatMap (fun t => t.cells.toList)
theorem tcs_len (ts : List Tk) : (tcs ts).length = ts.length * 10 := by
  induction ts with
  | nil => rfl
  | cons t r ih => unfold tcs at *; rw [List.flatMap_cons, List.length_append, ih]; simp [Tk.cells]; omega
theorem Row.drewR2 {W : World} {B : Nat} {t : TypeId} {cs : Array Value} (h : Row W B t cs) : Row W.drew B t cs := h
theorem tcs_snoc (ts : List Tk) (t : Tk) : tcs (ts ++ [t]) = tcs ts ++ t.cells.toList := by unfold tcs; simp
theorem lexG_blank {f : Nat} {a : UInt8} {r : List UInt8} {p : Nat} {acc : List Tk} (h : a = 32) : lexG (f + 1) (a :: r) p acc = lexG f r (p + 1) acc := by
  rw [lexG]; rw [if_pos h]
theorem lexG_tok {f : Nat} {a : UInt8} {r : List UInt8} {p : Nat} {acc : List Tk} (h : a ≠ 32) (h0 : (oneR (a :: r)).2.2 = 0) : lexG (f + 1) (a :: r) p acc = lexG f ((a :: r).drop (oneR (a :: r)).2.1) (p + (oneR (a :: r)).2.1) (acc ++ [(oneR (a :: r)).1.put p]) := by
  rw [lexG]; rw [if_neg h, if_pos h0]
theorem lexG_err {f : Nat} {a : UInt8} {r : List UInt8} {p : Nat} {acc : List Tk} (h : a ≠ 32) (h0 : (oneR (a :: r)).2.2 ≠ 0) : lexG (f + 1) (a :: r) p acc = ([], p, (oneR (a :: r)).2.2) := by
  rw [lexG]; rw [if_neg h, if_neg h0]
/-- What the calls of a round answer, for a text that begins with y. -/
structure OneC (y : UInt8) (R : List UInt8) (t : Tk) (n : Nat) (er : Int) (d1 d2 b5 : Bool) : Prop where
  dig : digL.contains y = d1
  bgn : bgnL.contains y = d2
  num : d1 = true → ∀ W, LexE W → Calls Tryz.prog 15 #[.string (bs R)] W fun e w' => e = tokR t n er ∧ Below W.heap.size W w'
  txt : d1 = false → y = 34 → ∀ W, LexE W → Calls Tryz.prog 16 #[.string (bs R)] W fun e w' => e = tokR t n er ∧ Below W.heap.size W w'
  sht : d1 = false → y = 39 → ∀ W, LexE W → Calls Tryz.prog 17 #[.string (bs R), .int .i64 ((quotedN R : Nat) : Int)] W fun e w' => e = tokR t n er ∧ Below W.heap.size W w'
  run : d1 = false → y ≠ 34 → y ≠ 39 → d2 = true → ∀ W, LexE W → Calls Tryz.prog 19 #[.string (bs R)] W fun e w' => e = tokR t n er ∧ Below W.heap.size W w'
  lost : Lib.hasPrefix R lostL = b5
  bad : d1 = false → y ≠ 34 → y ≠ 39 → d2 = false → b5 = true → t = ⟨6, 0, [], 0, 0, Rf.zero⟩ ∧ n = 5 ∧ er = 0
  mrk : d1 = false → y ≠ 34 → y ≠ 39 → d2 = false → b5 = false → ∀ W, LexE W → Calls Tryz.prog 21 #[.string (bs R)] W fun e w' => e = tokR t n er ∧ Below W.heap.size W w'
theorem oneC_of (y : UInt8) (r : List UInt8) (hl : (y :: r).length ≤ 1000000) : OneC y (y :: r) (oneR (y :: r)).1 (oneR (y :: r)).2.1 (oneR (y :: r)).2.2 (digL.contains y) (bgnL.contains y) (Lib.hasPrefix (y :: r) lostL) := by
  refine ⟨rfl, rfl, ?_, ?_, ?_, ?_, rfl, ?_, ?_⟩
  · intro h W _
    have e : oneR (y :: r) = numberR (y :: r) := by unfold oneR; simp only; rw [if_pos h]
    rw [e]
    exact number_any (y :: r) (by omega) W
  · intro h h2 W hW
    have e : oneR (y :: r) = textR (y :: r) := by unfold oneR; simp only [h, Bool.false_eq_true, if_false]; rw [if_pos h2]
    rw [e]
    exact text_any y r hl W hW
  · intro h h3 W _
    have e : oneR (y :: r) = onSheetR (y :: r) (quotedN (y :: r)) := by unfold oneR; simp only [h, Bool.false_eq_true, if_false]; rw [if_neg (by rw [h3]; decide), if_pos h3]
    rw [e]
    exact onSheet_any (y :: r) _ (by rcases quotedN_bd (y :: r) with e | e <;> omega) hl W
  · intro h h2 h3 h4 W _
    have e : oneR (y :: r) = runR (y :: r) := by unfold oneR; simp only [h, Bool.false_eq_true, if_false]; rw [if_neg h2, if_neg h3, if_pos h4]
    rw [e]
    exact run_any (y :: r) hl W
  · intro h h2 h3 h4 h5
    have e : oneR (y :: r) = (⟨6, 0, [], 0, 0, Rf.zero⟩, 5, 0) := by unfold oneR; simp only [h, Bool.false_eq_true, if_false]; rw [if_neg h2, if_neg h3]; simp only [h4, Bool.false_eq_true, if_false]; rw [if_pos h5]
    rw [e]
    exact ⟨rfl, rfl, rfl⟩
  · intro h h2 h3 h4 h5 W hW
    have e : oneR (y :: r) = (match markR (y :: r) with | some m => ((⟨5, 0, m, 0, 0, Rf.zero⟩ : Tk), m.length, (0 : Int)) | none => (Tk.zero, 0, 40)) := by unfold oneR; simp only [h, Bool.false_eq_true, if_false]; rw [if_neg h2, if_neg h3]; simp only [h4, h5, Bool.false_eq_true, if_false]; rfl
    have hm := mark_any (y :: r) W hW.marks
    rw [e]
    cases hq : markR (y :: r) with
    | none => rw [hq] at hm; exact hm
    | some m => rw [hq] at hm; exact hm
end Go.Proofs.YtgihginfegckcaaGreatDoor
/- lex's Lex, walked. -/
namespace Go.Proofs.YtgihginfegckcaaGreatDoor
open Go.RowKit

theorem owns_below {w w' : World} {base : Nat} {e : TypeId} {size : Nat} {v : Value} {n : Nat} {xs : List Value} (h : w.ownsRow base e size v n xs) (hb : Below w.heap.size w w') : w'.ownsRow base e size v n xs := by
  refine ⟨h.1, ?_⟩
  rcases h.2 with hn | ⟨g, cap, cur, rfl, h1, hgg, rest⟩
  · exact .inl hn
  · exact .inr ⟨g, cap, cur, rfl, h1, (hb.block g (Array.getElem?_eq_some_iff.1 hgg).1).trans hgg, rest⟩
theorem eqI (y : UInt8) (n : Nat) (hn : n < 256) : ((y.toNat : Int) == (n : Int)) = decide (y = UInt8.ofNat n) := by
  by_cases h : y = UInt8.ofNat n
  · subst h
    have : (UInt8.ofNat n).toNat = n := by simp; omega
    simp [this]
  · rw [decide_eq_false h]
    refine beq_eq_false_iff_ne.2 (fun e => h (UInt8.toNat_inj.1 ?_))
    simp; omega
def LexI (w wr : World) (v : Value) (acc : List Tk) : Prop := wr.ownsRow w.heap.size 34 10 v acc.length (tcs acc) ∧ Below w.heap.size w wr
theorem LexI.below {w wr V : World} {v : Value} {acc : List Tk} (h : LexI w wr v acc) (hb : Below wr.heap.size wr V) : LexI w V v acc := ⟨owns_below h.1 hb, h.2.trans (hb.mono h.2.size)⟩
set_option maxRecDepth 100000 in
set_option maxHeartbeats 4000000 in
theorem lex_raw (l : List UInt8) (hsz : (bs l).size ≤ 512) (w : World) (hE : LexE w) :
    Calls Tryz.prog 7 #[.string (bs l)] w fun e w' => (∃ v, e = .returned (.tuple #[v, .int .i64 ((lexG (l.length + 1) l 0 []).2.1 : Int), .int .i64 (lexG (l.length + 1) l 0 []).2.2]) ∧ w'.ownsRow w.heap.size 34 10 v (lexG (l.length + 1) l 0 []).1.length (tcs (lexG (l.length + 1) l 0 []).1)) ∧ Below w.heap.size w w' := by
  have t1 : decide ((512 : Int) < ((bs l).size : Int)) = false := decide_eq_false (by omega)
  have HS : Hid ((bs l).size = l.length) := bs_size l
  obtain ⟨RES, HRES⟩ : ∃ x, Hid (lexG (l.length + 1) l 0 [] = x) := ⟨_, rfl⟩
  rw [HRES.out]
  have HEW : Hid (LexE w) := hE
  obtain ⟨i0, hi, hzz⟩ := Option.map_eq_some_iff.1 (show (Tryz.prog.info? 34).map (fun i => (i.zero, i.size, i.bytes)) = some (some (.agg #[.int .i64 0, .int .i64 0, .string .empty, .int .i64 0, .int .i64 0, .string .empty, .int .i64 0, .int .i64 0, .bool false, .bool false]), 10, 88) by kernel_rfl)
  simp only [Prod.mk.injEq] at hzz
  obtain ⟨hz0, hz1, hz2⟩ := hzz
  clear hE
  go_enter Tryz.func7, Tryz.ntmps7
  go_wp2
  go_step3
  go_wp2
  go_step3
  go_wp2
  go_loopw [5, 6] (fun v5 v6 wr => ∃ (k f : Nat) (acc : List Tk), k ≤ (bs l).size ∧ v6 = .int .i64 (k : Int) ∧ acc.length ≤ k ∧ Hid (l.length - k < f) ∧ Hid (lexG f (l.drop k) k acc = RES) ∧ Hid (LexI w wr v5 acc)) (fun _ v6 _ => (bs l).size - (intOf v6).toNat)
  case atStart => exact ⟨0, l.length + 1, [], Nat.zero_le _, rfl, Nat.le_refl _, (by show _ < _; omega), HRES, World.ownsRow_nil _ _ _ _, Below.refl _ _⟩
  case round =>
    obtain ⟨k, f, acc, hk, rfl, hacc, HF, HG, HI⟩ := hrel
    clear HRES
    by_cases hlt : k < (bs l).size
    · have HK : Hid (k < (bs l).size) := hlt
      have hlt := hlt
      obtain ⟨y, hy⟩ : ∃ y : UInt8, (bs l)[k]'hlt = y := ⟨_, rfl⟩
      have hdr : l.drop k = y :: l.drop (k + 1) := by rw [drop_step l k hlt, hy]
      obtain ⟨R, hR⟩ : ∃ R, l.drop k = R := ⟨_, rfl⟩
      have HX : Hid ((bs l).extract k (bs l).size = bs R) := by show _ = _; rw [bs_drop, hR]
      have HDR : Hid (R = y :: l.drop (k + 1) ∧ l.drop k = R) := ⟨hR ▸ hdr, hR⟩
      rw [hR] at HG
      obtain ⟨f, rfl⟩ : ∃ g, f = g + 1 := ⟨f - 1, by have := HF.out; omega⟩
      have HRV : Hid (Row (wr.alloc (.cells #[.int .i64 0, .int .i64 0, .string ⟨#[]⟩, .int .i64 0, .int .i64 0, .string ⟨#[]⟩, .int .i64 0, .int .i64 0, .bool false, .bool false] 34)).drew wr.heap.size 34 #[.int .i64 0, .int .i64 0, .string .empty, .int .i64 0, .int .i64 0, .string .empty, .int .i64 0, .int .i64 0, .bool false, .bool false] ∧ Below wr.heap.size wr (wr.alloc (.cells #[.int .i64 0, .int .i64 0, .string ⟨#[]⟩, .int .i64 0, .int .i64 0, .string ⟨#[]⟩, .int .i64 0, .int .i64 0, .bool false, .bool false] 34)).drew) := ⟨(Row.new wr 34 _).drewR2, ((Below.refl _ wr).alloc (Nat.le_refl _) _).drew⟩
      have hyI : (((bs l)[k]'hlt).toNat : Int) = (y.toNat : Int) := by rw [hy]
      clear hdr hR hy
      go_wp2_with fail
      refine wp_region_M (fun _ => True) (fun _ => false) 8 rfl (by kernel_rfl) ?_
      refine wpM_free 0 (v := .string (bs l)) rfl (by kernel_rfl) (by kernel_rfl) rfl (fun _ _ _ h => h) rfl (by intro wx; go_simp <;> rfl) ?_
      refine wpM_free 1 (v := .int .i64 (k : Int)) rfl (by kernel_rfl) (by kernel_rfl) rfl (fun _ _ _ h => h) rfl (by intro wx; go_simp <;> rfl) ?_
      refine wpM_free 2 (v := .string (bs R)) rfl (by kernel_rfl) (by kernel_rfl) rfl (fun _ _ _ h => h) rfl (by rw [← HX.out]; intro wx; go_simp <;> first | rfl | omega) ?_
      refine wpM_free 3 (v := .string (bs l)) rfl (by kernel_rfl) (by kernel_rfl) rfl (fun _ _ _ h => h) rfl (by intro wx; go_simp <;> rfl) ?_
      refine wpM_free 4 (v := .int .i64 (k : Int)) rfl (by kernel_rfl) (by kernel_rfl) rfl (fun _ _ _ h => h) rfl (by intro wx; go_simp <;> rfl) ?_
      refine wpM_free 5 (v := .int .u8 (y.toNat : Int)) rfl (by kernel_rfl) (by kernel_rfl) rfl (fun _ _ _ h => h) rfl (by intro wx; go_simp) ?_
      refine wpM_one 6 rfl (by kernel_rfl) rfl ?_
      go_wp2_with fail
      refine ⟨(fun h => by simp at h), ?_⟩
      refine wpM_one 7 rfl (by kernel_rfl) rfl ?_
      go_wp2_with fail
      refine ⟨(fun h => by simp at h), ?_⟩
      refine wpM_done (by kernel_rfl) ?_
      generalize (wr.alloc (.cells #[.int .i64 0, .int .i64 0, .string ⟨#[]⟩, .int .i64 0, .int .i64 0, .string ⟨#[]⟩, .int .i64 0, .int .i64 0, .bool false, .bool false] 34)).drew = V at HRV ⊢
      have e32 := eqI y 32 (by omega)
      have e34 := eqI y 34 (by omega)
      have e39 := eqI y 39 (by omega)
      by_cases hb : y = 32
      · have HG2 : Hid (lexG f (l.drop (k + 1)) (k + 1) acc = RES) := by show _ = _; rw [← HG.out, HDR.out.1, lexG_blank hb]
        rw [decide_eq_true (show y = UInt8.ofNat 32 from hb)] at e32
        have HI2 := HI.out.below HRV.out.2
        have HI3 : Hid (LexI w V u5 acc) := HI2
        clear e34 e39 hb HG HI HI2 HRV HEW HX
        go_wp2
        go_roundw
        case rel => exact ⟨k + 1, f, acc, by omega, by go_num, by omega, by have := HF.out; have := HS.out; show _ < _; omega, HG2, HI3⟩
        case measure => have := HK.out; simp [intOf]; omega
      · rw [decide_eq_false (show ¬ y = UInt8.ofNat 32 from hb)] at e32
        have HO := oneC_of y (l.drop (k + 1)) (by have := HS.out; simp; omega)
        rw [← HDR.out.1] at HO
        have HAdv : Hid ((oneR R).2.2 = 0 → 1 ≤ (oneR R).2.1 ∧ (oneR R).2.1 ≤ R.length) := oneR_adv
        have HGt : Hid ((oneR R).2.2 = 0 → lexG f (R.drop (oneR R).2.1) (k + (oneR R).2.1) (acc ++ [(oneR R).1.put k]) = RES) := fun h0 => by
          have h1 := HG.out
          rw [HDR.out.1] at h0 h1 ⊢
          rw [lexG_tok hb h0] at h1
          exact h1
        have HGe : Hid ((oneR R).2.2 ≠ 0 → ([], k, (oneR R).2.2) = RES) := fun h0 => by
          have h1 := HG.out
          rw [HDR.out.1] at h0 h1 ⊢
          rw [lexG_err hb h0] at h1
          exact h1
        have HLV : Hid (LexE V) := (HEW.out.below HI.out.2).below HRV.out.2
        obtain ⟨⟨t, n, er⟩, hone⟩ : ∃ x, oneR R = x := ⟨_, rfl⟩
        rw [hone] at HO HAdv HGt HGe
        simp only at HO HAdv HGt HGe
        generalize digL.contains y = d1 at HO
        generalize bgnL.contains y = d2 at HO
        generalize Lib.hasPrefix R lostL = b5 at HO
        have HA1 : Hid (Calls Tryz.prog 14 #[.string ⟨#[48, 49, 50, 51, 52, 53, 54, 55, 56, 57]⟩, .int .u8 (y.toNat : Int)] V fun e w' => e = .returned (.bool d1) ∧ w' = V) := by have := among_any digL y V; rw [HO.dig] at this; exact this
        have HA2 : Hid (Calls Tryz.prog 14 #[.string (bs bgnL), .int .u8 (y.toNat : Int)] V fun e w' => e = .returned (.bool d2) ∧ w' = V) := by have := among_any bgnL y V; rw [HO.bgn] at this; exact this
        have HA3 : Hid (Calls Tryz.prog 20 #[.string (bs R), .string ⟨#[35, 82, 69, 70, 33]⟩] V fun e w' => e = .returned (.bool b5) ∧ w' = V) := by have := Tryz.strings_HasPrefix (bs R) (bs lostL) V; rw [show Lib.hasPrefix (bs R).data.toList (bs lostL).data.toList = Lib.hasPrefix R lostL from rfl, HO.lost] at this; exact this
        have HQ : y = 39 → Hid (Calls Tryz.prog 18 #[.string (bs R)] V fun e w' => e = .returned (.int .i64 ((quotedN R : Nat) : Int)) ∧ w' = V) := fun _ => by rw [HDR.out.1]; exact quoted_any y _ (by have := HS.out; simp; omega) V
        have HOH : Hid (OneC y R t n er d1 d2 b5) := HO
        clear hone HO HG HEW HX
        go_upto_block 2 with fail
        go_cut [6, 8, 9] (fun v6 v8 v9 wx => v6 = .int .i64 (k : Int) ∧ v8 = .int .i64 (n : Int) ∧ v9 = .int .i64 er ∧ Hid (Row wx wr.heap.size 34 t.cells ∧ Below wr.heap.size wr wx))
        case first =>
          clear HAdv HGt HGe HI HF
          cases d1
          · by_cases h34 : y = 34
            · rw [decide_eq_true (show y = UInt8.ofNat 34 from h34)] at e34
              have HC := HOH.out.txt rfl h34 V HLV.out
              have HCH : Hid (Calls Tryz.prog 16 #[.string (bs R)] V fun e w' => e = tokR t n er ∧ Below V.heap.size V w') := HC
              clear HC HQ h34 e39
              go_wp2_with fail
              refine Calls.mono HA1.out ?_
              rintro _ w0 ⟨rfl, hw⟩
              rw [hw]
              clear hw w0
              unfold tokR Tk.v Tk.cells at HCH
              go_wp2_with fail
              refine Calls.mono HCH.out ?_
              rintro _ w3 ⟨rfl, q3⟩
              have hZ := HRV.out.1.below q3 HRV.out.1.lt
              have hB := HRV.out.2.trans (q3.mono HRV.out.2.size)
              clear q3 HCH
              obtain ⟨c0, c1, c2, c3, c4, c5, c6, c7, c8, c9⟩ := hZ.ten
              have fZ := hZ.frozen
              have lZ := hZ.lt
              have hE := Row.set10 hZ (.int .i64 t.k) (.int .i64 t.at') (.string (bs t.s)) (.int .i64 t.c) (.int .i64 t.e) (.string t.r.s) (.int .i64 t.r.c) (.int .i64 t.r.r) (.bool t.r.ac) (.bool t.r.ar)
              have hF := below_set10 hB (B := wr.heap.size) (Nat.le_refl _) (.int .i64 t.k) (.int .i64 t.at') (.string (bs t.s)) (.int .i64 t.c) (.int .i64 t.e) (.string t.r.s) (.int .i64 t.r.c) (.int .i64 t.r.r) (.bool t.r.ac) (.bool t.r.ar)
              clear hZ hB
              go_wp2
              go_meet
              exact ⟨rfl, rfl, rfl, hE, hF⟩
            · rw [decide_eq_false (show ¬ y = UInt8.ofNat 34 from h34)] at e34
              by_cases h39 : y = 39
              · rw [decide_eq_true (show y = UInt8.ofNat 39 from h39)] at e39
                have HCH : Hid (Calls Tryz.prog 17 #[.string (bs R), .int .i64 ((quotedN R : Nat) : Int)] V fun e w' => e = tokR t n er ∧ Below V.heap.size V w') := HOH.out.sht rfl h39 V HLV.out
                have HQH := HQ h39
                clear HQ h39 h34
                go_wp2_with fail
                refine Calls.mono HA1.out ?_
                rintro _ w0 ⟨rfl, hw⟩
                rw [hw]
                clear hw w0
                go_wp2_with fail
                refine Calls.mono HQH.out ?_
                rintro _ w0 ⟨rfl, hw⟩
                rw [hw]
                clear hw w0
                unfold tokR Tk.v Tk.cells at HCH
                go_wp2_with fail
                refine Calls.mono HCH.out ?_
                rintro _ w3 ⟨rfl, q3⟩
                have hZ := HRV.out.1.below q3 HRV.out.1.lt
                have hB := HRV.out.2.trans (q3.mono HRV.out.2.size)
                clear q3 HCH
                obtain ⟨c0, c1, c2, c3, c4, c5, c6, c7, c8, c9⟩ := hZ.ten
                have fZ := hZ.frozen
                have lZ := hZ.lt
                have hE := Row.set10 hZ (.int .i64 t.k) (.int .i64 t.at') (.string (bs t.s)) (.int .i64 t.c) (.int .i64 t.e) (.string t.r.s) (.int .i64 t.r.c) (.int .i64 t.r.r) (.bool t.r.ac) (.bool t.r.ar)
                have hF := below_set10 hB (B := wr.heap.size) (Nat.le_refl _) (.int .i64 t.k) (.int .i64 t.at') (.string (bs t.s)) (.int .i64 t.c) (.int .i64 t.e) (.string t.r.s) (.int .i64 t.r.c) (.int .i64 t.r.r) (.bool t.r.ac) (.bool t.r.ar)
                clear hZ hB
                go_wp2
                go_meet
                exact ⟨rfl, rfl, rfl, hE, hF⟩
              · rw [decide_eq_false (show ¬ y = UInt8.ofNat 39 from h39)] at e39
                clear HQ
                cases d2
                · cases b5
                  · have HCH : Hid (Calls Tryz.prog 21 #[.string (bs R)] V fun e w' => e = tokR t n er ∧ Below V.heap.size V w') := HOH.out.mrk rfl h34 h39 rfl rfl V HLV.out
                    clear h34 h39
                    go_wp2_with fail
                    refine Calls.mono HA1.out ?_
                    rintro _ w0 ⟨rfl, hw⟩
                    rw [hw]
                    clear hw w0
                    go_wp2_with fail
                    refine Calls.mono HA2.out ?_
                    rintro _ w0 ⟨rfl, hw⟩
                    rw [hw]
                    clear hw w0
                    go_wp2_with fail
                    refine Calls.mono HA3.out ?_
                    rintro _ w0 ⟨rfl, hw⟩
                    rw [hw]
                    clear hw w0
                    unfold tokR Tk.v Tk.cells at HCH
                    go_wp2_with fail
                    refine Calls.mono HCH.out ?_
                    rintro _ w3 ⟨rfl, q3⟩
                    have hZ := HRV.out.1.below q3 HRV.out.1.lt
                    have hB := HRV.out.2.trans (q3.mono HRV.out.2.size)
                    clear q3 HCH
                    obtain ⟨c0, c1, c2, c3, c4, c5, c6, c7, c8, c9⟩ := hZ.ten
                    have fZ := hZ.frozen
                    have lZ := hZ.lt
                    have hE := Row.set10 hZ (.int .i64 t.k) (.int .i64 t.at') (.string (bs t.s)) (.int .i64 t.c) (.int .i64 t.e) (.string t.r.s) (.int .i64 t.r.c) (.int .i64 t.r.r) (.bool t.r.ac) (.bool t.r.ar)
                    have hF := below_set10 hB (B := wr.heap.size) (Nat.le_refl _) (.int .i64 t.k) (.int .i64 t.at') (.string (bs t.s)) (.int .i64 t.c) (.int .i64 t.e) (.string t.r.s) (.int .i64 t.r.c) (.int .i64 t.r.r) (.bool t.r.ac) (.bool t.r.ar)
                    clear hZ hB
                    go_wp2
                    go_meet
                    exact ⟨rfl, rfl, rfl, hE, hF⟩
                  · obtain ⟨rfl, rfl, rfl⟩ := HOH.out.bad rfl h34 h39 rfl rfl
                    clear h34 h39
                    go_wp2_with fail
                    refine Calls.mono HA1.out ?_
                    rintro _ w0 ⟨rfl, hw⟩
                    rw [hw]
                    clear hw w0
                    go_wp2_with fail
                    refine Calls.mono HA2.out ?_
                    rintro _ w0 ⟨rfl, hw⟩
                    rw [hw]
                    clear hw w0
                    go_wp2_with fail
                    refine Calls.mono HA3.out ?_
                    rintro _ w0 ⟨rfl, hw⟩
                    rw [hw]
                    clear hw w0
                    have hZ := HRV.out.1
                    have hB := HRV.out.2
                    obtain ⟨c0, c1, c2, c3, c4, c5, c6, c7, c8, c9⟩ := hZ.ten
                    have fZ := hZ.frozen
                    have lZ := hZ.lt
                    have hE := Row.set10 hZ (.int .i64 6) (.int .i64 0) (.string ⟨#[]⟩) (.int .i64 0) (.int .i64 0) (.string ⟨#[]⟩) (.int .i64 0) (.int .i64 0) (.bool false) (.bool false)
                    have hF := below_set10 hB (B := wr.heap.size) (Nat.le_refl _) (.int .i64 6) (.int .i64 0) (.string ⟨#[]⟩) (.int .i64 0) (.int .i64 0) (.string ⟨#[]⟩) (.int .i64 0) (.int .i64 0) (.bool false) (.bool false)
                    clear hZ hB
                    go_wp2
                    go_meet
                    exact ⟨rfl, rfl, rfl, hE, hF⟩
                · have HCH : Hid (Calls Tryz.prog 19 #[.string (bs R)] V fun e w' => e = tokR t n er ∧ Below V.heap.size V w') := HOH.out.run rfl h34 h39 rfl V HLV.out
                  clear h34 h39
                  go_wp2_with fail
                  refine Calls.mono HA1.out ?_
                  rintro _ w0 ⟨rfl, hw⟩
                  rw [hw]
                  clear hw w0
                  go_wp2_with fail
                  refine Calls.mono HA2.out ?_
                  rintro _ w0 ⟨rfl, hw⟩
                  rw [hw]
                  clear hw w0
                  unfold tokR Tk.v Tk.cells at HCH
                  go_wp2_with fail
                  refine Calls.mono HCH.out ?_
                  rintro _ w3 ⟨rfl, q3⟩
                  have hZ := HRV.out.1.below q3 HRV.out.1.lt
                  have hB := HRV.out.2.trans (q3.mono HRV.out.2.size)
                  clear q3 HCH
                  obtain ⟨c0, c1, c2, c3, c4, c5, c6, c7, c8, c9⟩ := hZ.ten
                  have fZ := hZ.frozen
                  have lZ := hZ.lt
                  have hE := Row.set10 hZ (.int .i64 t.k) (.int .i64 t.at') (.string (bs t.s)) (.int .i64 t.c) (.int .i64 t.e) (.string t.r.s) (.int .i64 t.r.c) (.int .i64 t.r.r) (.bool t.r.ac) (.bool t.r.ar)
                  have hF := below_set10 hB (B := wr.heap.size) (Nat.le_refl _) (.int .i64 t.k) (.int .i64 t.at') (.string (bs t.s)) (.int .i64 t.c) (.int .i64 t.e) (.string t.r.s) (.int .i64 t.r.c) (.int .i64 t.r.r) (.bool t.r.ac) (.bool t.r.ar)
                  clear hZ hB
                  go_wp2
                  go_meet
                  exact ⟨rfl, rfl, rfl, hE, hF⟩
          · have HCH : Hid (Calls Tryz.prog 15 #[.string (bs R)] V fun e w' => e = tokR t n er ∧ Below V.heap.size V w') := HOH.out.num rfl V HLV.out
            clear HQ
            go_wp2_with fail
            refine Calls.mono HA1.out ?_
            rintro _ w0 ⟨rfl, hw⟩
            rw [hw]
            clear hw w0
            unfold tokR Tk.v Tk.cells at HCH
            go_wp2_with fail
            refine Calls.mono HCH.out ?_
            rintro _ w3 ⟨rfl, q3⟩
            have hZ := HRV.out.1.below q3 HRV.out.1.lt
            have hB := HRV.out.2.trans (q3.mono HRV.out.2.size)
            clear q3 HCH
            obtain ⟨c0, c1, c2, c3, c4, c5, c6, c7, c8, c9⟩ := hZ.ten
            have fZ := hZ.frozen
            have lZ := hZ.lt
            have hE := Row.set10 hZ (.int .i64 t.k) (.int .i64 t.at') (.string (bs t.s)) (.int .i64 t.c) (.int .i64 t.e) (.string t.r.s) (.int .i64 t.r.c) (.int .i64 t.r.r) (.bool t.r.ac) (.bool t.r.ar)
            have hF := below_set10 hB (B := wr.heap.size) (Nat.le_refl _) (.int .i64 t.k) (.int .i64 t.at') (.string (bs t.s)) (.int .i64 t.c) (.int .i64 t.e) (.string t.r.s) (.int .i64 t.r.c) (.int .i64 t.r.r) (.bool t.r.ac) (.bool t.r.ar)
            clear hZ hB
            go_wp2
            go_meet
            exact ⟨rfl, rfl, rfl, hE, hF⟩
        case rest =>
          obtain ⟨rfl, rfl, rfl, HRW⟩ := hcut
          clear HRV HOH HA1 HA2 HA3 HQ HLV e32 e34 e39
          by_cases h0 : er = 0
          · subst h0
            obtain ⟨hn1, hn2⟩ := HAdv.out rfl
            have HG2 : Hid (lexG f (l.drop (k + n)) (k + n) (acc ++ [t.put k]) = RES) := by
              have := HGt.out rfl
              rw [← HDR.out.2, List.drop_drop] at this
              exact this
            have hkn : k + n ≤ (bs l).size := by
              have h1 := congrArg List.length HDR.out.2
              have := HS.out
              simp at h1
              omega
            have hI := HI.out.below HRW.out.2
            have hown := hI.1
            have hBw := hI.2
            have hlt2 : ∀ q, u5.ownBlock = some q → w.heap.size ≤ q ∧ q ≠ wr.heap.size := fun q hq => ⟨(hown.lt q hq).1, by have := (HI.out.1.lt q hq).2; omega⟩
            have hRow : Row wc wr.heap.size 34 #[.int .i64 t.k, .int .i64 t.at', .string (bs t.s), .int .i64 t.c, .int .i64 t.e, .string t.r.s, .int .i64 t.r.c, .int .i64 t.r.r, .bool t.r.ac, .bool t.r.ar] := HRW.out.1
            have hws : w.heap.size ≤ wr.heap.size := HI.out.2.size
            obtain ⟨c0, c1, c2, c3, c4, c5, c6, c7, c8, c9⟩ := hRow.ten
            have fZ := hRow.frozen
            have lZ := hRow.lt
            have hown1 : (wc.setCell ⟨wr.heap.size, 1, none⟩ (.int .i64 (k : Int))).ownsRow w.heap.size 34 10 u5 acc.length (tcs acc) := owns_kept hown ((Kept.refl (fun q => q ≠ wr.heap.size) wc).setCell (p := ⟨wr.heap.size, 1, none⟩) (by simp) (.int .i64 (k : Int))) (fun q hq => (hlt2 q hq).2)
            have hBs := below_allocS (below_set hBw (B := wr.heap.size) 1 (.int .i64 (k : Int)) hws) (.cells (t.put k).cells 34)
            have HNW : Hid (∀ (j : Nat) u, (t.put k).cells.toList[j]? = some u → ((wc.setCell ⟨wr.heap.size, 1, none⟩ (.int .i64 (k : Int))).alloc (.cells (t.put k).cells 34)).cell? ((⟨wc.heap.size, 0, none⟩ : Addr).add j) = some u) := by
              intro j u hu
              have hR2 := Row.new (wc.setCell ⟨wr.heap.size, 1, none⟩ (.int .i64 (k : Int))) 34 (t.put k).cells
              have h := hR2.cell (i := j) (v := u) (by simpa using hu)
              rw [Go.WideShapes.add_plain]
              simpa using h
            have HHS : Hid (w.heap.size ≤ ((wc.setCell ⟨wr.heap.size, 1, none⟩ (.int .i64 (k : Int))).alloc (.cells (t.put k).cells 34)).heap.size) := hBs.size
            have HOwn : Hid (((wc.setCell ⟨wr.heap.size, 1, none⟩ (.int .i64 (k : Int))).alloc (.cells (t.put k).cells 34)).ownsRow w.heap.size 34 10 u5 acc.length (tcs acc)) := hown1.alloc _
            have HBs : Hid (Below w.heap.size w ((wc.setCell ⟨wr.heap.size, 1, none⟩ (.int .i64 (k : Int))).alloc (.cells (t.put k).cells 34))) := hBs
            have HLT : Hid (∀ q, u5.ownBlock = some q → w.heap.size ≤ q) := fun q hq => (hlt2 q hq).1
            have hacc2 : acc.length + 1 ≤ 600 := by omega
            unfold Tk.put Tk.cells at HNW HOwn HBs HHS
            simp only at HNW HOwn HBs HHS
            clear hown hBw hI hlt2 hRow hown1 hBs HRW HGt HGe HAdv
            go_wp2_with (at_builtin; refine wpList_append_own2 _ rfl (.tmp 84) (.tmp 86) 22 rfl w.heap.size 34 i0 (.agg #[.int .i64 0, .int .i64 0, .string .empty, .int .i64 0, .int .i64 0, .string .empty, .int .i64 0, .int .i64 0, .bool false, .bool false]) 10 88 Tryz.underlying22 hi hz0 hz1 hz2 rfl (by decide) _ _ _ rfl HOwn.out ⟨wc.heap.size, 0, none⟩ 1 1 _ rfl rfl HNW.out (by simp [Value.oneCell']) (by unfold maxLen; omega) (by omega) HHS.out ?_)
            intro v' w3 hown' hgrow hblk
            have HI2 : Hid (LexI w w3 v' (acc ++ [t.put k])) := by
              refine ⟨?_, ?_⟩
              · rw [List.length_append, tcs_snoc]
                exact hown'
              · exact HBs.out.grown hgrow HHS.out (fun q hq => HLT.out q hq)
            clear hown' hgrow hblk HNW HOwn HBs HHS HLT c0 c1 c2 c3 c4 c5 c6 c7 c8 c9 fZ lZ hws
            go_wp2
            go_roundw
            case rel => exact ⟨k + n, f, acc ++ [t.put k], hkn, by go_num, by simp; omega, by have := HF.out; have := HS.out; show _ < _; omega, HG2, HI2⟩
            case measure => have := HK.out; simp [intOf]; omega
          · have hne : (er != 0) = true := by simpa using h0
            have HR : Hid (([], k, er) = RES) := HGe.out h0
            have HBf : Hid (Below w.heap.size w wc) := HI.out.2.trans (HRW.out.2.mono HI.out.2.size)
            clear HRW HGt HGe HAdv HI HF h0
            go_wp2
            rw [Exit.noGoto_ret]
            refine bodyPost_ret (results_tmp3 rfl _ _ _) rfl ⟨⟨.slice none 0 0, by rw [← HR.out]; rfl, by rw [← HR.out]; exact World.ownsRow_nil _ _ _ _⟩, HBf.out⟩
    · obtain rfl : k = (bs l).size := by omega
      have HR : Hid ((acc, 0, 0) = RES) := by
        have h1 := HG.out
        rw [List.drop_eq_nil_of_le (by have := HS.out; omega)] at h1
        obtain ⟨f, rfl⟩ : ∃ g, f = g + 1 := ⟨f - 1, by have := HF.out; omega⟩
        show _ = _
        rw [← h1, lexG]
      clear HG HF
      go_wp2
      rw [Exit.noGoto_ret]
      refine bodyPost_ret (results_tmp3 rfl _ _ _) rfl ⟨⟨_, by rw [← HR.out]; rfl, by rw [← HR.out]; exact HI.out.1⟩, HI.out.2⟩
end Go.Proofs.YtgihginfegckcaaGreatDoor
/- lex's Lex, whole; the chapter's examples. -/
namespace Go.Proofs.YtgihginfegckcaaGreatDoor
open Go.RowKit

set_option maxRecDepth 100000 in
set_option maxHeartbeats 400000 in
theorem lex_long (l : List UInt8) (hsz : 512 < (bs l).size) (w : World) :
    Calls Tryz.prog 7 #[.string (bs l)] w fun e w' => e = .returned (.tuple #[.slice none 0 0, .int .i64 0, .int .i64 3]) ∧ w' = w := by
  have t1 : (512 : Int) < ((bs l).size : Int) := by omega
  clear hsz
  go_enter Tryz.func7, Tryz.ntmps7
  go_wp2
  go_step3
  go_wp2
  rw [Exit.noGoto_ret]
  exact bodyPost_ret (results_tmp3 rfl _ _ _) rfl ⟨rfl, rfl⟩
/-- What Lex hands back: the tokens in a row of its own, a place, an error. -/
def LexPost (w : World) (r : List Tk × Nat × Int) (e : Ending) (w' : World) : Prop := (∃ v, e = .returned (.tuple #[v, .int .i64 (r.2.1 : Int), .int .i64 r.2.2]) ∧ w'.ownsRow w.heap.size 34 10 v r.1.length (tcs r.1)) ∧ Below w.heap.size w w'
theorem lex_any (l : List UInt8) (w : World) (hE : LexE w) : Calls Tryz.prog 7 #[.string (bs l)] w (LexPost w (lexR l)) := by
  unfold lexR
  by_cases h : 512 < l.length
  · rw [if_pos h]
    refine Calls.mono (lex_long l (by rw [bs_size]; exact h) w) ?_
    rintro e w' ⟨rfl, rfl⟩
    exact ⟨⟨_, rfl, World.ownsRow_nil _ _ _ _⟩, Below.refl _ _⟩
  · rw [if_neg h]
    exact lex_raw l (by rw [bs_size]; omega) w hE
theorem owns_cells {W : World} {base : Nat} {v : Value} {n : Nat} {xs : List Value} (h : W.ownsRow base 34 10 v n xs) (hn : 0 < n) : ∃ g cap, v = .slice (some ⟨g, 0, none⟩) n cap ∧ ∀ (i : Nat) u, xs[i]? = some u → W.cell? ⟨g, i, none⟩ = some u := by
  rcases h.2 with ⟨_, hx⟩ | ⟨g, cap, cur, rfl, h1, hgg, rest⟩
  · omega
  · refine ⟨g, cap, rfl, fun i u hu => ?_⟩
    have := h.cells (g := g) rfl i u hu
    rw [Go.WideShapes.add_plain] at this
    simpa using this
set_option maxRecDepth 100000 in
theorem al_1 : lexR [83, 85, 77, 40, 65, 49, 58, 66, 50, 41, 42, 49, 46, 53, 37] = ([⟨4, 0, [83, 85, 77], 0, 0, Rf.zero⟩, ⟨5, 3, [40], 0, 0, Rf.zero⟩, ⟨3, 4, [], 0, 0, ⟨bs [], 1, 1, false, false⟩⟩, ⟨5, 6, [58], 0, 0, Rf.zero⟩, ⟨3, 7, [], 0, 0, ⟨bs [], 2, 2, false, false⟩⟩, ⟨5, 9, [41], 0, 0, Rf.zero⟩, ⟨5, 10, [42], 0, 0, Rf.zero⟩, ⟨1, 11, [], 15, -1, Rf.zero⟩, ⟨5, 14, [37], 0, 0, Rf.zero⟩], 0, 0) := by kernel_rfl
set_option maxRecDepth 100000 in
theorem al_2 : lexR [39, 97, 32, 98, 39, 33, 65, 49, 32, 34, 120, 34, 34, 121, 34] = ([⟨3, 0, [], 0, 0, ⟨bs [97, 32, 98], 1, 1, false, false⟩⟩, ⟨2, 9, [120, 34, 121], 0, 0, Rf.zero⟩], 0, 0) := by kernel_rfl
set_option maxRecDepth 100000 in
theorem al_3 : lexR [76, 79, 71, 49, 48] = ([], 0, 41) := by kernel_rfl
set_option maxRecDepth 100000 in
set_option maxHeartbeats 2000000 in
theorem alive_any (w : World) (hE : LexE w) : Calls Tryz.prog 9 #[] w fun e w' => e = .returned (.bool true) ∧ Below w.heap.size w w' := by
  have h1 : ∀ W, LexE W → Hid (Calls Tryz.prog 7 #[.string ⟨#[83, 85, 77, 40, 65, 49, 58, 66, 50, 41, 42, 49, 46, 53, 37]⟩] W (LexPost W ([⟨4, 0, [83, 85, 77], 0, 0, Rf.zero⟩, ⟨5, 3, [40], 0, 0, Rf.zero⟩, ⟨3, 4, [], 0, 0, ⟨bs [], 1, 1, false, false⟩⟩, ⟨5, 6, [58], 0, 0, Rf.zero⟩, ⟨3, 7, [], 0, 0, ⟨bs [], 2, 2, false, false⟩⟩, ⟨5, 9, [41], 0, 0, Rf.zero⟩, ⟨5, 10, [42], 0, 0, Rf.zero⟩, ⟨1, 11, [], 15, -1, Rf.zero⟩, ⟨5, 14, [37], 0, 0, Rf.zero⟩], 0, 0))) := fun W hW => by rw [← al_1]; exact lex_any [83, 85, 77, 40, 65, 49, 58, 66, 50, 41, 42, 49, 46, 53, 37] W hW
  have h2 : ∀ W, LexE W → Hid (Calls Tryz.prog 7 #[.string ⟨#[39, 97, 32, 98, 39, 33, 65, 49, 32, 34, 120, 34, 34, 121, 34]⟩] W (LexPost W ([⟨3, 0, [], 0, 0, ⟨bs [97, 32, 98], 1, 1, false, false⟩⟩, ⟨2, 9, [120, 34, 121], 0, 0, Rf.zero⟩], 0, 0))) := fun W hW => by rw [← al_2]; exact lex_any [39, 97, 32, 98, 39, 33, 65, 49, 32, 34, 120, 34, 34, 121, 34] W hW
  have h3 : ∀ W, LexE W → Hid (Calls Tryz.prog 7 #[.string ⟨#[76, 79, 71, 49, 48]⟩] W (LexPost W ([], 0, 41))) := fun W hW => by rw [← al_3]; exact lex_any [76, 79, 71, 49, 48] W hW
  have HE : Hid (LexE w) := hE
  clear hE
  go_enter Tryz.func9, Tryz.ntmps9
  go_wp2_with fail
  refine Calls.mono (h1 _ HE.out).out ?_
  rintro _ w1 ⟨⟨v1, rfl, o1⟩, b1⟩
  clear h1
  go_wp2_with fail
  refine Calls.mono (h2 _ (HE.out.below b1)).out ?_
  rintro _ w2 ⟨⟨v2, rfl, o2⟩, b2⟩
  have B2 := b1.trans (b2.mono b1.size)
  clear h2
  go_wp2_with fail
  refine Calls.mono (h3 _ (HE.out.below B2)).out ?_
  rintro _ w3 ⟨⟨v3, rfl, o3⟩, b3⟩
  have HB : Hid (Below w.heap.size w w3) := B2.trans (b3.mono B2.size)
  obtain ⟨g1, k1, rfl, c1⟩ := owns_cells (owns_below (owns_below o1 b2) b3) (by decide)
  obtain ⟨g2, k2, rfl, c2⟩ := owns_cells (owns_below o2 b3) (by decide)
  have x0 := c1 0 (.int .i64 4) rfl
  have x20 := c1 20 (.int .i64 3) rfl
  have x26 := c1 26 (.int .i64 1) rfl
  have x73 := c1 73 (.int .i64 15) rfl
  have x74 := c1 74 (.int .i64 (-1)) rfl
  have y5 := c2 5 (.string ⟨#[97, 32, 98]⟩) rfl
  have y12 := c2 12 (.string ⟨#[120, 34, 121]⟩) rfl
  clear h3 o1 o2 o3 b1 b2 b3 B2 c1 c2 HE
  go_wp2
  go_ret
  exact ⟨rfl, HB.out⟩
end Go.Proofs.YtgihginfegckcaaGreatDoor
/- Texts between quotes, there and back (pure). -/
namespace Go.Proofs.YtgihginfegckcaaGreatDoor
open Go.RowKit

/-- Each quote twice. -/
def dblq : List UInt8 → List UInt8
  | [] => []
  | b :: r => if b = 34 then 34 :: 34 :: dblq r else b :: dblq r
theorem ra_miss {s old new : List UInt8} (h : Lib.index s old = -1) : Lib.replaceAll s old new = s := by
  unfold Lib.replaceAll Lib.replace
  split
  · rfl
  · have : Lib.replaceNum s old (-1) = 0 := by unfold Lib.replaceNum; rw [if_pos (by omega), Lib.count_miss h]
    rw [this]; rfl
theorem ra_hit {s old new : List UInt8} {i : Nat} (h1 : old ≠ []) (hne : (old == new) = false) (h : Lib.index s old = i) : Lib.replaceAll s old new = s.take i ++ new ++ Lib.replaceAll (s.drop (i + old.length)) old new := by
  unfold Lib.replaceAll Lib.replace
  rw [hne]
  simp only [Bool.false_eq_true, if_false]
  have e1 : ∀ t, Lib.replaceNum t old (-1) = Lib.count t old := fun t => by unfold Lib.replaceNum; rw [if_pos (by omega)]
  rw [e1, e1, Lib.count_hit h1 h, Nat.add_comm, Lib.replaceK_hit _ _ _ _ i h]
theorem dblq_app (p : List UInt8) (r : List UInt8) (hp : ∀ b ∈ p, b ≠ 34) : dblq (p ++ r) = p ++ dblq r := by
  induction p with
  | nil => rfl
  | cons a p ih =>
    rw [List.cons_append, dblq, if_neg (hp a (by simp)), ih (fun b hb => hp b (by simp [hb]))]
    rfl
theorem split34 (s : List UInt8) : (∀ b ∈ s, b ≠ 34) ∨ ∃ p r, s = p ++ 34 :: r ∧ ∀ b ∈ p, b ≠ 34 := by
  induction s with
  | nil => left; simp
  | cons a s ih =>
    by_cases h : a = 34
    · right; exact ⟨[], s, by rw [h]; rfl, by simp⟩
    · rcases ih with h2 | ⟨p, r, rfl, h2⟩
      · left; intro b hb; rcases List.mem_cons.1 hb with rfl | hb
        · exact h
        · exact h2 b hb
      · right; exact ⟨a :: p, r, rfl, fun b hb => by
          rcases List.mem_cons.1 hb with rfl | hb
          · exact h
          · exact h2 b hb⟩
theorem occ_no {s sub : List UInt8} {c : UInt8} (h : ∀ b ∈ s, b ≠ c) (j : Nat) : Lib.occAt s (c :: sub) j = false := by
  unfold Lib.occAt
  cases hd : s.drop j with
  | nil => rfl
  | cons a r =>
    have ha : a ∈ s := List.mem_of_mem_drop (by rw [hd]; simp)
    have : (c == a) = false := beq_eq_false_iff_ne.2 (Ne.symm (h a ha))
    simp [List.isPrefixOf, this]
theorem occ_ahead {p r sub : List UInt8} {c : UInt8} (h : ∀ b ∈ p, b ≠ c) (j : Nat) (hj : j < p.length) : Lib.occAt (p ++ r) (c :: sub) j = false := by
  unfold Lib.occAt
  rw [List.drop_append_of_le_length (by omega), List.drop_eq_getElem_cons hj]
  have : (c == p[j]) = false := beq_eq_false_iff_ne.2 (Ne.symm (h p[j] (List.getElem_mem hj)))
  show ((c == p[j]) && _) = false
  rw [this]
  rfl
theorem idx_none {s sub : List UInt8} (h : ∀ b ∈ s, b ≠ 34) : Lib.index s (34 :: sub) = -1 := Lib.index_none (fun j _ => occ_no h j)
theorem idx_at {p r sub : List UInt8} (h : ∀ b ∈ p, b ≠ 34) (hr : (34 :: sub).isPrefixOf r = true) : Lib.index (p ++ r) (34 :: sub) = (p.length : Nat) := by
  refine Lib.index_first (by simp) ?_ (fun j hj => occ_ahead h j hj)
  unfold Lib.occAt
  simpa using hr
theorem dblq_no {s : List UInt8} (h : ∀ b ∈ s, b ≠ 34) : dblq s = s := by
  have := dblq_app s [] h
  simpa [dblq] using this
/-- Quotes are put in twice. -/
theorem ra_dbl : ∀ (n : Nat) (s : List UInt8), s.length ≤ n → Lib.replaceAll s [34] [34, 34] = dblq s
  | n, s, hn => by
    rcases split34 s with h | ⟨p, r, rfl, h⟩
    · rw [ra_miss (idx_none h), dblq_no h]
    · cases n with
      | zero => simp at hn
      | succ n =>
        rw [ra_hit (by simp) rfl (idx_at (r := 34 :: r) h rfl), dblq_app p _ h]
        have e : (p ++ 34 :: r).drop (p.length + ([34] : List UInt8).length) = r := by simp
        rw [e, ra_dbl n r (by simp at hn; omega)]
        simp [dblq]
/-- And taken out again. -/
theorem ra_und : ∀ (n : Nat) (s : List UInt8), s.length ≤ n → Lib.replaceAll (dblq s) [34, 34] [34] = s
  | n, s, hn => by
    rcases split34 s with h | ⟨p, r, rfl, h⟩
    · rw [dblq_no h, ra_miss (idx_none h)]
    · cases n with
      | zero => simp at hn
      | succ n =>
        have e0 : dblq (34 :: r) = 34 :: 34 :: dblq r := by simp [dblq]
        rw [dblq_app p _ h, e0, ra_hit (by simp) rfl (idx_at (r := 34 :: 34 :: dblq r) h rfl)]
        have e : (p ++ 34 :: 34 :: dblq r).drop (p.length + ([34, 34] : List UInt8).length) = dblq r := by simp
        rw [e, ra_und n r (by simp at hn; omega)]
        simp
/-- How a text is quoted. -/
def quoteQ (s : List UInt8) : List UInt8 := 34 :: (dblq s ++ [34])
theorem dblq_len (s : List UInt8) : s.length ≤ (dblq s).length ∧ (dblq s).length ≤ 2 * s.length := by
  induction s with
  | nil => simp [dblq]
  | cons b s ih => unfold dblq; split <;> simp <;> omega
end Go.Proofs.YtgihginfegckcaaGreatDoor
/- lex's document: plain facts. -/
namespace Go.Proofs.YtgihginfegckcaaGreatDoor
open Go.RowKit

/-- A byte of a text; 0 behind its end. -/
def atB (l : List UInt8) (i : Nat) : UInt8 := (l[i]?).getD 0
theorem atB_lt {l : List UInt8} {i : Nat} (h : i < l.length) : atB l i = l[i] := by
  unfold atB; rw [List.getElem?_eq_getElem h]; rfl
theorem atB_bs {l : List UInt8} {i : Nat} (h : i < (bs l).size) : (bs l)[i] = atB l i := by
  rw [atB_lt (by rw [bs_size] at h; exact h)]; rfl
theorem atB_ge {l : List UInt8} {i : Nat} (h : l.length ≤ i) : atB l i = 0 := by
  unfold atB; rw [List.getElem?_eq_none h]; rfl
theorem drop_at {l : List UInt8} {i : Nat} (h : i < l.length) : l.drop i = atB l i :: l.drop (i + 1) := by
  rw [atB_lt h]; exact List.drop_eq_getElem_cons h
theorem at_lt {l cs : List UInt8} {i : Nat} (h0 : cs.contains 0 = false) (h : cs.contains (atB l i) = true) : i < l.length := by
  by_cases hl : i < l.length
  · exact hl
  · rw [atB_ge (by omega), h0] at h; cases h
theorem ah_yes {l cs : List UInt8} {i : Nat} (h0 : cs.contains 0 = false) (h : cs.contains (atB l i) = true) : i < l.length ∧ aheadL (l.drop i) cs = atB l i :: aheadL (l.drop (i + 1)) cs ∧ behindL (l.drop i) cs = behindL (l.drop (i + 1)) cs := by
  have hl := at_lt h0 h
  refine ⟨hl, ?_, ?_⟩
  · unfold aheadL; rw [drop_at hl, List.takeWhile_cons, if_pos h]
  · unfold behindL; rw [drop_at hl, List.dropWhile_cons, if_pos h]
theorem ah_no {l cs : List UInt8} {i : Nat} (h : cs.contains (atB l i) = false) : aheadL (l.drop i) cs = [] ∧ behindL (l.drop i) cs = l.drop i := by
  by_cases hl : i < l.length
  · refine ⟨?_, ?_⟩
    · unfold aheadL; rw [drop_at hl, List.takeWhile_cons, if_neg (by rw [h]; simp)]
    · unfold behindL; rw [drop_at hl, List.dropWhile_cons, if_neg (by rw [h]; simp)]
  · rw [List.drop_eq_nil_of_le (by omega)]
    exact ⟨rfl, rfl⟩
theorem behind_dropX (l cs : List UInt8) : behindL l cs = l.drop (aheadL l cs).length := by
  have h := ahead_behind l cs
  calc behindL l cs = (aheadL l cs ++ behindL l cs).drop (aheadL l cs).length := by simp
    _ = _ := by rw [h]
/-- Where a run of signs ends that begins at a place. -/
def ahE (cs l : List UInt8) (i : Nat) : Nat := i + (aheadL (l.drop i) cs).length
theorem ahE_drop (cs l : List UInt8) (i : Nat) : l.drop (ahE cs l i) = behindL (l.drop i) cs := by
  rw [behind_dropX, List.drop_drop]; rfl
theorem ahE_le {cs l : List UInt8} {i : Nat} (h : i ≤ l.length) : i ≤ ahE cs l i ∧ ahE cs l i ≤ l.length := by
  unfold ahE
  have := ahead_len (l.drop i) cs
  simp only [List.length_drop] at this
  omega
theorem ahE_yes {cs l : List UInt8} {i : Nat} (h0 : cs.contains 0 = false) (h : cs.contains (atB l i) = true) : ahE cs l i = ahE cs l (i + 1) := by
  unfold ahE; rw [(ah_yes h0 h).2.1]; simp; omega
theorem ahE_no {cs l : List UInt8} {i : Nat} (h : cs.contains (atB l i) = false) : ahE cs l i = i := by
  unfold ahE; rw [(ah_no h).1]; simp
/-- Where a number ends. -/
def numF1 (l : List UInt8) (i : Nat) : Nat := if atB l i = 46 ∧ digL.contains (atB l (i + 1)) = true then ahE digL l (i + 1) else i
def numF2 (l : List UInt8) (k i : Nat) : Nat := if digL.contains (atB l k) = true then ahE digL l k else i
def numF3 (l : List UInt8) (i : Nat) : Nat := if atB l i = 69 ∨ atB l i = 101 then numF2 l (if atB l (i + 1) = 43 ∨ atB l (i + 1) = 45 then i + 2 else i + 1) i else i
def numF (l : List UInt8) (i : Nat) : Nat := numF3 l (numF1 l (ahE digL l i))
theorem dig0 : digL.contains 0 = false := by decide
theorem pastD_self (l : List UInt8) : pastD l l = behindL l digL := by
  unfold pastD
  split
  · rename_i h
    have := ahead_behind l digL
    rw [List.isEmpty_iff.1 h] at this
    exact this.symm
  · rfl
theorem pastD_yes {l o : List UInt8} {i : Nat} (h : digL.contains (atB l i) = true) : pastD (l.drop i) o = behindL (l.drop i) digL := by
  unfold pastD; rw [(ah_yes dig0 h).2.1]; simp
theorem pastD_no {l o : List UInt8} {i : Nat} (h : digL.contains (atB l i) = false) : pastD (l.drop i) o = o := by
  unfold pastD; rw [(ah_no h).1]; simp
theorem cutO_yes {l cs : List UInt8} {i : Nat} (h0 : cs.contains 0 = false) (h : cs.contains (atB l i) = true) : cutO (l.drop i) cs = (l.drop (i + 1), true) := by
  rw [drop_at (at_lt h0 h)]; unfold cutO; simp only; rw [if_pos h]
theorem cutO_no {l cs : List UInt8} {i : Nat} (h : cs.contains (atB l i) = false) : cutO (l.drop i) cs = (l.drop i, false) := by
  by_cases hl : i < l.length
  · rw [drop_at hl]; unfold cutO; simp only; rw [if_neg (by rw [h]; simp)]
  · rw [List.drop_eq_nil_of_le (by omega)]; rfl
theorem numF1_drop {l : List UInt8} {i j : Nat} (h : l.drop j = numA (l.drop i)) : l.drop (numF1 l j) = numB (l.drop i) := by
  unfold numF1 numB
  rw [← h]
  by_cases h1 : atB l j = 46
  · rw [cutO_yes (by decide) (by rw [h1]; decide)]
    simp only [if_true]
    cases h2 : digL.contains (atB l (j + 1))
    · rw [if_neg (by simp), pastD_no h2]
    · rw [if_pos ⟨h1, rfl⟩, pastD_yes h2, ahE_drop]
  · rw [if_neg (fun h => h1 h.1), cutO_no (by simpa using h1)]
    simp
theorem numF3_drop {l : List UInt8} {i j : Nat} (h : l.drop j = numB (l.drop i)) : l.drop (numF3 l j) = numC (l.drop i) := by
  unfold numF3 numC
  rw [← h]
  by_cases h1 : atB l j = 69 ∨ atB l j = 101
  · rw [if_pos h1, cutO_yes (by decide) (by rcases h1 with h1 | h1 <;> rw [h1] <;> decide)]
    simp only [if_true]
    unfold numF2
    by_cases h3 : atB l (j + 1) = 43 ∨ atB l (j + 1) = 45
    · rw [if_pos h3, cutO_yes (by decide) (by rcases h3 with h3 | h3 <;> rw [h3] <;> decide)]
      simp only
      cases h2 : digL.contains (atB l (j + 2))
      · rw [if_neg (by simp), pastD_no h2]
      · rw [if_pos rfl, pastD_yes h2, ahE_drop]
    · rw [if_neg h3, cutO_no (by simpa using h3)]
      simp only
      cases h2 : digL.contains (atB l (j + 1))
      · rw [if_neg (by simp), pastD_no h2]
      · rw [if_pos rfl, pastD_yes h2, ahE_drop]
  · rw [if_neg h1, cutO_no (by simpa using h1)]
    simp
theorem numF_drop (l : List UInt8) (i : Nat) : l.drop (numF l i) = numC (l.drop i) := by
  unfold numF
  refine numF3_drop (numF1_drop ?_)
  rw [ahE_drop]; unfold numA; rw [pastD_self]
theorem numF1_le {l : List UInt8} {i : Nat} (h : i ≤ l.length) : i ≤ numF1 l i ∧ numF1 l i ≤ l.length := by
  unfold numF1
  split
  · rename_i h1
    have h2 := (ah_yes dig0 h1.2).1
    have := ahE_le (cs := digL) (Nat.le_of_lt h2)
    omega
  · omega
theorem numF3_le {l : List UInt8} {i : Nat} (h : i ≤ l.length) : i ≤ numF3 l i ∧ numF3 l i ≤ l.length := by
  unfold numF3 numF2
  have key : ∀ k, i ≤ k → (if digL.contains (atB l k) = true then ahE digL l k else i) ≤ l.length ∧ i ≤ (if digL.contains (atB l k) = true then ahE digL l k else i) := fun k hk => by
    split
    · rename_i h1
      have h2 := (ah_yes dig0 h1).1
      have := ahE_le (cs := digL) (Nat.le_of_lt h2)
      omega
    · omega
  split
  · split
    · have := key (i + 2) (by omega); omega
    · have := key (i + 1) (by omega); omega
  · omega
theorem numF_le {l : List UInt8} {i : Nat} (h : i ≤ l.length) : i ≤ numF l i ∧ numF l i ≤ l.length := by
  unfold numF
  have h1 := ahE_le (cs := digL) h
  have h2 := numF1_le h1.2
  have h3 := numF3_le h2.2
  omega
theorem numF_eq {l : List UInt8} {i : Nat} (h : i ≤ l.length) : numF l i = i + numN (l.drop i) := by
  have h1 := congrArg List.length (numF_drop l i)
  have h2 := numF_le h
  unfold numN
  simp only [List.length_drop] at h1 ⊢
  omega
/-- What a text between two quotes is, each quote that comes twice once. -/
def undQ (c : UInt8) : List UInt8 → List UInt8
  | [] => []
  | a :: r => if a = c then (match r with
      | [] => []
      | b :: r' => if b = c then c :: undQ c r' else []) else a :: undQ c r
theorem undQ_other {c a : UInt8} {r : List UInt8} (h : a ≠ c) : undQ c (a :: r) = a :: undQ c r := by
  rw [undQ.eq_def]; simp only [if_neg h]
theorem undQ_two {c : UInt8} {r : List UInt8} : undQ c (c :: c :: r) = c :: undQ c r := by
  rw [undQ.eq_def]; simp
theorem undQ_end {c : UInt8} {r : List UInt8} (h : ∀ b r', r = b :: r' → b ≠ c) : undQ c (c :: r) = [] := by
  rw [undQ.eq_def]
  cases r with
  | nil => simp
  | cons b r' => simp [h b r' rfl]
theorem und_dbl : ∀ (n : Nat) (r : List UInt8), r.length ≤ n → ∀ k, qEnd 34 r = some k → r.take (k - 1) = dblq (undQ 34 r)
  | 0, r, hn, k, h => by
    have : r = [] := List.eq_nil_of_length_eq_zero (by omega)
    subst this
    simp [qEnd] at h
  | n + 1, [], _, k, h => by simp [qEnd] at h
  | n + 1, a :: r, hn, k, h => by
    by_cases e : a = 34
    · subst e
      cases r with
      | nil => rw [qEnd_end (by intro b r' h; cases h)] at h; cases h; rw [undQ_end (by intro b r' h; cases h)]; rfl
      | cons b r' =>
        by_cases e2 : b = 34
        · subst e2
          rw [qEnd_two] at h
          obtain ⟨j, hj, rfl⟩ := Option.map_eq_some_iff.1 h
          have h1 := und_dbl n r' (by simp at hn; omega) j hj
          have h2 := (qEnd_le 34 r'.length r' (Nat.le_refl _) j hj).1
          rw [undQ_two, dblq, if_pos rfl, ← h1]
          rw [show j + 2 - 1 = (j - 1) + 1 + 1 by omega]
          rfl
        · rw [qEnd_end (by intro x y h; cases h; exact e2)] at h; cases h
          rw [undQ_end (by intro x y h; cases h; exact e2)]; rfl
    · rw [qEnd_other e] at h
      obtain ⟨j, hj, rfl⟩ := Option.map_eq_some_iff.1 h
      have h1 := und_dbl n r (by simp at hn; omega) j hj
      have h2 := (qEnd_le 34 r.length r (Nat.le_refl _) j hj).1
      rw [undQ_other e, dblq, if_neg e, ← h1]
      rw [show j + 1 - 1 = (j - 1) + 1 by omega]
      rfl
theorem inner_und {r : List UInt8} {k : Nat} (h : qEnd 34 r = some k) : innerL (34 :: r) = undQ 34 r := by
  have h1 := und_dbl r.length r (Nat.le_refl _) k h
  have h2 := (qEnd_le 34 r.length r (Nat.le_refl _) k h).1
  unfold innerL
  have e : quotedN (34 :: r) = k + 1 := by unfold quotedN; simp only [h]
  rw [e, show k + 1 - 1 = (k - 1) + 1 by omega, List.take_succ_cons, List.drop_succ_cons, List.drop_zero, h1]
  exact ra_und (undQ 34 r).length _ (Nat.le_refl _)
end Go.Proofs.YtgihginfegckcaaGreatDoor
/- lex's document: bytes. -/
namespace Go.Proofs.YtgihginfegckcaaGreatDoor
open Go.RowKit

def digT (n : Nat) : Bool := decide (48 ≤ n) && decide (n ≤ 57)
def letT (n : Nat) : Bool := (decide (65 ≤ n) && decide (n ≤ 90)) || (decide (97 ≤ n) && decide (n ≤ 122)) || decide (n = 95)
def ltrL : List UInt8 := [65, 66, 67, 68, 69, 70, 71, 72, 73, 74, 75, 76, 77, 78, 79, 80, 81, 82, 83, 84, 85, 86, 87, 88, 89, 90, 97, 98, 99, 100, 101, 102, 103, 104, 105, 106, 107, 108, 109, 110, 111, 112, 113, 114, 115, 116, 117, 118, 119, 120, 121, 122, 95]
theorem byte_all (f g : UInt8 → Bool) (h : (List.range 256).all (fun n => f (UInt8.ofNat n) == g (UInt8.ofNat n)) = true) (c : UInt8) : f c = g c := by
  have := List.all_eq_true.1 h c.toNat (List.mem_range.2 c.toNat_lt)
  rw [show UInt8.ofNat c.toNat = c from UInt8.toNat_inj.1 (by simp)] at this
  simpa using this
set_option maxRecDepth 100000 in
theorem dig_T (c : UInt8) : digL.contains c = digT c.toNat := byte_all (fun c => digL.contains c) (fun c => digT c.toNat) (by kernel_rfl) c
set_option maxRecDepth 100000 in
theorem ltr_T (c : UInt8) : ltrL.contains c = letT c.toNat := byte_all (fun c => ltrL.contains c) (fun c => letT c.toNat) (by kernel_rfl) c
set_option maxRecDepth 100000 in
theorem wth_T (c : UInt8) : wthL.contains c = (ltrL.contains c || digL.contains c || decide (c.toNat = 46) || decide (c.toNat = 36)) := byte_all (fun c => wthL.contains c) (fun c => ltrL.contains c || digL.contains c || decide (c.toNat = 46) || decide (c.toNat = 36)) (by kernel_rfl) c
set_option maxRecDepth 100000 in
theorem plc_T (c : UInt8) : plcL.contains c = ((decide (65 ≤ c.toNat) && decide (c.toNat ≤ 90)) || digL.contains c || decide (c.toNat = 36)) := byte_all (fun c => plcL.contains c) (fun c => (decide (65 ≤ c.toNat) && decide (c.toNat ≤ 90)) || digL.contains c || decide (c.toNat = 36)) (by kernel_rfl) c
set_option maxRecDepth 100000 in
theorem bgn_T (c : UInt8) : bgnL.contains c = (ltrL.contains c || decide (c.toNat = 36)) := byte_all (fun c => bgnL.contains c) (fun c => ltrL.contains c || decide (c.toNat = 36)) (by kernel_rfl) c
set_option maxRecDepth 100000 in
set_option maxHeartbeats 1000000 in
theorem atx_any (l : List UInt8) (i : Nat) (w : World) : Calls Tryz.prog 40 #[.string (bs l), .int .i64 (i : Int)] w fun e w' => e = .returned (.int .u8 ((atB l i).toNat : Int)) ∧ w' = w := by
  by_cases h : i < (bs l).size
  · have HG : Hid ((bs l)[i] = atB l i) := atB_bs h
    go_enter Tryz.func40, Tryz.ntmps40
    go_wp2
    go_ret
    exact ⟨by rw [HG.out]; rfl, rfl⟩
  · rw [atB_ge (by rw [bs_size] at h; omega)]
    have t : ¬ ((i : Int) < ((bs l).size : Int)) := by omega
    clear h
    go_enter Tryz.func40, Tryz.ntmps40
    go_wp2
    go_ret
    exact ⟨rfl, rfl⟩
set_option maxHeartbeats 1000000 in
theorem dig_any (c : UInt8) (w : World) : Calls Tryz.prog 35 #[.int .u8 (c.toNat : Int)] w fun e w' => e = .returned (.bool (digL.contains c)) ∧ w' = w := by
  rw [dig_T]
  unfold digT
  by_cases h1 : 48 ≤ c.toNat
  · have h1' : (48 : Int) ≤ (c.toNat : Int) := by omega
    rw [decide_eq_true h1]
    by_cases h2 : c.toNat ≤ 57
    · have h2' : (c.toNat : Int) ≤ 57 := by omega
      rw [decide_eq_true h2]
      clear h1 h2
      go_enter Tryz.func35, Tryz.ntmps35
      go_wp2
      go_ret
      exact ⟨rfl, rfl⟩
    · have h2' : ¬ ((c.toNat : Int) ≤ 57) := by omega
      rw [decide_eq_false h2]
      clear h1 h2
      go_enter Tryz.func35, Tryz.ntmps35
      go_wp2
      go_ret
      exact ⟨rfl, rfl⟩
  · have h1' : ¬ ((48 : Int) ≤ (c.toNat : Int)) := by omega
    rw [decide_eq_false h1]
    clear h1
    go_enter Tryz.func35, Tryz.ntmps35
    go_wp2
    go_ret
    exact ⟨rfl, rfl⟩
set_option maxHeartbeats 1000000 in
theorem ltr_any (c : UInt8) (w : World) : Calls Tryz.prog 43 #[.int .u8 (c.toNat : Int)] w fun e w' => e = .returned (.bool (ltrL.contains c)) ∧ w' = w := by
  rw [ltr_T]
  unfold letT
  by_cases h1 : 65 ≤ c.toNat
  · have h1' : (65 : Int) ≤ (c.toNat : Int) := by omega
    by_cases h2 : c.toNat ≤ 90
    · have h2' : (c.toNat : Int) ≤ 90 := by omega
      rw [decide_eq_true h1, decide_eq_true h2]
      clear h1 h2
      go_enter Tryz.func43, Tryz.ntmps43
      go_wp2
      go_ret
      exact ⟨rfl, rfl⟩
    · have h2' : ¬ ((c.toNat : Int) ≤ 90) := by omega
      rw [decide_eq_true h1, decide_eq_false h2]
      by_cases h3 : 97 ≤ c.toNat
      · have h3' : (97 : Int) ≤ (c.toNat : Int) := by omega
        by_cases h4 : c.toNat ≤ 122
        · have h4' : (c.toNat : Int) ≤ 122 := by omega
          rw [decide_eq_true h3, decide_eq_true h4]
          clear h1 h2 h3 h4
          go_enter Tryz.func43, Tryz.ntmps43
          go_wp2
          go_ret
          exact ⟨rfl, rfl⟩
        · have h4' : ¬ ((c.toNat : Int) ≤ 122) := by omega
          have h5 : ((c.toNat : Int) == 95) = false := by simp; omega
          rw [decide_eq_true h3, decide_eq_false h4, decide_eq_false (show ¬ c.toNat = 95 by omega)]
          clear h1 h2 h3 h4
          go_enter Tryz.func43, Tryz.ntmps43
          go_wp2
          go_ret
          exact ⟨rfl, rfl⟩
      · have h3' : ¬ ((97 : Int) ≤ (c.toNat : Int)) := by omega
        rw [decide_eq_false h3]
        by_cases h5 : c.toNat = 95
        · have h5' : ((c.toNat : Int) == 95) = true := by simp; omega
          rw [decide_eq_true h5]
          clear h1 h2 h3 h5
          go_enter Tryz.func43, Tryz.ntmps43
          go_wp2
          go_ret
          exact ⟨rfl, rfl⟩
        · have h5' : ((c.toNat : Int) == 95) = false := by simp; omega
          rw [decide_eq_false h5]
          clear h1 h2 h3 h5
          go_enter Tryz.func43, Tryz.ntmps43
          go_wp2
          go_ret
          exact ⟨rfl, rfl⟩
  · have h1' : ¬ ((65 : Int) ≤ (c.toNat : Int)) := by omega
    have h3' : ¬ ((97 : Int) ≤ (c.toNat : Int)) := by omega
    have h5' : ((c.toNat : Int) == 95) = false := by simp; omega
    rw [decide_eq_false h1, decide_eq_false (show ¬ 97 ≤ c.toNat by omega), decide_eq_false (show ¬ c.toNat = 95 by omega)]
    clear h1
    go_enter Tryz.func43, Tryz.ntmps43
    go_wp2
    go_ret
    exact ⟨rfl, rfl⟩
set_option maxHeartbeats 1000000 in
theorem plc_any (c : UInt8) (w : World) : Calls Tryz.prog 66 #[.int .u8 (c.toNat : Int)] w fun e w' => e = .returned (.bool (plcL.contains c)) ∧ w' = w := by
  have HD : ∀ W, Hid (Calls Tryz.prog 35 #[.int .u8 (c.toNat : Int)] W fun e w' => e = .returned (.bool (digL.contains c)) ∧ w' = W) := fun W => dig_any c W
  rw [plc_T]
  by_cases h0 : 65 ≤ c.toNat ∧ c.toNat ≤ 90
  · have h1' : (65 : Int) ≤ (c.toNat : Int) := by omega
    have h2' : (c.toNat : Int) ≤ 90 := by omega
    rw [decide_eq_true h0.1, decide_eq_true h0.2]
    clear h0 HD
    go_enter Tryz.func66, Tryz.ntmps66
    go_wp2
    go_ret
    exact ⟨rfl, rfl⟩
  · have e0 : (decide (65 ≤ c.toNat) && decide (c.toNat ≤ 90)) = false := by
      by_cases h : 65 ≤ c.toNat
      · rw [decide_eq_false (fun h2 => h0 ⟨h, h2⟩), Bool.and_false]
      · rw [decide_eq_false h, Bool.false_and]
    rw [e0]
    cases hd : digL.contains c
    · rw [hd] at HD
      by_cases h5 : c.toNat = 36
      · have h5' : ((c.toNat : Int) == 36) = true := by simp; omega
        rw [decide_eq_true h5]
        have h1' : ¬ ((65 : Int) ≤ (c.toNat : Int)) := by omega
        clear h0 h5 e0
        go_enter Tryz.func66, Tryz.ntmps66
        go_wp2_with fail
        refine Calls.mono (HD _).out ?_
        rintro _ w1 ⟨rfl, rfl⟩
        clear HD
        go_wp2
        go_ret
        exact ⟨rfl, rfl⟩
      · have h5' : ((c.toNat : Int) == 36) = false := by simp; omega
        rw [decide_eq_false h5]
        by_cases h1 : 65 ≤ c.toNat
        · have h1' : (65 : Int) ≤ (c.toNat : Int) := by omega
          have h2' : ¬ ((c.toNat : Int) ≤ 90) := by omega
          clear h0 h5 e0 h1
          go_enter Tryz.func66, Tryz.ntmps66
          go_wp2_with fail
          refine Calls.mono (HD _).out ?_
          rintro _ w1 ⟨rfl, rfl⟩
          clear HD
          go_wp2
          go_ret
          exact ⟨rfl, rfl⟩
        · have h1' : ¬ ((65 : Int) ≤ (c.toNat : Int)) := by omega
          clear h0 h5 e0 h1
          go_enter Tryz.func66, Tryz.ntmps66
          go_wp2_with fail
          refine Calls.mono (HD _).out ?_
          rintro _ w1 ⟨rfl, rfl⟩
          clear HD
          go_wp2
          go_ret
          exact ⟨rfl, rfl⟩
    · rw [hd] at HD
      have hb := dig_T c
      rw [hd] at hb
      have h1' : ¬ ((65 : Int) ≤ (c.toNat : Int)) := by
        unfold digT at hb
        intro h
        rw [decide_eq_false (show ¬ c.toNat ≤ 57 by omega), Bool.and_false] at hb
        cases hb
      clear h0 hb e0
      go_enter Tryz.func66, Tryz.ntmps66
      go_wp2_with fail
      refine Calls.mono (HD _).out ?_
      rintro _ w1 ⟨rfl, rfl⟩
      clear HD
      go_wp2
      go_ret
      exact ⟨rfl, rfl⟩
set_option maxHeartbeats 1000000 in
theorem wth_any (c : UInt8) (w : World) : Calls Tryz.prog 67 #[.int .u8 (c.toNat : Int)] w fun e w' => e = .returned (.bool (wthL.contains c)) ∧ w' = w := by
  have HL : ∀ W, Hid (Calls Tryz.prog 43 #[.int .u8 (c.toNat : Int)] W fun e w' => e = .returned (.bool (ltrL.contains c)) ∧ w' = W) := fun W => ltr_any c W
  have HD : ∀ W, Hid (Calls Tryz.prog 35 #[.int .u8 (c.toNat : Int)] W fun e w' => e = .returned (.bool (digL.contains c)) ∧ w' = W) := fun W => dig_any c W
  rw [wth_T]
  cases hl : ltrL.contains c
  · rw [hl] at HL
    cases hd : digL.contains c
    · rw [hd] at HD
      clear hl hd
      by_cases h4 : c.toNat = 46
      · have h4' : ((c.toNat : Int) == 46) = true := by simp; omega
        rw [decide_eq_true h4]
        clear h4
        go_enter Tryz.func67, Tryz.ntmps67
        go_wp2_with fail
        refine Calls.mono (HL _).out ?_
        rintro _ w1 ⟨rfl, rfl⟩
        go_wp2_with fail
        refine Calls.mono (HD _).out ?_
        rintro _ w1 ⟨rfl, rfl⟩
        clear HL HD
        go_wp2
        go_ret
        exact ⟨rfl, rfl⟩
      · have h4' : ((c.toNat : Int) == 46) = false := by simp; omega
        rw [decide_eq_false h4]
        by_cases h5 : c.toNat = 36
        · have h5' : ((c.toNat : Int) == 36) = true := by simp; omega
          rw [decide_eq_true h5]
          clear h4 h5
          go_enter Tryz.func67, Tryz.ntmps67
          go_wp2_with fail
          refine Calls.mono (HL _).out ?_
          rintro _ w1 ⟨rfl, rfl⟩
          go_wp2_with fail
          refine Calls.mono (HD _).out ?_
          rintro _ w1 ⟨rfl, rfl⟩
          clear HL HD
          go_wp2
          go_ret
          exact ⟨rfl, rfl⟩
        · have h5' : ((c.toNat : Int) == 36) = false := by simp; omega
          rw [decide_eq_false h5]
          clear h4 h5
          go_enter Tryz.func67, Tryz.ntmps67
          go_wp2_with fail
          refine Calls.mono (HL _).out ?_
          rintro _ w1 ⟨rfl, rfl⟩
          go_wp2_with fail
          refine Calls.mono (HD _).out ?_
          rintro _ w1 ⟨rfl, rfl⟩
          clear HL HD
          go_wp2
          go_ret
          exact ⟨rfl, rfl⟩
    · rw [hd] at HD
      clear hl hd
      go_enter Tryz.func67, Tryz.ntmps67
      go_wp2_with fail
      refine Calls.mono (HL _).out ?_
      rintro _ w1 ⟨rfl, rfl⟩
      go_wp2_with fail
      refine Calls.mono (HD _).out ?_
      rintro _ w1 ⟨rfl, rfl⟩
      clear HL HD
      go_wp2
      go_ret
      exact ⟨rfl, rfl⟩
  · rw [hl] at HL
    clear hl HD
    go_enter Tryz.func67, Tryz.ntmps67
    go_wp2_with fail
    refine Calls.mono (HL _).out ?_
    rintro _ w1 ⟨rfl, rfl⟩
    clear HL
    go_wp2
    go_ret
    exact ⟨rfl, rfl⟩
end Go.Proofs.YtgihginfegckcaaGreatDoor
/- lex's document: digits, runs of signs, whether a text has a byte. -/
namespace Go.Proofs.YtgihginfegckcaaGreatDoor
open Go.RowKit

set_option maxRecDepth 100000 in
set_option maxHeartbeats 2000000 in
theorem digits_any (l : List UInt8) (i : Nat) (hl : l.length ≤ 140737488351232) (hi : i ≤ l.length) (w : World) : Calls Tryz.prog 60 #[.string (bs l), .int .i64 (i : Int)] w fun e w' => e = .returned (.int .i64 ((ahE digL l i : Nat) : Int)) ∧ w' = w := by
  obtain ⟨r, hr⟩ : ∃ r, ahE digL l i = r := ⟨_, rfl⟩
  rw [hr]
  have HL : Hid (l.length ≤ 140737488351232) := hl
  have HR : Hid (i ≤ l.length ∧ ahE digL l i = r) := ⟨hi, hr⟩
  clear hl hi hr
  go_enter Tryz.func60, Tryz.ntmps60
  go_wp2
  go_loop [1] (fun v1 => ∃ k : Nat, v1 = .int .i64 (k : Int) ∧ Hid (k ≤ l.length ∧ ahE digL l k = r)) (fun v1 => 140737488351233 - (intOf v1).toNat)
  case atStart => exact ⟨i, rfl, HR⟩
  case round =>
    obtain ⟨k, rfl, HK⟩ := hrel
    clear HR
    have HA : ∀ W, Hid (Calls Tryz.prog 40 #[.string (bs l), .int .i64 (k : Int)] W fun e w' => e = .returned (.int .u8 ((atB l k).toNat : Int)) ∧ w' = W) := fun W => atx_any l k W
    have HD : ∀ W, Hid (Calls Tryz.prog 35 #[.int .u8 ((atB l k).toNat : Int)] W fun e w' => e = .returned (.bool (digL.contains (atB l k))) ∧ w' = W) := fun W => dig_any _ W
    have hk : k ≤ 140737488351232 := Nat.le_trans HK.out.1 HL.out
    cases hd : digL.contains (atB l k)
    · rw [hd] at HD
      have HE : Hid (k = r) := by have h1 := HK.out.2; rw [ahE_no hd] at h1; exact h1
      clear hd HK
      generalize atB l k = c at HA HD
      go_wp2_with fail
      refine Calls.mono (HA _).out ?_
      rintro _ w1 ⟨rfl, rfl⟩
      go_wp2_with fail
      refine Calls.mono (HD _).out ?_
      rintro _ w1 ⟨rfl, rfl⟩
      clear HA HD
      go_wp2
      go_ret
      exact ⟨by have h := HE.out; subst h; rfl, rfl⟩
    · rw [hd] at HD
      have HN : Hid (k + 1 ≤ l.length ∧ ahE digL l (k + 1) = r) := ⟨at_lt dig0 hd, by rw [← ahE_yes dig0 hd]; exact HK.out.2⟩
      have hk1 : k + 1 ≤ 140737488351232 := Nat.le_trans HN.out.1 HL.out
      clear hd HK
      generalize atB l k = c at HA HD
      go_wp2_with fail
      refine Calls.mono (HA _).out ?_
      rintro _ w1 ⟨rfl, rfl⟩
      go_wp2_with fail
      refine Calls.mono (HD _).out ?_
      rintro _ w1 ⟨rfl, rfl⟩
      clear HA HD
      go_wp2
      go_round
      case rel => exact ⟨k + 1, by go_num, HN⟩
      case measure => simp [intOf]; omega
set_option maxRecDepth 100000 in
set_option maxHeartbeats 2000000 in
theorem while_w (l : List UInt8) (i : Nat) (hl : l.length ≤ 140737488351232) (hi : i ≤ l.length) (w : World) : Calls Tryz.prog 42 #[.string (bs l), .int .i64 (i : Int), .bool false] w fun e w' => e = .returned (.int .i64 ((ahE wthL l i : Nat) : Int)) ∧ w' = w := by
  obtain ⟨r, hr⟩ : ∃ r, ahE wthL l i = r := ⟨_, rfl⟩
  rw [hr]
  have HR : Hid (ahE wthL l i = r) := hr
  have HS : Hid ((bs l).size = l.length) := bs_size l
  have hsz : (bs l).size ≤ 140737488351232 := by rw [bs_size]; exact hl
  have hi0 : i ≤ (bs l).size := by rw [bs_size]; exact hi
  clear hl hi hr
  go_enter Tryz.func42, Tryz.ntmps42
  go_wp2
  go_loop [1] (fun v1 => ∃ k : Nat, k ≤ (bs l).size ∧ v1 = .int .i64 (k : Int) ∧ Hid (ahE wthL l k = r)) (fun v1 => (bs l).size - (intOf v1).toNat)
  case atStart => exact ⟨i, hi0, rfl, HR⟩
  case round =>
    obtain ⟨k, hk, rfl, HK⟩ := hrel
    clear HR hi0
    by_cases hlt : k < (bs l).size
    · have HG : Hid ((bs l)[k] = atB l k) := atB_bs hlt
      have HC : ∀ W, Hid (Calls Tryz.prog 67 #[.int .u8 ((bs l)[k].toNat : Int)] W fun e w' => e = .returned (.bool (wthL.contains (atB l k))) ∧ w' = W) := fun W => by rw [HG.out]; exact wth_any _ W
      cases hd : wthL.contains (atB l k)
      · rw [hd] at HC
        have HE : Hid (k = r) := by have h1 := HK.out; rw [ahE_no hd] at h1; exact h1
        clear hd HK HG
        go_wp2_with fail
        refine Calls.mono (HC _).out ?_
        rintro _ w1 ⟨rfl, rfl⟩
        clear HC
        go_wp2
        go_ret
        exact ⟨by have h := HE.out; subst h; rfl, rfl⟩
      · rw [hd] at HC
        have HN : Hid (ahE wthL l (k + 1) = r) := by have h1 := HK.out; rw [ahE_yes (by decide) hd] at h1; exact h1
        clear hd HK HG
        go_wp2_with fail
        refine Calls.mono (HC _).out ?_
        rintro _ w1 ⟨rfl, rfl⟩
        clear HC
        go_wp2
        go_round
        case rel => exact ⟨k + 1, by omega, by go_num, HN⟩
        case measure => simp [intOf]; omega
    · have HE : Hid (k = r) := by
        have h1 := HK.out
        have : ahE wthL l k = k := by unfold ahE; rw [List.drop_eq_nil_of_le (by have := HS.out; omega)]; rfl
        rw [this] at h1; exact h1
      clear HK
      go_wp2
      go_ret
      exact ⟨by have h := HE.out; subst h; rfl, rfl⟩
set_option maxRecDepth 100000 in
set_option maxHeartbeats 2000000 in
theorem while_c (l : List UInt8) (i : Nat) (hl : l.length ≤ 140737488351232) (hi : i ≤ l.length) (w : World) : Calls Tryz.prog 42 #[.string (bs l), .int .i64 (i : Int), .bool true] w fun e w' => e = .returned (.int .i64 ((ahE plcL l i : Nat) : Int)) ∧ w' = w := by
  obtain ⟨r, hr⟩ : ∃ r, ahE plcL l i = r := ⟨_, rfl⟩
  rw [hr]
  have HR : Hid (ahE plcL l i = r) := hr
  have HS : Hid ((bs l).size = l.length) := bs_size l
  have hsz : (bs l).size ≤ 140737488351232 := by rw [bs_size]; exact hl
  have hi0 : i ≤ (bs l).size := by rw [bs_size]; exact hi
  clear hl hi hr
  go_enter Tryz.func42, Tryz.ntmps42
  go_wp2
  go_loop [1] (fun v1 => ∃ k : Nat, k ≤ (bs l).size ∧ v1 = .int .i64 (k : Int) ∧ Hid (ahE plcL l k = r)) (fun v1 => (bs l).size - (intOf v1).toNat)
  case atStart => exact ⟨i, hi0, rfl, HR⟩
  case round =>
    obtain ⟨k, hk, rfl, HK⟩ := hrel
    clear HR hi0
    by_cases hlt : k < (bs l).size
    · have HG : Hid ((bs l)[k] = atB l k) := atB_bs hlt
      have HC : ∀ W, Hid (Calls Tryz.prog 66 #[.int .u8 ((bs l)[k].toNat : Int)] W fun e w' => e = .returned (.bool (plcL.contains (atB l k))) ∧ w' = W) := fun W => by rw [HG.out]; exact plc_any _ W
      cases hd : plcL.contains (atB l k)
      · rw [hd] at HC
        have HE : Hid (k = r) := by have h1 := HK.out; rw [ahE_no hd] at h1; exact h1
        clear hd HK HG
        go_wp2_with fail
        refine Calls.mono (HC _).out ?_
        rintro _ w1 ⟨rfl, rfl⟩
        clear HC
        go_wp2
        go_ret
        exact ⟨by have h := HE.out; subst h; rfl, rfl⟩
      · rw [hd] at HC
        have HN : Hid (ahE plcL l (k + 1) = r) := by have h1 := HK.out; rw [ahE_yes (by decide) hd] at h1; exact h1
        clear hd HK HG
        go_wp2_with fail
        refine Calls.mono (HC _).out ?_
        rintro _ w1 ⟨rfl, rfl⟩
        clear HC
        go_wp2
        go_round
        case rel => exact ⟨k + 1, by omega, by go_num, HN⟩
        case measure => simp [intOf]; omega
    · have HE : Hid (k = r) := by
        have h1 := HK.out
        have : ahE plcL l k = k := by unfold ahE; rw [List.drop_eq_nil_of_le (by have := HS.out; omega)]; rfl
        rw [this] at h1; exact h1
      clear HK
      go_wp2
      go_ret
      exact ⟨by have h := HE.out; subst h; rfl, rfl⟩
set_option maxRecDepth 100000 in
set_option maxHeartbeats 2000000 in
theorem has_any (l : List UInt8) (c : UInt8) (hl : l.length ≤ 140737488351232) (w : World) : Calls Tryz.prog 68 #[.string (bs l), .int .u8 (c.toNat : Int)] w fun e w' => e = .returned (.bool (l.contains c)) ∧ w' = w := by
  obtain ⟨r, hr⟩ : ∃ r, l.contains c = r := ⟨_, rfl⟩
  rw [hr]
  have HR : Hid ((l.drop 0).contains c = r) := hr
  have HS : Hid ((bs l).size = l.length) := bs_size l
  have hsz : (bs l).size ≤ 140737488351232 := by rw [bs_size]; exact hl
  clear hl hr
  go_enter Tryz.func68, Tryz.ntmps68
  go_wp2
  go_loop [5] (fun v5 => ∃ k : Nat, k ≤ (bs l).size ∧ v5 = .int .i64 (k : Int) ∧ Hid ((l.drop k).contains c = r)) (fun v5 => (bs l).size - (intOf v5).toNat)
  case atStart => exact ⟨0, by omega, rfl, HR⟩
  case round =>
    obtain ⟨k, hk, rfl, HK⟩ := hrel
    clear HR
    by_cases hlt : k < (bs l).size
    · have HDR : Hid (l.drop k = (bs l)[k] :: l.drop (k + 1)) := drop_step l k hlt
      by_cases hc : (bs l)[k] = c
      · have t : (((bs l)[k].toNat : Int) == (c.toNat : Int)) = true := by rw [hc]; simp
        obtain rfl : r = true := by
          have h1 := HK.out
          rw [HDR.out, hc] at h1
          rw [← h1]; simp
        clear HK HDR hc
        go_wp2
        go_ret
        exact ⟨rfl, rfl⟩
      · have t : (((bs l)[k].toNat : Int) == (c.toNat : Int)) = false := by rw [toNat_eqI]; exact decide_eq_false hc
        have HN : Hid ((l.drop (k + 1)).contains c = r) := by
          have h1 := HK.out
          rw [HDR.out, List.contains_cons] at h1
          rw [show (c == (bs l)[k]) = false from beq_eq_false_iff_ne.2 (fun h => hc h.symm), Bool.false_or] at h1
          exact h1
        clear HK HDR hc
        go_wp2
        go_round
        case rel => exact ⟨k + 1, by omega, by go_num, HN⟩
        case measure => simp [intOf]; omega
    · obtain rfl : r = false := by
        have h1 := HK.out
        rw [List.drop_eq_nil_of_le (by have := HS.out; omega)] at h1
        rw [← h1]; rfl
      clear HK
      go_wp2
      go_ret
      exact ⟨rfl, rfl⟩
end Go.Proofs.YtgihginfegckcaaGreatDoor
/- lex's document: a reference between two places. -/
namespace Go.Proofs.YtgihginfegckcaaGreatDoor
open Go.RowKit

theorem Tryz.zero35 : (Tryz.prog.info? 35).map (fun i => (i.zero, i.size)) = some (some (.agg #[.int .i64 0, .int .i64 0, .string .empty, .int .i64 0, .int .i64 0, .string .empty, .int .i64 0, .int .i64 0, .bool false, .bool false]), 10) := by kernel_rfl
theorem load35 {W : World} {B : Nat} {cs : Array Value} (h : Row W B 35 cs) (hs : cs.size = 10) : (loadVar 35 ⟨B, 0, none⟩).run Tryz.prog W = .ok (.agg cs) W :=
  run_loadVar_row _ _ 35 35 cs (0, 0) _ h Tryz.underlying35 rfl (by rw [hs]; exact (zero_of_info Tryz.zero35).2)
/-- A text between two places. -/
def cutL (l : List UInt8) (i k : Nat) : List UInt8 := (l.take k).drop i
theorem bs_cut (l : List UInt8) (i k : Nat) : (bs l).extract i k = bs (cutL l i k) := by
  refine bs_ext ?_
  rw [Lib.extract_data]
  show List.take (k - i) (List.drop i l) = _
  unfold cutL
  rw [List.drop_take]
theorem cut_take (l : List UInt8) (i n : Nat) : cutL l i (i + n) = (l.drop i).take n := by
  unfold cutL
  rw [List.drop_take]; congr 1; omega
set_option maxRecDepth 100000 in
set_option maxHeartbeats 1000000 in
theorem rf_raw (l : List UInt8) (i k : Nat) (xs : ByteArray) (xc xr : Int) (xa xb : Bool) (er : Int) (w : World) (hik : i ≤ k) (hk2 : k ≤ (bs l).size)
    (h3 : ∀ W, Hid (Calls Tryz.prog 65 #[.string ((bs l).extract i k)] W fun e w' => e = .returned (.tuple #[.agg #[.string xs, .int .i64 xc, .int .i64 xr, .bool xa, .bool xb], .int .i64 er]) ∧ Below W.heap.size W w')) :
    Calls Tryz.prog 41 #[.string (bs l), .int .i64 (i : Int), .int .i64 (k : Int)] w fun e w' => e = tokR ⟨3, (i : Int), [], 0, 0, ⟨xs, xc, xr, xa, xb⟩⟩ k er ∧ Below w.heap.size w w' := by
  have t1 : (i : Int) ≤ (k : Int) := by omega
  have t2 : (k : Int) ≤ ((bs l).size : Int) := by omega
  have HZ : ∀ W, Below (w.alloc (.cells z10 35)).heap.size (w.alloc (.cells z10 35)) W → Hid (Row W w.heap.size 35 z10 ∧ Below w.heap.size w W) := fun W hW => one_row w W _ _ hW
  unfold z10 at HZ
  go_enter Tryz.func41, Tryz.ntmps41
  go_wp2_with fail
  refine Calls.mono (h3 _).out ?_
  rintro _ w2 ⟨rfl, q2⟩
  obtain ⟨hZ, hB⟩ := (HZ _ q2).out
  clear q2 h3 HZ
  obtain ⟨c0, c1, c2, c3, c4, c5, c6, c7, c8, c9⟩ := hZ.ten
  have fZ := hZ.frozen
  have lZ := hZ.lt
  have hE := (Row.set10 hZ (.int .i64 3) (.int .i64 (i : Int)) (.string .empty) (.int .i64 0) (.int .i64 0) (.string xs) (.int .i64 xc) (.int .i64 xr) (.bool xa) (.bool xb)).alloc (.cells #[.string xs, .int .i64 xc, .int .i64 xr, .bool xa, .bool xb] 32)
  have hF := below_allocS (below_set10 hB (B := w.heap.size) (Nat.le_refl _) (.int .i64 3) (.int .i64 (i : Int)) (.string .empty) (.int .i64 0) (.int .i64 0) (.string xs) (.int .i64 xc) (.int .i64 xr) (.bool xa) (.bool xb)) (.cells #[.string xs, .int .i64 xc, .int .i64 xr, .bool xa, .bool xb] 32)
  clear hZ hB
  go_wp2
  exact bodyPost_ret (ret_three_b (u := 7) (u2 := 8) rfl (g := w.heap.size) rfl rfl rfl (load35 hE rfl)) rfl ⟨rfl, hF⟩
/-- That the document's Parse of references answers parseR. -/
def RefC : Prop := ∀ (l : List UInt8) (W : World), l.length ≤ 1000000 → Calls Tryz.prog 65 #[.string (bs l)] W fun e w' => e = .returned (.tuple #[.agg #[.string (parseR l).1.s, .int .i64 (parseR l).1.c, .int .i64 (parseR l).1.r, .bool (parseR l).1.ac, .bool (parseR l).1.ar], .int .i64 (parseR l).2]) ∧ Below W.heap.size W w'
theorem cut_len (l : List UInt8) (i k : Nat) : (cutL l i k).length ≤ l.length := by unfold cutL; simp; omega
theorem rf_any (hc : RefC) (l : List UInt8) (i k : Nat) (hik : i ≤ k) (hk2 : k ≤ l.length) (hl : l.length ≤ 1000000) (w : World) :
    Calls Tryz.prog 41 #[.string (bs l), .int .i64 (i : Int), .int .i64 (k : Int)] w fun e w' => e = tokR ⟨3, (i : Int), [], 0, 0, (parseR (cutL l i k)).1⟩ k (parseR (cutL l i k)).2 ∧ Below w.heap.size w w' :=
  rf_raw l i k _ _ _ _ _ _ w hik (by rw [bs_size]; exact hk2) (fun W => by
    rw [bs_cut]
    exact hc _ W (by have := cut_len l i k; omega))
end Go.Proofs.YtgihginfegckcaaGreatDoor
