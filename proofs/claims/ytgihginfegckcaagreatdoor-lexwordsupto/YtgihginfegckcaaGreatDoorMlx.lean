import Derived.Test.YtgihginfegckcaaGreatDoorMoo
import Derived.Test.YtgihginfegckcaaGreatDoorLlxM
/- lex's document: Lex. -/
namespace Go.Proofs.YtgihginfegckcaaGreatDoor
open Go.RowKit

def LexPd (w : World) (r : List Tk × Nat × Int) (e : Ending) (w' : World) : Prop := (∃ v, e = .returned (.tuple #[v, .int .i64 (r.2.1 : Int), .int .i64 r.2.2]) ∧ w'.ownsRow w.heap.size 35 10 v r.1.length (tcs r.1)) ∧ Below w.heap.size w w'
def LexJ (w wr : World) (v : Value) (acc : List Tk) : Prop := wr.ownsRow w.heap.size 35 10 v acc.length (tcs acc) ∧ Below w.heap.size w wr
theorem LexJ.below {w wr V : World} {v : Value} {acc : List Tk} (h : LexJ w wr v acc) (hb : Below wr.heap.size wr V) : LexJ w V v acc := ⟨owns_below h.1 hb, h.2.trans (hb.mono h.2.size)⟩
set_option maxRecDepth 100000 in
set_option maxHeartbeats 4000000 in
theorem lexd_raw (l : List UInt8) (hsz : (bs l).size ≤ 512) (w : World) :
    Calls Tryz.prog 8 #[.string (bs l)] w (LexPd w (lexG (l.length + 1) l 0 [])) := by
  have t1 : decide ((512 : Int) < ((bs l).size : Int)) = false := decide_eq_false (by omega)
  have HS : Hid ((bs l).size = l.length) := bs_size l
  obtain ⟨RES, HRES⟩ : ∃ x, Hid (lexG (l.length + 1) l 0 [] = x) := ⟨_, rfl⟩
  rw [HRES.out]
  obtain ⟨i0, hi, hzz⟩ := Option.map_eq_some_iff.1 (show (Tryz.prog.info? 35).map (fun i => (i.zero, i.size, i.bytes)) = some (some (.agg #[.int .i64 0, .int .i64 0, .string .empty, .int .i64 0, .int .i64 0, .string .empty, .int .i64 0, .int .i64 0, .bool false, .bool false]), 10, 88) by kernel_rfl)
  simp only [Prod.mk.injEq] at hzz
  obtain ⟨hz0, hz1, hz2⟩ := hzz
  unfold LexPd
  go_enter Tryz.func8, Tryz.ntmps8
  go_wp2
  go_loopw [5, 6] (fun v5 v6 wr => ∃ (k f : Nat) (acc : List Tk), k ≤ (bs l).size ∧ v6 = .int .i64 (k : Int) ∧ acc.length ≤ k ∧ Hid (l.length - k < f) ∧ Hid (lexG f (l.drop k) k acc = RES) ∧ Hid (LexJ w wr v5 acc)) (fun _ v6 _ => (bs l).size - (intOf v6).toNat)
  case atStart => exact ⟨0, l.length + 1, [], Nat.zero_le _, rfl, Nat.le_refl _, (by show _ < _; omega), HRES, World.ownsRow_nil _ _ _ _, Below.refl _ _⟩
  case round =>
    obtain ⟨k, f, acc, hk, rfl, hacc, HF, HG, HI⟩ := hrel
    clear HRES
    by_cases hlt : k < (bs l).size
    · have HK : Hid (k < (bs l).size) := hlt
      have hlt := hlt
      obtain ⟨y, hy⟩ : ∃ y : UInt8, (bs l)[k]'hlt = y := ⟨_, rfl⟩
      have hdr : l.drop k = y :: l.drop (k + 1) := by rw [drop_step l k hlt, hy]
      obtain ⟨R, hR⟩ : ∃ R, l.drop k = R := ⟨_, rfl⟩
      have HDR : Hid (R = y :: l.drop (k + 1) ∧ l.drop k = R) := ⟨hR ▸ hdr, hR⟩
      rw [hR] at HG
      obtain ⟨f, rfl⟩ : ∃ g, f = g + 1 := ⟨f - 1, by have := HF.out; omega⟩
      have hyI : (((bs l)[k]'hlt).toNat : Int) = (y.toNat : Int) := by rw [hy]
      clear hdr hy
      have e32 := eqI y 32 (by omega)
      by_cases hb : y = 32
      · have HG2 : Hid (lexG f (l.drop (k + 1)) (k + 1) acc = RES) := by show _ = _; rw [← HG.out, HDR.out.1, lexG_blank hb]
        rw [decide_eq_true (show y = UInt8.ofNat 32 from hb)] at e32
        clear hb HG hR
        go_wp2
        go_roundw
        case rel => exact ⟨k + 1, f, acc, by omega, by go_num, by omega, by have := HF.out; have := HS.out; show _ < _; omega, HG2, HI⟩
        case measure => have := HK.out; simp [intOf]; omega
      · rw [decide_eq_false (show ¬ y = UInt8.ofNat 32 from hb)] at e32
        have HAdv : Hid ((oneR R).2.2 = 0 → 1 ≤ (oneR R).2.1 ∧ (oneR R).2.1 ≤ R.length) := oneR_adv
        have HGt : Hid ((oneR R).2.2 = 0 → lexG f (R.drop (oneR R).2.1) (k + (oneR R).2.1) (acc ++ [(oneR R).1.put k]) = RES) := fun h0 => by
          have h1 := HG.out
          rw [HDR.out.1] at h0 h1 ⊢
          rw [lexG_tok hb h0] at h1
          exact h1
        have HGe : Hid ((oneR R).2.2 ≠ 0 → ([], k, (oneR R).2.2) = RES) := fun h0 => by
          have h1 := HG.out
          rw [HDR.out.1] at h0 h1 ⊢
          rw [lexG_err hb h0] at h1
          exact h1
        have HO : ∀ W, Hid (Calls Tryz.prog 22 #[.string (bs l), .int .i64 (k : Int)] W fun e w' => OneP k (oneR R) e ∧ Below W.heap.size W w') := fun W => by
          have hkl : k < l.length := by have := HS.out; omega
          have := one_any l k hkl (by have := HS.out; omega) W
          rw [hR] at this; exact this
        obtain ⟨⟨t, n, er⟩, hone⟩ : ∃ x, oneR R = x := ⟨_, rfl⟩
        rw [hone] at HO HAdv HGt HGe
        simp only at HO HAdv HGt HGe
        clear hone HG hb hR
        go_wp2_with fail
        refine Calls.mono (HO _).out ?_
        rintro _ w3 ⟨⟨t', n', rfl, htn⟩, q3⟩
        clear HO
        have HTN : Hid (er = 0 → t' = t.put k ∧ n' = k + n) := htn
        clear htn
        have HI3 : Hid (LexJ w w3 u5 acc) := HI.out.below q3
        clear HI q3
        unfold tokR Tk.v Tk.cells
        obtain ⟨V, hV⟩ : ∃ V, w3.alloc (.cells #[.int .i64 t'.k, .int .i64 t'.at', .string (bs t'.s), .int .i64 t'.c, .int .i64 t'.e, .string t'.r.s, .int .i64 t'.r.c, .int .i64 t'.r.r, .bool t'.r.ac, .bool t'.r.ar] 35) = V := ⟨_, rfl⟩
        have hRow : Row V w3.heap.size 35 #[.int .i64 t'.k, .int .i64 t'.at', .string (bs t'.s), .int .i64 t'.c, .int .i64 t'.e, .string t'.r.s, .int .i64 t'.r.c, .int .i64 t'.r.r, .bool t'.r.ac, .bool t'.r.ar] := by rw [← hV]; exact Row.new w3 35 _
        have HI4 : Hid (LexJ w V u5 acc) := by rw [← hV]; exact HI3.out.below ((Below.refl _ w3).alloc (Nat.le_refl _) _)
        clear HI3
        obtain ⟨c0, c1, c2, c3, c4, c5, c6, c7, c8, c9⟩ := hRow.ten
        have fZ := hRow.frozen
        have lZ := hRow.lt
        clear hRow
        by_cases h0 : er = 0
        · subst h0
          obtain ⟨hn1, hn2⟩ := HAdv.out rfl
          obtain ⟨rfl, rfl⟩ := HTN.out rfl
          have HG2 : Hid (lexG f (l.drop (k + n)) (k + n) (acc ++ [t.put k]) = RES) := by
            have := HGt.out rfl
            rw [← HDR.out.2, List.drop_drop] at this
            exact this
          have hkn : k + n ≤ (bs l).size := by
            have h1 := congrArg List.length HDR.out.2
            have := HS.out
            simp at h1
            omega
          have hBs := below_allocS HI4.out.2 (.cells (t.put k).cells 35)
          have HNW : Hid (∀ (j : Nat) u, (t.put k).cells.toList[j]? = some u → (V.alloc (.cells (t.put k).cells 35)).cell? ((⟨V.heap.size, 0, none⟩ : Addr).add j) = some u) := by
            intro j u hu
            have hR2 := Row.new V 35 (t.put k).cells
            have h := hR2.cell (i := j) (v := u) (by simpa using hu)
            rw [Go.WideShapes.add_plain]
            simpa using h
          have HHS : Hid (w.heap.size ≤ (V.alloc (.cells (t.put k).cells 35)).heap.size) := hBs.size
          have HOwn : Hid ((V.alloc (.cells (t.put k).cells 35)).ownsRow w.heap.size 35 10 u5 acc.length (tcs acc)) := HI4.out.1.alloc _
          have HBs : Hid (Below w.heap.size w (V.alloc (.cells (t.put k).cells 35))) := hBs
          have HLT : Hid (∀ q, u5.ownBlock = some q → w.heap.size ≤ q) := fun q hq => (HI4.out.1.lt q hq).1
          have hacc2 : acc.length + 1 ≤ 600 := by omega
          unfold Tk.put Tk.cells at HNW HOwn HBs HHS
          unfold Tk.put at hV c0 c1 c2 c3 c4 c5 c6 c7 c8 c9
          simp only at HNW HOwn HBs HHS hV c0 c1 c2 c3 c4 c5 c6 c7 c8 c9
          clear hBs HGt HGe HAdv HTN
          unfold Tk.put
          simp only
          go_wp2_with (at_builtin; refine wpList_append_own2 _ rfl (.tmp 34) (.tmp 36) 26 rfl w.heap.size 35 i0 (.agg #[.int .i64 0, .int .i64 0, .string .empty, .int .i64 0, .int .i64 0, .string .empty, .int .i64 0, .int .i64 0, .bool false, .bool false]) 10 88 Tryz.underlying26 hi hz0 hz1 hz2 rfl (by decide) _ _ _ rfl HOwn.out ⟨V.heap.size, 0, none⟩ 1 1 _ rfl rfl HNW.out (by simp [Value.oneCell']) (by unfold maxLen; omega) (by omega) HHS.out ?_)
          intro v' w4 hown' hgrow hblk
          have HI2 : Hid (LexJ w w4 v' (acc ++ [t.put k])) := by
            refine ⟨?_, ?_⟩
            · rw [List.length_append, tcs_snoc]
              exact hown'
            · exact HBs.out.grown hgrow HHS.out (fun q hq => HLT.out q hq)
          clear hown' hgrow hblk HNW HOwn HBs HHS HLT c0 c1 c2 c3 c4 c5 c6 c7 c8 c9 fZ lZ hV HI4
          go_wp2
          go_roundw
          case rel => exact ⟨k + n, f, acc ++ [t.put k], hkn, by go_num, by simp; omega, by have := HF.out; have := HS.out; show _ < _; omega, HG2, HI2⟩
          case measure => have := HK.out; simp [intOf]; omega
        · have hne : (er != 0) = true := by simpa using h0
          have HR : Hid (([], k, er) = RES) := HGe.out h0
          have HBf : Hid (Below w.heap.size w V) := HI4.out.2
          clear HGt HGe HAdv HTN HF h0 HI4
          go_wp2
          refine bodyPost_ret (results_tmp3 rfl _ _ _) rfl ⟨⟨.slice none 0 0, by rw [← HR.out]; rfl, by rw [← HR.out]; exact World.ownsRow_nil _ _ _ _⟩, HBf.out⟩
    · obtain rfl : k = (bs l).size := by omega
      have HR : Hid ((acc, 0, 0) = RES) := by
        have h1 := HG.out
        rw [List.drop_eq_nil_of_le (by have := HS.out; omega)] at h1
        obtain ⟨f, rfl⟩ : ∃ g, f = g + 1 := ⟨f - 1, by have := HF.out; omega⟩
        show _ = _
        rw [← h1, lexG]
      clear HG HF
      go_wp2
      refine bodyPost_ret (results_tmp3 rfl _ _ _) rfl ⟨⟨_, by rw [← HR.out]; rfl, by rw [← HR.out]; exact HI.out.1⟩, HI.out.2⟩
set_option maxHeartbeats 1000000 in
theorem lexd_any (l : List UInt8) (w : World) : Calls Tryz.prog 8 #[.string (bs l)] w (LexPd w (lexR l)) := by
  unfold lexR
  by_cases h : 512 < (bs l).size
  · rw [if_pos (by rw [bs_size] at h; exact h)]
    have u1 : decide ((512 : Int) < ((bs l).size : Int)) = true := decide_eq_true (by omega)
    have u2 : (512 : Int) < ((bs l).size : Int) := by omega
    unfold LexPd
    go_enter Tryz.func8, Tryz.ntmps8
    go_wp2
    refine bodyPost_ret (results_tmp3 rfl _ _ _) rfl ⟨⟨_, rfl, World.ownsRow_nil _ _ _ _⟩, Below.refl _ _⟩
  · rw [if_neg (by rw [bs_size] at h; omega)]
    exact lexd_raw l (by omega) w
end Go.Proofs.YtgihginfegckcaaGreatDoor
